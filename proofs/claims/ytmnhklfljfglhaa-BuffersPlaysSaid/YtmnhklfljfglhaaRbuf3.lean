/- The document's own buffers: Add. -/
import Derived.Test.YtmnhklfljfglhaaRbuf2
namespace Go.Proofs.Ytmnhklfljfglhaa.Bu
set_option linter.unusedVariables false
set_option linter.unusedSimpArgs false
open Go.RowKit Lift Ik
section
variable {w w' : World} {g bu mo ac p c : Nat} {S : Nat → Prop} {fs : List Nat}
set_option maxRecDepth 100000 in
set_option maxHeartbeats 1600000 in
theorem radd_any (n : Int) (hn : -9223372036854775808 ≤ n ∧ n ≤ 9223372036854775807) (h : RB w g S bu mo fs ac) :
    Calls Try.prog (27) #[.pointer (some ⟨g, 0, none⟩), .int .i64 n] w fun e w' => e = .returned (vi (ask bu mo fs.length ac n.toNat)) ∧ RWent w g S bu mo (addF bu mo fs ac n.toNat) (addA bu mo fs ac n.toNat) w' := by
  obtain ⟨k, hk⟩ : ∃ k : Nat, k = n.toNat := ⟨_, rfl⟩
  rw [← hk]
  have hk63 : (k : Int) ≤ 9223372036854775807 := by omega
  obtain ⟨-, hb2, -, hm2, hlen, -, hact⟩ := h.ok
  have H := Lib.hid h
  clear h
  go_enter (Try.func27), (Try.ntmps27)
  go_upto_if 7 with fail
  go_cut [1] (fun v wx => v = .int .i64 (k : Int) ∧ wx = w)
  case first =>
    by_cases z : n < 0
    · have z0 : decide (n < 0) = true := decide_eq_true z
      have e0 : (0 : Int) = (k : Int) := by omega
      clear hk
      go_wp2_with fail
      go_meet
      exact ⟨by rw [e0], rfl⟩
    · have z0 : decide (n < 0) = false := decide_eq_false z
      have e0 : n = (k : Int) := by omega
      have E0 := Lib.hid e0
      clear hk e0
      go_wp2_with fail
      go_meet
      exact ⟨by rw [E0.out], rfl⟩
  case rest =>
  obtain ⟨rfl, hw⟩ := hcut
  rw [hw]
  clear hw wc
  clear hk hn
  have HA := Lib.hid (rask_nat k hk63 H.out)
  by_cases h0 : ask bu mo fs.length ac k = 0
  · obtain ⟨hkb, hov⟩ := ask_go h0
    obtain ⟨fs1, ac1, HF1, HA1, HLE, ho⟩ : ∃ fs1 ac1, Hid (addF bu mo fs ac k = fs1) ∧ Hid (addA bu mo fs ac k = ac1 + k) ∧ Hid (ac1 + k ≤ bu) ∧ ((over bu ac k = true ∧ fs1 = fs ++ [ac] ∧ ac1 = 0) ∨ (over bu ac k = false ∧ fs1 = fs ∧ ac1 = ac)) := by
      rcases ho : over bu ac k
      · obtain ⟨e1, e2, e3⟩ := add_in (mo := mo) (fs := fs) (show ¬ bu < k by omega) ho
        refine ⟨fs, ac, Lib.hid e2, Lib.hid e3, Lib.hid ?_, .inr ⟨rfl, rfl, rfl⟩⟩
        by_cases hac : ac = 0
        · omega
        · unfold over at ho
          have := of_decide_eq_false ho
          omega
      · obtain ⟨e1, e2, e3⟩ := add_over (mo := mo) (fs := fs) (show ¬ bu < k by omega) ho (hov ho)
        exact ⟨fs ++ [ac], 0, Lib.hid e2, Lib.hid (by rw [e3]; omega), Lib.hid (by omega), .inl ⟨rfl, rfl, rfl⟩⟩
    rw [h0] at HA
    have H0 := Lib.hid h0
    have HOV := Lib.hid hov
    have HOO := Lib.hid ho
    have HO := Lib.hid (fun m => rover_any k (H.out.below (Joins.below_draws w.heap.size w m)) hkb)
    clear h0 hov ho
    go_wp2_with fail
    refine HA.out.mono ?_
    rintro e W1 ⟨rfl, m, rfl⟩
    go_wp2_with fail
    refine (HO.out m).mono ?_
    rintro e W1 ⟨rfl, m', rfl⟩
    have HD : Hid (RB (w.drewN (m + m')) g S bu mo fs ac) := Lib.hid (H.out.below (Joins.below_draws _ w (m + m')))
    go_upto_if 16 with fail
    go_cut [] (fun wx => RWent w g S bu mo fs1 ac1 wx)
    case first =>
      rcases HOO.out with ⟨h1, rfl, rfl⟩ | ⟨h1, rfl, rfl⟩
      · obtain ⟨p, c, hl⟩ := HD.out
        obtain ⟨A1, c1, W1, q, c2, W2, hr1, hr2, hbx, hwent⟩ := hl.grow (HOV.out h1)
        obtain ⟨f0, f1, f2, f3⟩ := hl.facts
        have HR1 := Lib.hid hr1
        have HR2 := Lib.hid hr2
        have HWE := Lib.hid hwent.drawn
        have z2 := hbx.free 2
        have b2 := hbx.cell 2
        simp only [List.getElem?_cons_succ, List.getElem?_cons_zero] at b2
        rw [h1]
        clear hl hr1 hr2 hwent hbx h1 HO HA
        go_wp2_with first
          | (at_builtin; refine wpList_append_run rfl _ _ 23 rfl rfl rfl HR1.out ?_)
          | (at_builtin; refine wpList_append_run rfl _ _ 23 rfl rfl rfl HR2.out ?_)
        go_meet
        exact HWE.out
      · rw [h1]
        clear h1
        go_wp2_with fail
        go_meet
        exact RWent.stay H.out (Joins.below_draws _ _ _)
    case rest =>
    have HC := Lib.hid hcut
    obtain ⟨S1, ⟨p, c, hl⟩, hkp, hsub⟩ := id hcut
    have HKP := Lib.hid hkp
    have HSUB := Lib.hid hsub
    have HL := Lib.hid hl
    have HAP := Lib.hid hl.apart
    have HWS : Hid (IntKind.i64.wrap ((ac1 : Int) + (k : Int)) = (ac1 : Int) + (k : Int)) := Lib.hid (by rw [IntKind.wrap_i64]; have := HLE.out; have := hb2; omega)
    have HWR : Hid (IntKind.i64.wrap ((fs1.length : Nat) : Int) = (fs1.length : Int)) := Lib.hid (by rw [IntKind.wrap_i64]; have := hl.ok.len; omega)
    have hl1 := hl.ok.len
    have ha1 := hl.ok.act
    have l0 : (0 : Int) ≤ (fs1.length : Int) := by omega
    have l1 : (fs1.length : Int) < (fs1.length : Int) + 1 := by omega
    clear hcut hl hkp hsub HO HA HOV HOO HD
    go_upto_region 8 with fail
    refine wp_region_held_drew (S := fun w' => Hid (Keep (· = p) wc w')) (by kernel_rfl) (Lib.hid (Keep.refl _ _).drew) (fun hS => ?_)
    refine wpAnyH_take (i := 0) (v := ?_) rfl (by kernel_rfl) (by kernel_rfl) (by kernel_rfl) (fun _ _ _ h => h) (Or.inl ⟨by rfl, ?_⟩) hS ?_
    rotate_left
    · intro w hw
      go_simp
      try with_reducible rfl
    try simp only [Act.put, List.getElem_toArray, List.getElem_cons_succ, List.getElem_cons_zero, List.setIfInBounds_toArray, List.set_cons_zero, List.set_cons_succ]
    refine wpAnyH_take (i := 1) (v := ?_) rfl (by kernel_rfl) (by kernel_rfl) (by kernel_rfl) (fun _ _ _ h => h) (Or.inl ⟨by rfl, ?_⟩) hS ?_
    rotate_left
    · intro w hw
      go_simp
      try with_reducible rfl
    try simp only [Act.put, List.getElem_toArray, List.getElem_cons_succ, List.getElem_cons_zero, List.setIfInBounds_toArray, List.set_cons_zero, List.set_cons_succ]
    refine wpAnyH_take (i := 2) (v := ?_) rfl (by kernel_rfl) (by kernel_rfl) (by kernel_rfl) (fun _ _ _ h => h) (Or.inl ⟨by rfl, ?_⟩) hS ?_
    rotate_left
    · intro w hw
      go_simp
      try with_reducible rfl
    try simp only [Act.put, List.getElem_toArray, List.getElem_cons_succ, List.getElem_cons_zero, List.setIfInBounds_toArray, List.set_cons_zero, List.set_cons_succ]
    refine wpAnyH_take (i := 3) (v := ?_) rfl (by kernel_rfl) (by kernel_rfl) (by kernel_rfl) (fun _ _ _ h => h) (Or.inl ⟨by rfl, ?_⟩) hS ?_
    rotate_left
    · intro w hw
      have hbx := HL.out.box.keep hw.out (fun e => HAP.out e.symm)
      have f2 := hbx.cell 2
      simp only [List.getElem?_cons_succ, List.getElem?_cons_zero] at f2
      clear hbx
      go_simp
      try with_reducible rfl
    try simp only [Act.put, List.getElem_toArray, List.getElem_cons_succ, List.getElem_cons_zero, List.setIfInBounds_toArray, List.set_cons_zero, List.set_cons_succ]
    refine wpAnyH_take (i := 4) (v := ?_) rfl (by kernel_rfl) (by kernel_rfl) (by kernel_rfl) (fun _ _ _ h => h) (Or.inl ⟨by rfl, ?_⟩) hS ?_
    rotate_left
    · intro w hw
      go_simp
      try with_reducible rfl
    try simp only [Act.put, List.getElem_toArray, List.getElem_cons_succ, List.getElem_cons_zero, List.setIfInBounds_toArray, List.set_cons_zero, List.set_cons_succ]
    refine wpAnyH_take (i := 5) (v := ?_) rfl (by kernel_rfl) (by kernel_rfl) (by kernel_rfl) (fun _ _ _ h => h) (Or.inl ⟨by rfl, ?_⟩) hS ?_
    rotate_left
    · intro w hw
      go_simp
      try with_reducible rfl
    try simp only [Act.put, List.getElem_toArray, List.getElem_cons_succ, List.getElem_cons_zero, List.setIfInBounds_toArray, List.set_cons_zero, List.set_cons_succ]
    refine wpAnyH_take (i := 6) (v := ?_) rfl (by kernel_rfl) (by kernel_rfl) (by kernel_rfl) (fun _ _ _ h => h) (Or.inl ⟨by rfl, ?_⟩) hS ?_
    rotate_left
    · intro w hw
      go_simp
      try with_reducible rfl
    try simp only [Act.put, List.getElem_toArray, List.getElem_cons_succ, List.getElem_cons_zero, List.setIfInBounds_toArray, List.set_cons_zero, List.set_cons_succ]
    refine wpAnyH_take (i := 7) (v := ?_) rfl (by kernel_rfl) (by kernel_rfl) (by kernel_rfl) (fun _ _ _ h => h) (Or.inl ⟨by rfl, ?_⟩) hS ?_
    rotate_left
    · intro w hw
      have hbx := HL.out.box.keep hw.out (fun e => HAP.out e.symm)
      have f2 := hbx.cell 2
      simp only [List.getElem?_cons_succ, List.getElem?_cons_zero] at f2
      clear hbx
      go_simp
      try with_reducible rfl
    try simp only [Act.put, List.getElem_toArray, List.getElem_cons_succ, List.getElem_cons_zero, List.setIfInBounds_toArray, List.set_cons_zero, List.set_cons_succ]
    refine wpAnyH_take (i := 8) (v := ?_) rfl (by kernel_rfl) (by kernel_rfl) (by kernel_rfl) (fun _ _ _ h => h) (Or.inl ⟨by rfl, ?_⟩) hS ?_
    rotate_left
    · intro w hw
      go_simp
      try with_reducible rfl
    try simp only [Act.put, List.getElem_toArray, List.getElem_cons_succ, List.getElem_cons_zero, List.setIfInBounds_toArray, List.set_cons_zero, List.set_cons_succ]
    refine wpAnyH_take (i := 9) (v := ?_) rfl (by kernel_rfl) (by kernel_rfl) (by kernel_rfl) (fun _ _ _ h => h) (Or.inl ⟨by rfl, ?_⟩) hS ?_
    rotate_left
    · intro w hw
      have ew := HWR.out
      go_simp
      try with_reducible rfl
    try simp only [Act.put, List.getElem_toArray, List.getElem_cons_succ, List.getElem_cons_zero, List.setIfInBounds_toArray, List.set_cons_zero, List.set_cons_succ]
    refine wpAnyH_take (i := 10) (v := ?_) rfl (by kernel_rfl) (by kernel_rfl) (by kernel_rfl) (fun _ _ _ h => h) (Or.inl ⟨by rfl, ?_⟩) hS ?_
    rotate_left
    · intro w hw
      go_simp
      try with_reducible rfl
    try simp only [Act.put, List.getElem_toArray, List.getElem_cons_succ, List.getElem_cons_zero, List.setIfInBounds_toArray, List.set_cons_zero, List.set_cons_succ]
    refine wpAnyH_take (i := 11) (v := ?_) rfl (by kernel_rfl) (by kernel_rfl) (by kernel_rfl) (fun _ _ _ h => h) (Or.inl ⟨by rfl, ?_⟩) hS ?_
    rotate_left
    · intro w hw
      go_simp
      try with_reducible rfl
    try simp only [Act.put, List.getElem_toArray, List.getElem_cons_succ, List.getElem_cons_zero, List.setIfInBounds_toArray, List.set_cons_zero, List.set_cons_succ]
    refine wpAnyH_take (i := 12) (v := ?_) rfl (by kernel_rfl) (by kernel_rfl) (by kernel_rfl) (fun _ _ _ h => h) (Or.inl ⟨by rfl, ?_⟩) hS ?_
    rotate_left
    · intro w hw
      go_simp
      try with_reducible rfl
    try simp only [Act.put, List.getElem_toArray, List.getElem_cons_succ, List.getElem_cons_zero, List.setIfInBounds_toArray, List.set_cons_zero, List.set_cons_succ]
    refine wpAnyH_take (i := 13) (v := ?_) rfl (by kernel_rfl) (by kernel_rfl) (by kernel_rfl) (fun _ _ _ h => h) (Or.inl ⟨by rfl, ?_⟩) hS ?_
    rotate_left
    · intro w hw
      have hbx := HL.out.box.keep hw.out (fun e => HAP.out e.symm)
      have f2 := hbx.cell 2
      simp only [List.getElem?_cons_succ, List.getElem?_cons_zero] at f2
      clear hbx
      go_simp
      try with_reducible rfl
    try simp only [Act.put, List.getElem_toArray, List.getElem_cons_succ, List.getElem_cons_zero, List.setIfInBounds_toArray, List.set_cons_zero, List.set_cons_succ]
    refine wpAnyH_take (i := 14) (v := ?_) rfl (by kernel_rfl) (by kernel_rfl) (by kernel_rfl) (fun _ _ _ h => h) (Or.inl ⟨by rfl, ?_⟩) hS ?_
    rotate_left
    · intro w hw
      go_simp
      try with_reducible rfl
    try simp only [Act.put, List.getElem_toArray, List.getElem_cons_succ, List.getElem_cons_zero, List.setIfInBounds_toArray, List.set_cons_zero, List.set_cons_succ]
    refine wpAnyH_take (i := 15) (v := ?_) rfl (by kernel_rfl) (by kernel_rfl) (by kernel_rfl) (fun _ _ _ h => h) (Or.inl ⟨by rfl, ?_⟩) hS ?_
    rotate_left
    · intro w hw
      go_simp
      try with_reducible rfl
    try simp only [Act.put, List.getElem_toArray, List.getElem_cons_succ, List.getElem_cons_zero, List.setIfInBounds_toArray, List.set_cons_zero, List.set_cons_succ]
    refine wpAnyH_take (i := 16) (v := ?_) rfl (by kernel_rfl) (by kernel_rfl) (by kernel_rfl) (fun _ _ _ h => h) (Or.inl ⟨by rfl, ?_⟩) hS ?_
    rotate_left
    · intro w hw
      go_simp
      try with_reducible rfl
    try simp only [Act.put, List.getElem_toArray, List.getElem_cons_succ, List.getElem_cons_zero, List.setIfInBounds_toArray, List.set_cons_zero, List.set_cons_succ]
    refine wpAnyH_take (i := 17) (v := ?_) rfl (by kernel_rfl) (by kernel_rfl) (by kernel_rfl) (fun _ _ _ h => h) (Or.inl ⟨by rfl, ?_⟩) hS ?_
    rotate_left
    · intro w hw
      have hbx := HL.out.box.keep hw.out (fun e => HAP.out e.symm)
      have f2 := hbx.cell 2
      simp only [List.getElem?_cons_succ, List.getElem?_cons_zero] at f2
      clear hbx
      go_simp
      try with_reducible rfl
    try simp only [Act.put, List.getElem_toArray, List.getElem_cons_succ, List.getElem_cons_zero, List.setIfInBounds_toArray, List.set_cons_zero, List.set_cons_succ]
    refine wpAnyH_take (i := 18) (v := ?_) rfl (by kernel_rfl) (by kernel_rfl) (by kernel_rfl) (fun _ _ _ h => h) (Or.inl ⟨by rfl, ?_⟩) hS ?_
    rotate_left
    · intro w hw
      go_simp
      try with_reducible rfl
    try simp only [Act.put, List.getElem_toArray, List.getElem_cons_succ, List.getElem_cons_zero, List.setIfInBounds_toArray, List.set_cons_zero, List.set_cons_succ]
    refine wpAnyH_take (i := 19) (v := ?_) rfl (by kernel_rfl) (by kernel_rfl) (by kernel_rfl) (fun _ _ _ h => h) (Or.inl ⟨by rfl, ?_⟩) hS ?_
    rotate_left
    · intro w hw
      have ew := HWR.out
      go_simp
      try with_reducible rfl
    try simp only [Act.put, List.getElem_toArray, List.getElem_cons_succ, List.getElem_cons_zero, List.setIfInBounds_toArray, List.set_cons_zero, List.set_cons_succ]
    refine wpAnyH_take (i := 20) (v := ?_) rfl (by kernel_rfl) (by kernel_rfl) (by kernel_rfl) (fun _ _ _ h => h) (Or.inl ⟨by rfl, ?_⟩) hS ?_
    rotate_left
    · intro w hw
      have ew := HWR.out
      go_simp
      try with_reducible rfl
    try simp only [Act.put, List.getElem_toArray, List.getElem_cons_succ, List.getElem_cons_zero, List.setIfInBounds_toArray, List.set_cons_zero, List.set_cons_succ]
    refine wpAnyH_take (i := 22) (v := ?_) rfl (by kernel_rfl) (by kernel_rfl) (by kernel_rfl) (fun _ _ _ h => h) (Or.inl ⟨by rfl, ?_⟩) hS ?_
    rotate_left
    · intro w hw
      go_simp
      try with_reducible rfl
    try simp only [Act.put, List.getElem_toArray, List.getElem_cons_succ, List.getElem_cons_zero, List.setIfInBounds_toArray, List.set_cons_zero, List.set_cons_succ]
    refine wpAnyH_ready (rs := [21]) (by kernel_rfl) (by simp) ?_
    refine (AllReadyH.cons rfl (fun K hK => ?_) AllReadyH.nil)
    have f3 := HL.out.facts.2.2.2
    go_simp
    refine hK.out _ _ hS (fun hS => ?_)
    clear hK K f3
    try simp only [Act.put, List.getElem_toArray, List.getElem_cons_succ, List.getElem_cons_zero, List.setIfInBounds_toArray, List.set_cons_zero, List.set_cons_succ]
    refine wpAnyH_take (i := 23) (v := ?_) rfl (by kernel_rfl) (by kernel_rfl) (by kernel_rfl) (fun _ _ _ h => h) (Or.inl ⟨by rfl, ?_⟩) hS ?_
    rotate_left
    · intro w hw
      have ew := HWS.out
      go_simp
      try with_reducible rfl
    try simp only [Act.put, List.getElem_toArray, List.getElem_cons_succ, List.getElem_cons_zero, List.setIfInBounds_toArray, List.set_cons_zero, List.set_cons_succ]
    refine wpAnyH_take (i := 24) (v := ?_) rfl (by kernel_rfl) (by kernel_rfl) (by kernel_rfl) (fun _ _ _ h => h) (Or.inl ⟨by rfl, ?_⟩) hS ?_
    rotate_left
    · intro w hw
      go_simp
      try with_reducible rfl
    try simp only [Act.put, List.getElem_toArray, List.getElem_cons_succ, List.getElem_cons_zero, List.setIfInBounds_toArray, List.set_cons_zero, List.set_cons_succ]
    refine wpAnyH_ready (rs := [25]) (by kernel_rfl) (by simp) ?_
    refine (AllReadyH.cons rfl (fun K hK => ?_) AllReadyH.nil)
    have f3 := HL.out.facts.2.2.2
    have z3 := World.ownsRow.frozenAt HL.out.own fs1.length
    go_simp
    refine hK.out _ _ (Lib.hid ((Keep.refl (fun k => k = p) wc).drew.setCell (p := ⟨p, fs1.length, none⟩) (.inr rfl) _)) (fun hS => ?_)
    clear hK K f3 z3
    try simp only [Act.put, List.getElem_toArray, List.getElem_cons_succ, List.getElem_cons_zero, List.setIfInBounds_toArray, List.set_cons_zero, List.set_cons_succ]
    refine wpAnyH_done (by kernel_rfl) ?_ _
    go_wp2_with fail
    go_ret
    refine ⟨by rw [H0.out]; rfl, ?_⟩
    rw [HF1.out, HA1.out]
    rw [← Int.natCast_add]
    exact RWent.after HKP.out HSUB.out ((HL.out.put HLE.out).post (Below.refl _ _).drew)
  · have hf : addF bu mo fs ac k = fs := by unfold addF; rw [if_neg]; rintro ⟨h, _⟩; exact h0 h
    have ha : addA bu mo fs ac k = ac := by unfold addA; rw [if_neg h0]
    have HF := Lib.hid hf
    have HAA := Lib.hid ha
    obtain ⟨v, hv⟩ : ∃ v, v = ask bu mo fs.length ac k := ⟨_, rfl⟩
    have HV := Lib.hid hv
    rw [← hv] at HA h0
    have d0 : ((v : Int) != 0) = true := by rw [bne_iff_ne]; omega
    clear hf ha hv h0
    go_wp2_with fail
    refine HA.out.mono ?_
    rintro e W1 ⟨rfl, m, rfl⟩
    go_wp2_with fail
    go_ret
    exact ⟨by rw [← HV.out]; rfl, by rw [HF.out, HAA.out]; exact RWent.stay H.out (Joins.below_draws _ _ _)⟩
end
end Go.Proofs.Ytmnhklfljfglhaa.Bu
