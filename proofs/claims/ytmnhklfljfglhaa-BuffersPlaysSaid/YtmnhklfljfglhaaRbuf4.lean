/- The document's own buffers: Seal, Done, Sizes, Bytes. -/
import Derived.Test.YtmnhklfljfglhaaRbuf2
namespace Go.Proofs.Ytmnhklfljfglhaa.Bu
set_option linter.unusedVariables false
set_option linter.unusedSimpArgs false
open Go.RowKit Lift Ik
section
variable {w w' : World} {g bu mo ac p c : Nat} {S : Nat → Prop} {fs : List Nat}
set_option maxRecDepth 100000 in
set_option maxHeartbeats 800000 in
theorem rseal_any (h : RB w g S bu mo fs ac) :
    Calls Try.prog (29) #[.pointer (some ⟨g, 0, none⟩)] w fun e w' => e = .returned (.bool (sealB mo fs ac)) ∧ RWent w g S bu mo (if sealB mo fs ac = true then fs ++ [ac] else fs) (if sealB mo fs ac = true then 0 else ac) w' := by
  obtain ⟨p, c, hl⟩ := id h
  obtain ⟨-, hb2, -, hm2, hlen, -, hact⟩ := hl.ok
  obtain ⟨f0, f1, f2, f3⟩ := hl.facts
  have l0 : (0 : Int) ≤ (fs.length : Int) := by omega
  have l1 : (fs.length : Int) < (fs.length : Int) + 1 := by omega
  have H := Lib.hid h
  have HL := Lib.hid hl
  clear h hl
  go_enter (Try.func29), (Try.ntmps29)
  by_cases h0 : ac = 0
  · have hs : sealB mo fs ac = false := by unfold sealB; exact decide_eq_false (by omega)
    rw [hs]
    clear hs
    subst h0
    have f3' : w.cell? ⟨p, fs.length, none⟩ = some (.int .i64 0) := f3
    clear f3
    go_wp2_with fail
    go_quiet (fail)
    go_wp2_with fail
    go_ret
    exact ⟨rfl, RWent.stay H.out (Joins.below_draws _ _ _)⟩
  · have d0 : decide (ac = 0) = false := decide_eq_false h0
    have d1 : ((ac : Int) == 0) = false := by rw [beq_eq_false_iff_ne]; omega
    have d2 : decide ((ac : Int) = 0) = false := decide_eq_false (by omega)
    by_cases hr : fs.length < mo
    · have hs : sealB mo fs ac = true := by unfold sealB; exact decide_eq_true ⟨by omega, hr⟩
      have d3 : decide (mo ≤ fs.length) = false := decide_eq_false (by omega)
      have HR := Lib.hid hr
      rw [hs]
      clear hs hr h0
      go_wp2_with fail
      go_quiet (fail)
      have hl := HL.out.same (w' := w.drewN nq) (fun _ _ => rfl) (Nat.le_refl _)
      obtain ⟨A1, c1, W1, q, c2, W2, hr1, hr2, hbx, hwent⟩ := hl.grow HR.out
      obtain ⟨g0, g1, g2, g3⟩ := hl.facts
      have HR1 := Lib.hid hr1
      have HR2 := Lib.hid hr2
      have HWE := Lib.hid hwent.drawn
      have z2 := hbx.free 2
      have b2 := hbx.cell 2
      simp only [List.getElem?_cons_succ, List.getElem?_cons_zero] at b2
      clear hl hr1 hr2 hwent hbx
      go_wp2_with first
        | (at_builtin; refine wpList_append_run rfl _ _ 23 rfl rfl rfl HR1.out ?_)
        | (at_builtin; refine wpList_append_run rfl _ _ 23 rfl rfl rfl HR2.out ?_)
      go_ret
      exact ⟨rfl, HWE.out⟩
    · have hs : sealB mo fs ac = false := by unfold sealB; exact decide_eq_false (by omega)
      have d3 : decide (mo ≤ fs.length) = true := decide_eq_true (by omega)
      rw [hs]
      clear hs hr h0
      go_wp2_with fail
      go_quiet (fail)
      go_wp2_with fail
      go_ret
      exact ⟨rfl, RWent.stay H.out (Joins.below_draws _ _ _)⟩
set_option maxRecDepth 100000 in
set_option maxHeartbeats 800000 in
theorem rdone_any (h : RB w g S bu mo fs ac) :
    Calls Try.prog (31) #[.pointer (some ⟨g, 0, none⟩)] w fun e w' => e = .returned (.bool (decide (0 < fs.length))) ∧ RWent w g S bu mo fs.tail ac w' := by
  obtain ⟨p, c, hl⟩ := id h
  obtain ⟨-, hb2, -, hm2, hlen, -, hact⟩ := hl.ok
  obtain ⟨f0, f1, f2, f3⟩ := hl.facts
  have H := Lib.hid h
  have HL := Lib.hid hl
  clear h hl
  rcases fs with _ | ⟨f, fs⟩
  · go_enter (Try.func31), (Try.ntmps31)
    go_wp2_with fail
    go_ret
    exact ⟨rfl, RWent.stay H.out (Below.refl _ _)⟩
  · simp only [List.length_cons, List.tail_cons] at f2 hlen ⊢
    obtain ⟨A', hA, -, hcut⟩ := cut_one (some ⟨p, 0, none⟩) (fs.length + 1 + 1) c (by omega) HL.out.cap.1 HL.out.cap.2
    rw [Nat.add_sub_cancel] at hA hcut
    obtain rfl := hA (by omega)
    have hlie : Lies w w.heap.size (some ((⟨p, 0, none⟩ : Addr).add 1)) ((fs ++ [ac]).map vi) := by
      rcases HL.out.lies.lies (B := w.heap.size) (fun k hk => HL.out.lt k hk.1) with h | ⟨ad, e, hb, hc⟩
      · simp at h
      · injection e with e
        subst e
        refine .inr ⟨_, rfl, by rw [add_block]; exact hb, fun j u hj => ?_⟩
        rw [Lift.add_add, Nat.add_comm]
        exact hc (j + 1) u (by simpa using hj)
    obtain ⟨A2, c2, W2, hr1, ho2, hb⟩ := fresh_ints (some ((⟨p, 0, none⟩ : Addr).add 1)) (c - 1) w.heap.size (fs.length + 1) (fs ++ [ac]) w hlie (by simp) (by omega)
    obtain ⟨q, c3, hv, -, -⟩ := own_some ho2
    injection hv with hv1 _ hv2
    subst hv1
    subst hv2
    have hbx := HL.out.box.below hb (HL.out.lt g HL.out.sg)
    have z2 := hbx.free 2
    have b2 := hbx.cell 2
    simp only [List.getElem?_cons_succ, List.getElem?_cons_zero, List.length_cons] at b2
    have HR1 := Lib.hid hr1
    have HO2 := Lib.hid ho2
    have HB := Lib.hid hb
    have d0 : decide (((fs.length : Int) + 1 + 1) < 2) = false := decide_eq_false (by omega)
    have d1 : decide (fs.length + 1 + 1 < 2) = false := decide_eq_false (by omega)
    have hcut2 : ∀ W : World, Sem.run Try.prog (Instr.slice 23 (.slice (some ⟨p, 0, none⟩) (fs.length + 1 + 1) c) (some (.int .i64 1)) none none) W = .ok (.slice (some ((⟨p, 0, none⟩ : Addr).add 1)) (fs.length + 1) (c - 1)) W := hcut
    simp only [Option.map_some] at hcut
    clear hlie hr1 ho2 hb hbx hA
    obtain ⟨ad1, had1⟩ : ∃ ad1, ad1 = (⟨p, 0, none⟩ : Addr).add 1 := ⟨_, rfl⟩
    rw [← had1] at HR1 hcut hcut2
    have HAD := Lib.hid had1
    clear had1 hcut
    go_enter (Try.func31), (Try.ntmps31)
    go_wp2_with (at_builtin; refine wpList_append_run rfl _ _ 23 rfl rfl rfl HR1.out ?_)
    go_ret
    refine ⟨rfl, ?_⟩
    obtain ⟨b1, b2, m1, m2, hl, he, ha⟩ := H.out.ok
    rw [List.length_cons] at hl
    exact HL.out.fresh HB.out HO2.out rfl ⟨b1, b2, m1, m2, by omega, fun x hx => he x (List.mem_cons_of_mem _ hx), ha⟩
theorem rsizes_any (h : RB w g S bu mo fs ac) : Calls Try.prog (34) #[.pointer (some ⟨g, 0, none⟩)] w (Ints w.heap.size w (fs ++ [ac])) := by
  obtain ⟨p, c, h⟩ := h
  obtain ⟨f0, f1, f2, f3⟩ := h.facts
  have hlen : fs.length ≤ 1000 := by have := h.ok.m2; have := h.ok.len; omega
  obtain ⟨A2, c2, W2, hr1, ho2, hb⟩ := fresh_ints (some ⟨p, 0, none⟩) c w.heap.size (fs.length + 1) (fs ++ [ac]) w (h.lies.lies fun k hk => h.lt k hk.1) (by simp) (by omega)
  have HR1 := Lib.hid hr1
  have HO2 := Lib.hid ho2
  have HB := Lib.hid hb
  clear h hr1 ho2 hb
  go_enter (Try.func34), (Try.ntmps34)
  go_wp2_with (at_builtin; refine wpList_append_run rfl _ _ 23 rfl rfl rfl HR1.out ?_)
  go_ret
  exact ⟨_, rfl, by rw [List.length_append]; exact HO2.out, HB.out⟩
set_option maxHeartbeats 400000 in
theorem rbytes_any (h : RB w g S bu mo fs ac) : Calls Try.prog (36) #[.pointer (some ⟨g, 0, none⟩)] w fun e w' => e = .returned (vi (fs ++ [ac]).sum) ∧ w = w' := by
  obtain ⟨p, c, hl⟩ := h
  obtain ⟨-, hb2, -, hm2, hlen, heach, hact⟩ := hl.ok
  obtain ⟨f0, f1, f2, f3⟩ := hl.facts
  obtain ⟨K, hK⟩ : ∃ K, K = fs ++ [ac] := ⟨_, rfl⟩
  have hkl : K.length = fs.length + 1 := by rw [hK]; simp
  have hke : ∀ x, x ∈ K → x ≤ bu := fun x hx => by
    rw [hK] at hx
    exact (List.mem_append.1 hx).elim (heach x) fun h => by rw [List.mem_singleton.1 h]; exact hact
  have HS : Hid (∀ i, i ≤ K.length → (K.take i).sum ≤ 108447924224) := Lib.hid fun i hi => Nat.le_trans (sum_part hke i hi) (Nat.le_trans (Nat.mul_le_mul (show K.length ≤ 101 by omega) hb2) (by decide))
  have hcl : ∀ (j x : Nat), K[j]? = some x → w.cell? ((⟨p, 0, none⟩ : Addr).add j) = some (.int .i64 (x : Int)) := fun j x hx => by
    rw [hK] at hx
    rcases hl.lies with h | ⟨ad, e, hb, hc⟩
    · simp at h
    · injection e with e
      subst e
      exact hc j _ (by rw [List.getElem?_map, hx]; rfl)
  have HCL := Lib.hid hcl
  have HE := Lib.hid hke
  rw [← hK]
  have HKL := Lib.hid hkl
  have hk1 : K.length ≤ 101 := by omega
  have e2 : w.cell? ⟨g, 2, none⟩ = some (.slice (some ⟨p, 0, none⟩) K.length c) := by rw [hkl]; exact f2
  clear hl heach f2 hcl hke hK hkl f3
  go_enter (Try.func36), (Try.ntmps36)
  go_wp2_with fail
  go_loopw [3, 4] (fun s i wr => ∃ j t : Nat, j ≤ K.length ∧ s = .int .i64 (t : Int) ∧ i = .int .i64 (j : Int) ∧ Hid (t = (K.take j).sum) ∧ wr = w) (fun _ i _ => K.length + 1 - (intOf i).toNat)
  case atStart => exact ⟨0, 0, Nat.zero_le _, rfl, rfl, Lib.hid rfl, rfl⟩
  case round =>
    obtain ⟨j, t, hj, rfl, rfl, ht, rfl⟩ := hrel
    have hs := HS.out j hj
    have ht2 := ht.out
    have hs2 : t ≤ 108447924224 := by omega
    clear hs ht2
    by_cases hlt : j < K.length
    · obtain ⟨x, hx⟩ : ∃ x, K[j]? = some x := ⟨_, List.getElem?_eq_getElem hlt⟩
      have hce := HCL.out j x hx
      have hce2 : wr.cell? ⟨p, j, none⟩ = some (.int .i64 (x : Int)) := by
        have := hce
        rw [Addr.add_lit, Nat.zero_add] at this
        exact this
      have hxb := HE.out x (List.mem_of_getElem? hx)
      have HX := Lib.hid hx
      clear hx
      go_wp2_with fail
      go_roundw
      case rel => exact ⟨j + 1, t + x, by omega, by go_num, by go_num, Lib.hid (by rw [sum_take HX.out, ht.out]), trivial⟩
      case measure => simp [intOf]; omega
    · obtain rfl : j = K.length := by omega
      go_wp2_with fail
      go_ret
      exact ⟨by have := ht.out; rw [List.take_length] at this; rw [← this]; rfl, rfl⟩
end
end Go.Proofs.Ytmnhklfljfglhaa.Bu
