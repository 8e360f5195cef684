/- The document's own Live. -/
import Derived.Test.YthhmjjmjicmhdaaVli
namespace Go.Proofs.Ythhmjjmjicmhdaa.Ve
set_option linter.unusedVariables false
set_option linter.unusedSimpArgs false
open Go.RowKit Lift Ik Ed
def lenV : Value → Nat
  | .slice _ n _ => n
  | _ => 0
theorem cut_len {L : List Int} {k : Nat} (h : k < L.length) : (L.take k ++ L.drop (k + 1)).length = L.length - 1 := by rw [List.length_append, List.length_take, List.length_drop]; omega
set_option maxRecDepth 100000 in
set_option maxHeartbeats 25600000 in
theorem rlive_any (y : Y) (w : World) (hy : y.Ok w w.heap.size) (hfew : y.runs.length ≤ 900) :
    Calls Try.prog 32 #[y.v] w fun e w' => ∃ A c, e = .returned (.slice A (liveV y.t).length c) ∧ w'.ownsRow w.heap.size 3 1 (.slice A (liveV y.t).length c) (liveV y.t).length ((liveV y.t).map vi) ∧ Below w.heap.size w w' := by
  have hb0 := Joins.below_alloc1 w y.box
  have HB0 := Lib.hid hb0
  have HY0 := Lib.hid (hy.below hb0)
  have HBV := Lib.hid (Box.new w 44 y.cells)
  have HF : Hid ((fileL y.t).length ≤ 901) := Lib.hid (by unfold fileL Y.t; rw [List.length_append, List.length_map, List.length_map]; split <;> simp <;> omega)
  have HFI := Lib.hid (files_any y.a y.c w.heap.size y.runs (w.alloc y.box) HY0.out.runs (by omega) hb0.size)
  have hwl := i64_of hy.wl
  have hb7 := Nat.le_trans hy.runs.len hy.runs.cap
  unfold maxLen at hb7
  clear hy
  go_enter Try.func32, Try.ntmps32
  go_wp2_with fail
  refine HFI.out.mono ?_
  rintro e W1 ⟨A1, c1, rfl, how, hb1⟩
  obtain ⟨_, _, e1, hc1, hm1, hl1⟩ := own_parts how
  injection e1 with ea _ ec
  subst ea; subst ec
  have HBV1 := Lib.hid (HBV.out.below hb1 (by simp))
  have HBE := Lib.hid (HB0.out.trans (hb1.mono HB0.out.size))
  have HOW := Lib.hid how
  have HSZ := Lib.hid hb1.size
  have HLI := Lib.hid hl1
  have HCC := Lib.hid (show y.runs.length ≤ c1 ∧ c1 ≤ maxLen from ⟨hc1, hm1⟩)
  unfold maxLen at hm1
  clear how hb1 hl1 HFI HBV HY0 hb0
  have p2 : W1.cell? ⟨w.heap.size, 2, none⟩ = some (.int .i64 y.log) := HBV1.out.cell 2
  go_upto_if 12 with fail
  go_cut [3] (fun lv wx => ∃ A c L, lv = .slice A L.length c ∧ Hid (LS w wx (.slice none 0 0) [] A c L) ∧ Hid (L = fileL y.t))
  case first =>
    have e0 : fileL y.t = y.runs.map (·.file) ++ (if y.log = 0 then [] else [y.log]) := by unfold fileL Y.t; rw [List.map_map]; rfl
    have HE := Lib.hid e0
    clear e0
    by_cases h0 : y.log = 0
    · have t0 : (y.log != 0) = false := by rw [bne_eq_false_iff_eq]; exact h0
      have HH := Lib.hid h0
      clear h0
      go_wp2_with fail
      go_meet
      exact ⟨A1, c1, y.runs.map (·.file), by rw [List.length_map], Lib.hid ⟨World.ownsRow_nil _ _ _ _, Lies.p HLI.out fun k hk => ⟨hk, by simp [Value.ownBlock]⟩, by rw [List.length_map]; exact HCC.out.1, HCC.out.2, HBE.out⟩, Lib.hid (by rw [HE.out, if_pos HH.out, List.append_nil])⟩
    · have t0 : (y.log != 0) = true := by rw [bne_iff_ne]; exact h0
      have HH := Lib.hid h0
      obtain ⟨v', V, hr, ho, hon⟩ := more_num (B := (w.alloc y.box).heap.size) (Z := y.runs.map (·.file)) (v := .slice A1 y.runs.length c1) y.log (by rw [List.length_map]; exact HOW.out) (by rw [List.length_map]; omega) HSZ.out
      have hbo := hon.below HOW.out HSZ.out
      obtain ⟨A2, c2, rfl, hc2, hm2, hl2⟩ := own_parts ho
      have HR := Lib.hid hr
      have HO := Lib.hid (show (y.runs.map (·.file) ++ [y.log]).length ≤ c2 ∧ c2 ≤ maxLen ∧ Lies V V.heap.size A2 ((y.runs.map (·.file) ++ [y.log]).map (.int .i64)) from ⟨hc2, hm2, hl2⟩)
      have HBO := Lib.hid hbo
      clear h0 hr ho hon hbo hc2 hm2 hl2
      go_wp2_with (at_builtin; refine wpList_append_run rfl _ _ 23 rfl rfl rfl HR.out ?_)
      go_meet
      exact ⟨A2, c2, y.runs.map (·.file) ++ [y.log], by rw [List.length_append, List.length_map]; rfl, Lib.hid ⟨World.ownsRow_nil _ _ _ _, Lies.p HO.out.2.2 fun k hk => ⟨hk, by simp [Value.ownBlock]⟩, HO.out.1, HO.out.2.1, HBE.out.trans (HBO.out.mono HB0.out.size)⟩, Lib.hid (by rw [HE.out, if_neg HH.out])⟩
  case rest =>
  obtain ⟨A0, c0, L0, rfl, HS0, HL0⟩ := hcut
  clear HBV1 p2 HOW HLI HCC hc1 hm1
  generalize wc = W2 at *
  go_wp2_with fail
  go_loopw [3, 4] (fun lv ov wr => ∃ (A : Option Addr) (c : Nat) (L O : List Int) (Ao : Option Addr) (co : Nat), lv = .slice A L.length c ∧ ov = .slice Ao O.length co ∧ Hid (LS w wr (.slice Ao O.length co) O A c L) ∧ Hid (Lv (fileL y.t) L O) ∧ O.length + L.length ≤ 901) (fun lv _ _ => lenV lv)
  case atStart => exact ⟨A0, c0, L0, [], none, 0, rfl, rfl, HS0, Lib.hid (by rw [← HL0.out]; exact Lv.start _), by rw [HL0.out]; have := HF.out; simpa using this⟩
  case round =>
    obtain ⟨A, c, L, O, Ao, co, rfl, rfl, HS, HV, hle⟩ := hrel
    have hcl := HS.out.len
    have hcm := HS.out.cap
    unfold maxLen at hcm
    by_cases hlt : 0 < L.length
    · have t0 : decide (0 < L.length) = true := decide_eq_true hlt
      obtain ⟨ad, rfl, -, -⟩ := (show Lies wr wr.heap.size A (L.map vi) from HS.out.off.lies).place (by rw [List.length_map]; exact hlt)
      obtain ⟨m0, hm0⟩ : ∃ m, L[0]? = some m := ⟨_, List.getElem?_eq_getElem hlt⟩
      have HM0 := Lib.hid hm0
      clear hm0
      go_wp2_with fail
      go_loopw [5, 6] (fun kv iv wq => ∃ (k j : Nat) (m : Int), k < L.length ∧ j ≤ L.length ∧ kv = .int .i64 (k : Int) ∧ iv = .int .i64 (j : Int) ∧ Hid (LS w wq (.slice Ao O.length co) O (some ad) c L) ∧ Hid (L[k]? = some m) ∧ Hid (∀ y, y ∈ L.take j → m ≤ y)) (fun _ iv _ => L.length + 1 - (intOf iv).toNat)
      case atStart => exact ⟨0, 0, m0, hlt, Nat.zero_le _, rfl, rfl, HS, HM0, Lib.hid fun y hy => by simp at hy⟩
      case round =>
        clear HS HM0 m0
        obtain ⟨k, j, m, hk, hj, rfl, rfl, HS, HM, HA⟩ := hrel
        obtain ⟨ad', had, hab, hcc⟩ := (show Lies wr wr.heap.size (some ad) (L.map vi) from HS.out.off.lies).place (by rw [List.length_map]; exact hlt)
        injection had with had
        subst had
        have hck : wr.cell? (ad.add k) = some (.int .i64 m) := hcc k _ (by rw [List.getElem?_map, HM.out]; rfl)
        by_cases hjl : j < L.length
        · obtain ⟨z, hz⟩ : ∃ z, L[j]? = some z := ⟨_, List.getElem?_eq_getElem hjl⟩
          have hcj : wr.cell? (ad.add j) = some (.int .i64 z) := hcc j _ (by rw [List.getElem?_map, hz]; rfl)
          have HZ := Lib.hid hz
          clear hcc hz
          by_cases hzm : z < m
          · have t1 : decide (z < m) = true := decide_eq_true hzm
            have HZM := Lib.hid hzm
            clear hzm
            go_wp2_with fail
            go_quiet (fail)
            go_wp2_with fail
            go_roundw
            case rel => exact ⟨j, j + 1, z, by omega, by omega, rfl, by go_num, Lib.hid (HS.out.below (Joins.below_draws _ _ _)), HZ, Lib.hid fun y hy => by
              rw [List.take_add_one, HZ.out] at hy
              have := HZM.out
              rcases List.mem_append.1 hy with h | h
              · have := HA.out y h; omega
              · have e : y = z := by simpa using h
                omega⟩
            case measure => simp [intOf]; omega
          · have t1 : decide (z < m) = false := decide_eq_false hzm
            have HZM := Lib.hid hzm
            clear hzm
            go_wp2_with fail
            go_quiet (fail)
            go_wp2_with fail
            go_roundw
            case rel => exact ⟨k, j + 1, m, by omega, by omega, rfl, by go_num, Lib.hid (HS.out.below (Joins.below_draws _ _ _)), HM, Lib.hid fun y hy => by
              rw [List.take_add_one, HZ.out] at hy
              have := HZM.out
              rcases List.mem_append.1 hy with h | h
              · exact HA.out y h
              · have e : y = z := by simpa using h
                omega⟩
            case measure => simp [intOf]; omega
        · obtain rfl : j = L.length := by omega
          clear hcc
          have hmin : ∀ y, y ∈ L → m ≤ y := fun y hy => HA.out y (by rw [List.take_length]; exact hy)
          have HST := Lib.hid (HV.out.step HM.out hmin)
          have hol := Lies.of_own HS.out.own
          have HHA := Lib.hid (has_any O m Ao co wr.heap.size wr hol (by omega))
          obtain ⟨b, hb⟩ : ∃ b, b = decide (m ∈ O) := ⟨_, rfl⟩
          rw [← hb] at HHA
          have HB := Lib.hid hb
          clear hb hol hmin HA
          go_wp2_with fail
          refine HHA.out.mono ?_
          rintro e W3 ⟨rfl, m3, hw3⟩
          have HS3 : Hid (LS w W3 (.slice Ao O.length co) O (some ad) c L) := Lib.hid (by rw [hw3]; exact HS.out.below (Joins.below_draws _ _ _))
          have hck3 : W3.cell? (ad.add k) = some (.int .i64 m) := by rw [hw3]; exact hck
          clear hck hw3 HHA HS
          go_upto_if 43 with fail
          go_cut [4] (fun ov wx => ∃ (Ao' : Option Addr) (co' : Nat) (O' : List Int), ov = .slice Ao' O'.length co' ∧ Hid (LS w wx (.slice Ao' O'.length co') O' (some ad) c L) ∧ Hid (O' = if m ∈ O then O else O ++ [m]))
          case first =>
            rcases b
            · have hno := of_decide_eq_false HB.out.symm
              obtain ⟨v', V, hr, hs⟩ := HS3.out.more m (by omega)
              obtain ⟨O2, hO2⟩ : ∃ O2, O2 = O ++ [m] := ⟨_, rfl⟩
              rw [← hO2] at hs
              obtain ⟨A4, c4, rfl, -, -, -⟩ := own_parts hs.own
              have HR := Lib.hid hr
              have HSV := Lib.hid hs
              have HO2 : Hid (O2 = if m ∈ O then O else O ++ [m]) := Lib.hid (by rw [if_neg hno, hO2])
              clear hr hs hO2 hno
              go_wp2_with (at_builtin; refine wpList_append_run rfl _ _ 23 rfl rfl rfl HR.out ?_)
              go_meet
              exact ⟨A4, c4, O2, rfl, HSV, HO2⟩
            · have hyes := of_decide_eq_true HB.out.symm
              have HO2 : Hid (O = if m ∈ O then O else O ++ [m]) := Lib.hid (by rw [if_pos hyes])
              clear hyes
              go_wp2_with fail
              go_meet
              exact ⟨Ao, co, O, rfl, HS3, HO2⟩
          case rest =>
          obtain ⟨Ao2, co2, O2, rfl, HS4, HO2⟩ := hcut
          have hO2 : O2.length + (L.length - 1) ≤ 901 := by rw [HO2.out]; split <;> (try simp only [List.length_append, List.length_singleton]) <;> omega
          have HST2 : Hid (Lv (fileL y.t) (L.take k ++ L.drop (k + 1)) O2) := Lib.hid (by rw [HO2.out]; exact HST.out)
          clear HS3 hck3 HST HO2 HV HB
          generalize wc = W4 at *
          go_upto_region 14 with fail
          have HSD := Lib.hid (HS4.out.below (Below.refl W4.heap.size W4).drew)
          obtain ⟨A2, hA2, hs2⟩ := drop_at1 (some ad) L.length c (k + 1) (by omega) hcl hcm
          have hs1 := upto_at1 (some ad) L.length c k (by omega) hcl hcm
          have hpc : ((k + 1 : Nat) : Int) = (k : Int) + 1 := by omega
          rw [hpc] at hs2
          have hwr : IntKind.i64.wrap ((k : Int) + 1) = (k : Int) + 1 := by rw [IntKind.wrap_i64]; omega
          obtain ⟨A3, c3, V1, A4, c4, V4, hr1, hr4, ho4, hb1, hb4⟩ := cut_ints (c := c) (c2 := c - (k + 1)) (V := W4.drew) hk (by omega) HSD.out.off.lies hA2
          have hcl2 := cut_len hk
          obtain ⟨L4, hL4⟩ : ∃ L4, L4 = L.take k ++ L.drop (k + 1) := ⟨_, rfl⟩
          rw [← hL4] at ho4 HST2 hcl2
          rw [← hcl2] at ho4 hr4
          have HN := Lib.hid (HSD.out.renew hb4 ho4)
          have HR1 := Lib.hid hr1
          have HR4 := Lib.hid hr4
          have HB1 := Lib.hid hb1
          have HB4 := Lib.hid hb4
          have h8 : L4.length + 1 = L.length := by omega
          clear hA2 hr1 hr4 ho4 hb1 hb4 hL4 hcl2
          refine wp_region_held_drew (S := fun w' => Hid (Below W4.drew.heap.size W4.drew w')) (by kernel_rfl) (Lib.hid (Below.refl _ _)) (fun hS => ?_)
          refine wpAnyH_take (i := 0) (v := ?_) rfl (by kernel_rfl) (by kernel_rfl) (by kernel_rfl) (fun _ _ _ h => h) (Or.inl ⟨by rfl, ?_⟩) hS ?_
          rotate_left
          · intro wi hw
            go_simp
            try with_reducible rfl
          try simp only [Act.put, List.getElem_toArray, List.getElem_cons_succ, List.getElem_cons_zero, List.setIfInBounds_toArray, List.set_cons_zero, List.set_cons_succ]
          refine wpAnyH_take (i := 1) (v := ?_) rfl (by kernel_rfl) (by kernel_rfl) (by kernel_rfl) (fun _ _ _ h => h) (Or.inl ⟨by rfl, ?_⟩) hS ?_
          rotate_left
          · intro wi hw
            go_simp
            try with_reducible rfl
          try simp only [Act.put, List.getElem_toArray, List.getElem_cons_succ, List.getElem_cons_zero, List.setIfInBounds_toArray, List.set_cons_zero, List.set_cons_succ]
          refine wpAnyH_take (i := 2) (v := ?_) rfl (by kernel_rfl) (by kernel_rfl) (by kernel_rfl) (fun _ _ _ h => h) (Or.inl ⟨by rfl, ?_⟩) hS ?_
          rotate_left
          · intro wi hw
            go_simp
            try with_reducible rfl
          try simp only [Act.put, List.getElem_toArray, List.getElem_cons_succ, List.getElem_cons_zero, List.setIfInBounds_toArray, List.set_cons_zero, List.set_cons_succ]
          refine wpAnyH_take (i := 4) (v := ?_) rfl (by kernel_rfl) (by kernel_rfl) (by kernel_rfl) (fun _ _ _ h => h) (Or.inl ⟨by rfl, ?_⟩) hS ?_
          rotate_left
          · intro wi hw
            go_simp
            try with_reducible rfl
          try simp only [Act.put, List.getElem_toArray, List.getElem_cons_succ, List.getElem_cons_zero, List.setIfInBounds_toArray, List.set_cons_zero, List.set_cons_succ]
          refine wpAnyH_take (i := 5) (v := ?_) rfl (by kernel_rfl) (by kernel_rfl) (by kernel_rfl) (fun _ _ _ h => h) (Or.inl ⟨by rfl, ?_⟩) hS ?_
          rotate_left
          · intro wi hw
            go_simp
            try with_reducible rfl
          try simp only [Act.put, List.getElem_toArray, List.getElem_cons_succ, List.getElem_cons_zero, List.setIfInBounds_toArray, List.set_cons_zero, List.set_cons_succ]
          refine wpAnyH_take (i := 6) (v := ?_) rfl (by kernel_rfl) (by kernel_rfl) (by kernel_rfl) (fun _ _ _ h => h) (Or.inl ⟨by rfl, ?_⟩) hS ?_
          rotate_left
          · intro wi hw
            go_simp
            try with_reducible rfl
          try simp only [Act.put, List.getElem_toArray, List.getElem_cons_succ, List.getElem_cons_zero, List.setIfInBounds_toArray, List.set_cons_zero, List.set_cons_succ]
          refine wpAnyH_take (i := 7) (v := ?_) rfl (by kernel_rfl) (by kernel_rfl) (by kernel_rfl) (fun _ _ _ h => h) (Or.inl ⟨by rfl, ?_⟩) hS ?_
          rotate_left
          · intro wi hw
            go_simp
            try with_reducible rfl
          try simp only [Act.put, List.getElem_toArray, List.getElem_cons_succ, List.getElem_cons_zero, List.setIfInBounds_toArray, List.set_cons_zero, List.set_cons_succ]
          refine wpAnyH_ready (rs := [3]) (by kernel_rfl) (by simp) ?_
          refine (AllReadyH.cons rfl (fun K hK => ?_) AllReadyH.nil)
          refine held_append rfl _ _ 23 rfl rfl rfl HR1.out ?_
          refine hK.out _ _ HB1 (fun hS => ?_)
          clear hK K
          try simp only [Act.put, List.getElem_toArray, List.getElem_cons_succ, List.getElem_cons_zero, List.setIfInBounds_toArray, List.set_cons_zero, List.set_cons_succ]
          refine wpAnyH_ready (rs := [8]) (by kernel_rfl) (by simp) ?_
          refine (AllReadyH.cons rfl (fun K hK => ?_) AllReadyH.nil)
          refine held_append rfl _ _ 23 rfl rfl rfl HR4.out ?_
          refine hK.out _ _ HB4 (fun hS => ?_)
          clear hK K
          try simp only [Act.put, List.getElem_toArray, List.getElem_cons_succ, List.getElem_cons_zero, List.setIfInBounds_toArray, List.set_cons_zero, List.set_cons_succ]
          refine wpAnyH_take (i := 9) (v := ?_) rfl (by kernel_rfl) (by kernel_rfl) (by kernel_rfl) (fun _ _ _ h => h) (Or.inl ⟨by rfl, ?_⟩) hS ?_
          rotate_left
          · intro wi hw
            go_simp
            try with_reducible rfl
          try simp only [Act.put, List.getElem_toArray, List.getElem_cons_succ, List.getElem_cons_zero, List.setIfInBounds_toArray, List.set_cons_zero, List.set_cons_succ]
          refine wpAnyH_done (by kernel_rfl) ?_ _
          go_wp2_with fail
          go_roundw
          case rel => exact ⟨A4, c4, L4, O2, Ao2, co2, rfl, rfl, HN, HST2, by omega⟩
          case measure => simp [lenV]; omega
    · have hl0 : L = [] := List.eq_nil_of_length_eq_zero (by omega)
      have t0 : decide (0 < L.length) = false := decide_eq_false hlt
      have HO : Hid (O = liveV y.t) := Lib.hid (by have := HV.out; rw [hl0] at this; exact this.stop)
      clear hl0
      go_wp2_with fail
      go_ret
      refine ⟨Ao, co, by rw [← HO.out]; rfl, ?_, HS.out.be⟩
      rw [← HO.out]
      exact HS.out.own
end Go.Proofs.Ythhmjjmjicmhdaa.Ve
