/- Package block: what check answers to entries. -/
import Derived.Test.YtobjiamdljjkjaaOnum
namespace Go.Proofs.Ytobjiamdljjkjaa.Bk
set_option linter.unusedVariables false
set_option linter.unusedSimpArgs false
open Go.RowKit Lift Ik Sk Vn
set_option maxRecDepth 100000 in
set_option maxHeartbeats 1600000 in
theorem ocheck_any (A : Option Addr) (c : Nat) (L : List D) (w : World) (h1 : Ents w (· < w.heap.size) A c L) (hn : L.length ≤ 1000000) :
    Calls Try.prog 30 #[.slice A L.length c] w fun e w' => e = .returned (.int .i64 (may (L.map D.t) : Nat)) ∧ Below w.heap.size w w' := by
  have H1 := Lib.hid h1
  have hc1 := h1.len
  have hm1 := h1.cap
  unfold maxLen at hm1
  clear h1
  go_enter Try.func30, Try.ntmps30
  go_wp2_with fail
  go_loopw [8] (fun i wr => ∃ j : Nat, j ≤ L.length ∧ i = .int .i64 (j : Int) ∧ Hid (Below w.heap.size w wr) ∧ Hid (∀ d, d ∈ L.take j → okT d.t = true)) (fun i _ => L.length + 1 - (intOf i).toNat)
  case atStart => exact ⟨0, Nat.zero_le _, rfl, Lib.hid (Below.refl _ _), Lib.hid fun d hd => by simp at hd⟩
  case round =>
    obtain ⟨j, hj, rfl, hb, hr⟩ := hrel
    by_cases hlt : j < L.length
    · obtain ⟨d, hd⟩ : ∃ d, L[j]? = some d := ⟨_, List.getElem?_eq_getElem hlt⟩
      have hE := H1.out.below hb.out
      obtain ⟨ad, p, hA, -, hp, q0, q1, q2, q3⟩ := hE.place hd
      subst hA
      have hld := D.load q0 q1 q2 q3
      have hbx := below_box wr d
      obtain ⟨x0, x1, x2, x3, -, -, -, -⟩ := (Bx.new wr d).facts
      have hl2 := D.load (p := ⟨wr.heap.size, 0, none⟩) (d := d) x0 x1 x2 x3
      have HBX := Lib.hid (hb.out.trans (hbx.mono hb.out.size))
      have HR := Lib.hid (oright_any d (wr.alloc (ebox d)) (((hE.ok d (List.mem_of_getElem? hd)).mono fun k hk => Nat.lt_of_lt_of_le hk hb.out.size).next hbx))
      have HJD := Lib.hid hd
      clear hE hd hbx
      go_wp2_with fail
      refine HR.out.mono ?_
      rintro e W2 ⟨rfl, hb2⟩
      have HB2 := Lib.hid (HBX.out.trans (hb2.mono HBX.out.size))
      clear hb2 HR q0 q1 q2 q3 hld x0 x1 x2 x3 hl2
      cases ho : okT d.t with
      | true =>
        have HREL : Hid (∀ e, e ∈ L.take (j + 1) → okT e.t = true) := Lib.hid fun e he => by
          rw [List.take_add_one, HJD.out] at he
          rcases List.mem_append.1 he with he | he
          · exact hr.out e he
          · simp at he; rw [he]; exact ho
        clear ho
        go_wp2_with fail
        go_roundw
        case rel => exact ⟨j + 1, by omega, by go_num, HB2, HREL⟩
        case measure => simp [intOf]; omega
      | false =>
        have HE : Hid (may (L.map D.t) = 1) := Lib.hid (by
          unfold may
          rw [if_pos]
          rw [List.all_eq_false]
          exact ⟨d.t, List.mem_map.2 ⟨d, List.mem_of_getElem? HJD.out, rfl⟩, by simp [ho]⟩)
        clear ho
        go_wp2_with fail
        go_ret
        exact ⟨by rw [HE.out]; rfl, HB2.out⟩
    · obtain rfl : j = L.length := by omega
      have hall : (L.map D.t).all okT = true := List.all_eq_true.2 fun t ht => by
        obtain ⟨d, hd, rfl⟩ := List.mem_map.1 ht
        exact hr.out d (by rw [List.take_length]; exact hd)
      have HALL := Lib.hid hall
      have HBW := hb
      clear hall
      go_wp2_with fail
      go_loopw [5] (fun i wr => ∃ j : Nat, 1 ≤ j ∧ j ≤ L.length + 1 ∧ i = .int .i64 (j : Int) ∧ Hid (Below w.heap.size w wr) ∧ Hid (∀ i a b, i + 1 < j → (L.map D.t)[i]? = some a → (L.map D.t)[i + 1]? = some b → cmpK a.k b.k < 0)) (fun i _ => L.length + 3 - (intOf i).toNat)
      case atStart => exact ⟨1, Nat.le_refl _, by omega, rfl, HBW, Lib.hid fun i a b hi => by omega⟩
      case round =>
        obtain ⟨j, hj1, hj, rfl, hb, hr⟩ := hrel
        by_cases hlt : j < L.length
        · obtain ⟨p, hp⟩ : ∃ p, j = p + 1 := ⟨j - 1, by omega⟩
          obtain ⟨d1, hd1⟩ : ∃ d, L[p]? = some d := ⟨_, List.getElem?_eq_getElem (by omega)⟩
          obtain ⟨d2, hd2⟩ : ∃ d, L[j]? = some d := ⟨_, List.getElem?_eq_getElem hlt⟩
          obtain ⟨ad, p1, hA, -, hp1, -⟩ := H1.out.place hd1
          obtain ⟨ad2, p2, hA2, -, hp2, -⟩ := H1.out.place hd2
          subst hA
          injection hA2 with hA2
          subst hA2
          have HJP := Lib.hid (show (j : Int) = (p : Int) + 1 ∧ j < L.length ∧ L.length ≤ 1000000 ∧ p < L.length from ⟨by omega, hlt, hn, by omega⟩)
          have HP1 := Lib.hid hp1
          have HP2 := Lib.hid hp2
          have HD1 := Lib.hid hd1
          have HD2 := Lib.hid hd2
          have HO1 := Lib.hid (H1.out.ok d1 (List.mem_of_getElem? hd1))
          have HO2 := Lib.hid (H1.out.ok d2 (List.mem_of_getElem? hd2))
          have HT1 : Hid ((L.map D.t)[p]? = some d1.t) := Lib.hid (by rw [List.getElem?_map, hd1]; rfl)
          have HT2 : Hid ((L.map D.t)[p + 1]? = some d2.t) := Lib.hid (by rw [← hp, List.getElem?_map, hd2]; rfl)
          have HPJ := Lib.hid hp
          clear hd1 hd2 hp1 hp2 hp
          by_cases hc : cmpK d1.k d2.k < 0
          · have HR2 : Hid (∀ i a b, i + 1 < j + 1 → (L.map D.t)[i]? = some a → (L.map D.t)[i + 1]? = some b → cmpK a.k b.k < 0) := Lib.hid fun i a b hi ha hb2 => by
              by_cases hip : i = p
              · subst hip
                rw [HT1.out] at ha
                rw [HT2.out] at hb2
                injection ha with ha
                injection hb2 with hb2
                subst ha hb2
                exact hc
              · exact hr.out i a b (by have := HPJ.out; omega) ha hb2
            have dc : decide (0 ≤ cmpK d1.k d2.k) = false := decide_eq_false (by omega)
            have HDC := Lib.hid dc
            clear hc dc
            go_wp2_with fail
            refine wp_region_held_drew (S := fun w' => Hid (Below wr.heap.size wr w')) (by kernel_rfl) (Lib.hid (Below.refl _ _).drew) (fun hS => ?_)
            refine wpAnyH_take (i := 0) (v := ?_) rfl (by kernel_rfl) (by kernel_rfl) (by kernel_rfl) (fun _ _ _ h => h) (Or.inl ⟨by rfl, ?_⟩) hS ?_
            rotate_left
            · intro w hw
              go_simp
              try with_reducible rfl
            try simp only [Act.put, List.getElem_toArray, List.getElem_cons_succ, List.getElem_cons_zero, List.setIfInBounds_toArray, List.set_cons_zero, List.set_cons_succ]
            refine wpAnyH_take (i := 1) (v := ?_) rfl (by kernel_rfl) (by kernel_rfl) (by kernel_rfl) (fun _ _ _ h => h) (Or.inl ⟨by rfl, ?_⟩) hS ?_
            rotate_left
            · intro w hw
              go_simp
              try with_reducible rfl
            try simp only [Act.put, List.getElem_toArray, List.getElem_cons_succ, List.getElem_cons_zero, List.setIfInBounds_toArray, List.set_cons_zero, List.set_cons_succ]
            refine wpAnyH_take (i := 2) (v := ?_) rfl (by kernel_rfl) (by kernel_rfl) (by kernel_rfl) (fun _ _ _ h => h) (Or.inl ⟨by rfl, ?_⟩) hS ?_
            rotate_left
            · intro w hw
              have ej : (j : Int) - 1 = (p : Int) := by have := HJP.out; omega
              have ew : IntKind.i64.wrap (p : Int) = (p : Int) := IntWalk.i64_in _ (by have := HJP.out; omega)
              go_simp
              try with_reducible rfl
            try simp only [Act.put, List.getElem_toArray, List.getElem_cons_succ, List.getElem_cons_zero, List.setIfInBounds_toArray, List.set_cons_zero, List.set_cons_succ]
            refine wpAnyH_take (i := 3) (v := ?_) rfl (by kernel_rfl) (by kernel_rfl) (by kernel_rfl) (fun _ _ _ h => h) (Or.inl ⟨by rfl, ?_⟩) hS ?_
            rotate_left
            · intro w hw
              have hpl : p < L.length := by have := HJP.out; omega
              have hp1 := HP1.out
              go_simp
              try with_reducible rfl
            try simp only [Act.put, List.getElem_toArray, List.getElem_cons_succ, List.getElem_cons_zero, List.setIfInBounds_toArray, List.set_cons_zero, List.set_cons_succ]
            refine wpAnyH_take (i := 4) (v := ?_) rfl (by kernel_rfl) (by kernel_rfl) (by kernel_rfl) (fun _ _ _ h => h) (Or.inl ⟨by rfl, ?_⟩) hS ?_
            rotate_left
            · intro w hw
              go_simp
              try with_reducible rfl
            try simp only [Act.put, List.getElem_toArray, List.getElem_cons_succ, List.getElem_cons_zero, List.setIfInBounds_toArray, List.set_cons_zero, List.set_cons_succ]
            refine wpAnyH_take (i := 5) (v := ?_) rfl (by kernel_rfl) (by kernel_rfl) (by kernel_rfl) (fun _ _ _ h => h) (Or.inl ⟨by rfl, ?_⟩) hS ?_
            rotate_left
            · intro w hw
              obtain ⟨ad', pi, hA, -, hpi, q0, q1, q2, q3⟩ := (H1.out.below (hb.out.trans (hw.out.mono hb.out.size))).place HD1.out
              injection hA with hA
              subst hA
              obtain rfl : pi = p1 := hpi.symm.trans HP1.out
              have hkl := KD.load (d := ⟨d1.ka, d1.kc, d1.k⟩) q0 q1 q2
              go_simp
              try with_reducible rfl
            try simp only [Act.put, List.getElem_toArray, List.getElem_cons_succ, List.getElem_cons_zero, List.setIfInBounds_toArray, List.set_cons_zero, List.set_cons_succ]
            refine wpAnyH_take (i := 6) (v := ?_) rfl (by kernel_rfl) (by kernel_rfl) (by kernel_rfl) (fun _ _ _ h => h) (Or.inl ⟨by rfl, ?_⟩) hS ?_
            rotate_left
            · intro w hw
              go_simp
              try with_reducible rfl
            try simp only [Act.put, List.getElem_toArray, List.getElem_cons_succ, List.getElem_cons_zero, List.setIfInBounds_toArray, List.set_cons_zero, List.set_cons_succ]
            refine wpAnyH_take (i := 7) (v := ?_) rfl (by kernel_rfl) (by kernel_rfl) (by kernel_rfl) (fun _ _ _ h => h) (Or.inl ⟨by rfl, ?_⟩) hS ?_
            rotate_left
            · intro w hw
              go_simp
              try with_reducible rfl
            try simp only [Act.put, List.getElem_toArray, List.getElem_cons_succ, List.getElem_cons_zero, List.setIfInBounds_toArray, List.set_cons_zero, List.set_cons_succ]
            refine wpAnyH_take (i := 8) (v := ?_) rfl (by kernel_rfl) (by kernel_rfl) (by kernel_rfl) (fun _ _ _ h => h) (Or.inl ⟨by rfl, ?_⟩) hS ?_
            rotate_left
            · intro w hw
              have hp2 := HP2.out
              go_simp
              try with_reducible rfl
            try simp only [Act.put, List.getElem_toArray, List.getElem_cons_succ, List.getElem_cons_zero, List.setIfInBounds_toArray, List.set_cons_zero, List.set_cons_succ]
            refine wpAnyH_take (i := 9) (v := ?_) rfl (by kernel_rfl) (by kernel_rfl) (by kernel_rfl) (fun _ _ _ h => h) (Or.inl ⟨by rfl, ?_⟩) hS ?_
            rotate_left
            · intro w hw
              go_simp
              try with_reducible rfl
            try simp only [Act.put, List.getElem_toArray, List.getElem_cons_succ, List.getElem_cons_zero, List.setIfInBounds_toArray, List.set_cons_zero, List.set_cons_succ]
            refine wpAnyH_take (i := 10) (v := ?_) rfl (by kernel_rfl) (by kernel_rfl) (by kernel_rfl) (fun _ _ _ h => h) (Or.inl ⟨by rfl, ?_⟩) hS ?_
            rotate_left
            · intro w hw
              obtain ⟨ad', pi, hA, -, hpi, q0, q1, q2, q3⟩ := (H1.out.below (hb.out.trans (hw.out.mono hb.out.size))).place HD2.out
              injection hA with hA
              subst hA
              obtain rfl : pi = p2 := hpi.symm.trans HP2.out
              have hkl := KD.load (d := ⟨d2.ka, d2.kc, d2.k⟩) q0 q1 q2
              go_simp
              try with_reducible rfl
            try simp only [Act.put, List.getElem_toArray, List.getElem_cons_succ, List.getElem_cons_zero, List.setIfInBounds_toArray, List.set_cons_zero, List.set_cons_succ]
            refine wpAnyH_ready (rs := [11]) (by kernel_rfl) (by simp) ?_
            refine AllReadyH.cons rfl (fun K hK => ?_) AllReadyH.nil
            go_simp
            have hb7 := hS.out
            have hb8 := hb.out.trans (hb7.mono hb.out.size)
            refine (cmp_any d1.ka d2.ka d1.kc d2.kc d1.k d2.k _ ((HO1.out.next hb8).at' fun k hk => hk) ((HO2.out.next hb8).at' fun k hk => hk)).mono ?_
            rintro e W8 ⟨rfl, hb9⟩
            have HB8 := Lib.hid (hb7.trans (hb9.mono hb7.size))
            clear hb7 hb8 hb9
            go_wp2_with fail
            refine hK.out _ _ HB8 (fun _ => ?_)
            clear hK K hS
            refine wpAnyH_other (S' := fun w' => Hid (Below W8.heap.size W8 w')) (fun w hw => Lib.hid (HB8.out.trans (hw.out.mono HB8.out.size))) _ _ _ _ ?_
            have hS : Hid (Below W8.heap.size W8 W8) := Lib.hid (Below.refl _ _)
            try simp only [Act.put, List.getElem_toArray, List.getElem_cons_succ, List.getElem_cons_zero, List.setIfInBounds_toArray, List.set_cons_zero, List.set_cons_succ]
            refine wpAnyH_take (i := 12) (v := ?_) rfl (by kernel_rfl) (by kernel_rfl) (by kernel_rfl) (fun _ _ _ h => h) (Or.inl ⟨by rfl, ?_⟩) hS ?_
            rotate_left
            · intro w hw
              have dc := HDC.out
              go_simp
              try with_reducible rfl
            try simp only [Act.put, List.getElem_toArray, List.getElem_cons_succ, List.getElem_cons_zero, List.setIfInBounds_toArray, List.set_cons_zero, List.set_cons_succ]
            refine wpAnyH_done (by kernel_rfl) ?_ _
            have HREL := Lib.hid (hb.out.trans (HB8.out.mono hb.out.size))
            have dc := HDC.out
            go_wp2_with fail
            go_roundw
            case rel => exact ⟨j + 1, by omega, by omega, by go_num, HREL, HR2⟩
            case measure => simp [intOf]; omega
          · have HE : Hid (may (L.map D.t) = 10) := Lib.hid (by unfold may; rw [HALL.out, rises_no HT1.out HT2.out hc]; rfl)
            have dc : decide (0 ≤ cmpK d1.k d2.k) = true := decide_eq_true (by omega)
            have HDC := Lib.hid dc
            clear hc dc
            go_wp2_with fail
            refine wp_region_held_drew (S := fun w' => Hid (Below wr.heap.size wr w')) (by kernel_rfl) (Lib.hid (Below.refl _ _).drew) (fun hS => ?_)
            refine wpAnyH_take (i := 0) (v := ?_) rfl (by kernel_rfl) (by kernel_rfl) (by kernel_rfl) (fun _ _ _ h => h) (Or.inl ⟨by rfl, ?_⟩) hS ?_
            rotate_left
            · intro w hw
              go_simp
              try with_reducible rfl
            try simp only [Act.put, List.getElem_toArray, List.getElem_cons_succ, List.getElem_cons_zero, List.setIfInBounds_toArray, List.set_cons_zero, List.set_cons_succ]
            refine wpAnyH_take (i := 1) (v := ?_) rfl (by kernel_rfl) (by kernel_rfl) (by kernel_rfl) (fun _ _ _ h => h) (Or.inl ⟨by rfl, ?_⟩) hS ?_
            rotate_left
            · intro w hw
              go_simp
              try with_reducible rfl
            try simp only [Act.put, List.getElem_toArray, List.getElem_cons_succ, List.getElem_cons_zero, List.setIfInBounds_toArray, List.set_cons_zero, List.set_cons_succ]
            refine wpAnyH_take (i := 2) (v := ?_) rfl (by kernel_rfl) (by kernel_rfl) (by kernel_rfl) (fun _ _ _ h => h) (Or.inl ⟨by rfl, ?_⟩) hS ?_
            rotate_left
            · intro w hw
              have ej : (j : Int) - 1 = (p : Int) := by have := HJP.out; omega
              have ew : IntKind.i64.wrap (p : Int) = (p : Int) := IntWalk.i64_in _ (by have := HJP.out; omega)
              go_simp
              try with_reducible rfl
            try simp only [Act.put, List.getElem_toArray, List.getElem_cons_succ, List.getElem_cons_zero, List.setIfInBounds_toArray, List.set_cons_zero, List.set_cons_succ]
            refine wpAnyH_take (i := 3) (v := ?_) rfl (by kernel_rfl) (by kernel_rfl) (by kernel_rfl) (fun _ _ _ h => h) (Or.inl ⟨by rfl, ?_⟩) hS ?_
            rotate_left
            · intro w hw
              have hpl : p < L.length := by have := HJP.out; omega
              have hp1 := HP1.out
              go_simp
              try with_reducible rfl
            try simp only [Act.put, List.getElem_toArray, List.getElem_cons_succ, List.getElem_cons_zero, List.setIfInBounds_toArray, List.set_cons_zero, List.set_cons_succ]
            refine wpAnyH_take (i := 4) (v := ?_) rfl (by kernel_rfl) (by kernel_rfl) (by kernel_rfl) (fun _ _ _ h => h) (Or.inl ⟨by rfl, ?_⟩) hS ?_
            rotate_left
            · intro w hw
              go_simp
              try with_reducible rfl
            try simp only [Act.put, List.getElem_toArray, List.getElem_cons_succ, List.getElem_cons_zero, List.setIfInBounds_toArray, List.set_cons_zero, List.set_cons_succ]
            refine wpAnyH_take (i := 5) (v := ?_) rfl (by kernel_rfl) (by kernel_rfl) (by kernel_rfl) (fun _ _ _ h => h) (Or.inl ⟨by rfl, ?_⟩) hS ?_
            rotate_left
            · intro w hw
              obtain ⟨ad', pi, hA, -, hpi, q0, q1, q2, q3⟩ := (H1.out.below (hb.out.trans (hw.out.mono hb.out.size))).place HD1.out
              injection hA with hA
              subst hA
              obtain rfl : pi = p1 := hpi.symm.trans HP1.out
              have hkl := KD.load (d := ⟨d1.ka, d1.kc, d1.k⟩) q0 q1 q2
              go_simp
              try with_reducible rfl
            try simp only [Act.put, List.getElem_toArray, List.getElem_cons_succ, List.getElem_cons_zero, List.setIfInBounds_toArray, List.set_cons_zero, List.set_cons_succ]
            refine wpAnyH_take (i := 6) (v := ?_) rfl (by kernel_rfl) (by kernel_rfl) (by kernel_rfl) (fun _ _ _ h => h) (Or.inl ⟨by rfl, ?_⟩) hS ?_
            rotate_left
            · intro w hw
              go_simp
              try with_reducible rfl
            try simp only [Act.put, List.getElem_toArray, List.getElem_cons_succ, List.getElem_cons_zero, List.setIfInBounds_toArray, List.set_cons_zero, List.set_cons_succ]
            refine wpAnyH_take (i := 7) (v := ?_) rfl (by kernel_rfl) (by kernel_rfl) (by kernel_rfl) (fun _ _ _ h => h) (Or.inl ⟨by rfl, ?_⟩) hS ?_
            rotate_left
            · intro w hw
              go_simp
              try with_reducible rfl
            try simp only [Act.put, List.getElem_toArray, List.getElem_cons_succ, List.getElem_cons_zero, List.setIfInBounds_toArray, List.set_cons_zero, List.set_cons_succ]
            refine wpAnyH_take (i := 8) (v := ?_) rfl (by kernel_rfl) (by kernel_rfl) (by kernel_rfl) (fun _ _ _ h => h) (Or.inl ⟨by rfl, ?_⟩) hS ?_
            rotate_left
            · intro w hw
              have hp2 := HP2.out
              go_simp
              try with_reducible rfl
            try simp only [Act.put, List.getElem_toArray, List.getElem_cons_succ, List.getElem_cons_zero, List.setIfInBounds_toArray, List.set_cons_zero, List.set_cons_succ]
            refine wpAnyH_take (i := 9) (v := ?_) rfl (by kernel_rfl) (by kernel_rfl) (by kernel_rfl) (fun _ _ _ h => h) (Or.inl ⟨by rfl, ?_⟩) hS ?_
            rotate_left
            · intro w hw
              go_simp
              try with_reducible rfl
            try simp only [Act.put, List.getElem_toArray, List.getElem_cons_succ, List.getElem_cons_zero, List.setIfInBounds_toArray, List.set_cons_zero, List.set_cons_succ]
            refine wpAnyH_take (i := 10) (v := ?_) rfl (by kernel_rfl) (by kernel_rfl) (by kernel_rfl) (fun _ _ _ h => h) (Or.inl ⟨by rfl, ?_⟩) hS ?_
            rotate_left
            · intro w hw
              obtain ⟨ad', pi, hA, -, hpi, q0, q1, q2, q3⟩ := (H1.out.below (hb.out.trans (hw.out.mono hb.out.size))).place HD2.out
              injection hA with hA
              subst hA
              obtain rfl : pi = p2 := hpi.symm.trans HP2.out
              have hkl := KD.load (d := ⟨d2.ka, d2.kc, d2.k⟩) q0 q1 q2
              go_simp
              try with_reducible rfl
            try simp only [Act.put, List.getElem_toArray, List.getElem_cons_succ, List.getElem_cons_zero, List.setIfInBounds_toArray, List.set_cons_zero, List.set_cons_succ]
            refine wpAnyH_ready (rs := [11]) (by kernel_rfl) (by simp) ?_
            refine AllReadyH.cons rfl (fun K hK => ?_) AllReadyH.nil
            go_simp
            have hb7 := hS.out
            have hb8 := hb.out.trans (hb7.mono hb.out.size)
            refine (cmp_any d1.ka d2.ka d1.kc d2.kc d1.k d2.k _ ((HO1.out.next hb8).at' fun k hk => hk) ((HO2.out.next hb8).at' fun k hk => hk)).mono ?_
            rintro e W8 ⟨rfl, hb9⟩
            have HB8 := Lib.hid (hb7.trans (hb9.mono hb7.size))
            clear hb7 hb8 hb9
            go_wp2_with fail
            refine hK.out _ _ HB8 (fun _ => ?_)
            clear hK K hS
            refine wpAnyH_other (S' := fun w' => Hid (Below W8.heap.size W8 w')) (fun w hw => Lib.hid (HB8.out.trans (hw.out.mono HB8.out.size))) _ _ _ _ ?_
            have hS : Hid (Below W8.heap.size W8 W8) := Lib.hid (Below.refl _ _)
            try simp only [Act.put, List.getElem_toArray, List.getElem_cons_succ, List.getElem_cons_zero, List.setIfInBounds_toArray, List.set_cons_zero, List.set_cons_succ]
            refine wpAnyH_take (i := 12) (v := ?_) rfl (by kernel_rfl) (by kernel_rfl) (by kernel_rfl) (fun _ _ _ h => h) (Or.inl ⟨by rfl, ?_⟩) hS ?_
            rotate_left
            · intro w hw
              have dc := HDC.out
              go_simp
              try with_reducible rfl
            try simp only [Act.put, List.getElem_toArray, List.getElem_cons_succ, List.getElem_cons_zero, List.setIfInBounds_toArray, List.set_cons_zero, List.set_cons_succ]
            refine wpAnyH_done (by kernel_rfl) ?_ _
            have HREL := Lib.hid (hb.out.trans (HB8.out.mono hb.out.size))
            have dc := HDC.out
            go_wp2_with fail
            go_ret
            exact ⟨by rw [HE.out]; rfl, HREL.out⟩
        · have HRI : Hid (rises (L.map D.t) = true) := Lib.hid ((rises_iff _).2 fun i a b ha hb2 => hr.out i a b (by
            have := (List.getElem?_eq_some_iff.1 hb2).1
            rw [List.length_map] at this
            omega) ha hb2)
          by_cases hbig : 10000 < L.length
          · have HE : Hid (may (L.map D.t) = 3) := Lib.hid (by unfold may; rw [HALL.out, HRI.out, if_neg (by decide), if_neg (by decide), if_pos (by rw [List.length_map]; exact hbig)])
            go_wp2_with fail
            go_ret
            exact ⟨by rw [HE.out]; rfl, hb.out⟩
          · have HE : Hid (may (L.map D.t) = 0) := Lib.hid (by unfold may; rw [HALL.out, HRI.out, if_neg (by decide), if_neg (by decide), if_neg (by rw [List.length_map]; exact hbig)])
            go_wp2_with fail
            go_ret
            exact ⟨by rw [HE.out]; rfl, hb.out⟩
end Go.Proofs.Ytobjiamdljjkjaa.Bk
