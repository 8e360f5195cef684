/- Rows of entries: whether they rise, and whether one is part of another. -/
import Derived.Test.YtnhpocfjmmnnmaaSlaw9
import Derived.Deep.RegionHeld3
import Derived.Deep.QuietTactic
import Derived.BigQuiet
import Derived.LoopTactic
namespace Go.Proofs.Ytnhpocfjmmnnmaa.Sk
set_option linter.unusedVariables false
set_option linter.unusedSimpArgs false
open Go.RowKit Lift Ik
theorem sub_same {α : Type} {x : α} {a b : List α} (h : (x :: a).Sublist (x :: b)) : a.Sublist b := by
  cases h with
  | cons _ h => exact (List.sublist_cons_self x a).trans h
  | cons_cons _ h => exact h
theorem sub_other {α : Type} {x y : α} {a b : List α} (h : (x :: a).Sublist (y :: b)) (hne : x ≠ y) : (x :: a).Sublist b := by
  cases h with
  | cons _ h => exact h
  | cons_cons _ h => exact absurd rfl hne
theorem lev_sub (R : Row) (i : Nat) : (levR R (i + 1)).Sublist (levR R i) := by
  unfold levR
  refine List.Sublist.map _ ?_
  induction R with
  | nil => exact List.Sublist.refl _
  | cons r R ih =>
    by_cases h1 : i + 1 < r.2
    · rw [List.filter_cons_of_pos (by simpa using h1), List.filter_cons_of_pos (by simp; omega)]
      exact ih.cons_cons _
    · rw [List.filter_cons_of_neg (by simpa using h1)]
      by_cases h2 : i < r.2
      · rw [List.filter_cons_of_pos (by simpa using h2)]
        exact ih.cons _
      · rw [List.filter_cons_of_neg (by simpa using h2)]
        exact ih
set_option maxRecDepth 100000 in
set_option maxHeartbeats 3200000 in
theorem rising_any (A : Option Addr) (c : Nat) (L : List D) (w : World) (h : Ents w (· < w.heap.size) A c L) (hs : Sorted D.k L) (hn : L.length ≤ 1000) :
    Calls Try.prog 21 #[.slice A L.length c] w fun e w' => e = .returned (.bool true) ∧ Below w.heap.size w w' := by
  have H1 := Lib.hid h
  have HS := Lib.hid hs
  have hc := h.len
  have hm := h.cap
  unfold maxLen at hm
  clear h hs
  go_enter Try.func21, Try.ntmps21
  go_wp2_with fail
  go_loopw [3] (fun i wr => ∃ j : Nat, 1 ≤ j ∧ i = .int .i64 j ∧ Hid (Below w.heap.size w wr)) (fun i _ => L.length + 1 - (intOf i).toNat)
  case atStart => exact ⟨1, by omega, rfl, Lib.hid (Below.refl _ _)⟩
  case round =>
    obtain ⟨j, hj, rfl, hb⟩ := hrel
    by_cases hlt : j < L.length
    · obtain ⟨p, hjp⟩ : ∃ p, j = p + 1 := ⟨j - 1, by omega⟩
      obtain ⟨d1, hd1⟩ : ∃ d, L[p]? = some d := ⟨_, List.getElem?_eq_getElem (by omega)⟩
      obtain ⟨d2, hd2⟩ : ∃ d, L[j]? = some d := ⟨_, List.getElem?_eq_getElem hlt⟩
      have hcmp : cmpK d1.k d2.k < 0 := by
        have h0 := List.pairwise_iff_getElem.1 HS.out p j (by omega) hlt (by omega)
        rw [List.getElem?_eq_getElem (show p < L.length by omega)] at hd1
        rw [List.getElem?_eq_getElem hlt] at hd2
        injection hd1 with hd1
        injection hd2 with hd2
        rw [hd1, hd2] at h0
        exact h0
      have dc : decide (0 ≤ cmpK d1.k d2.k) = false := decide_eq_false (by omega)
      obtain ⟨ad, p1, hA, -, hp1, -⟩ := H1.out.place hd1
      subst hA
      obtain ⟨ad2, p2, hA2, -, hp2, -⟩ := H1.out.place hd2
      injection hA2 with hA2
      subst hA2
      have HJP := Lib.hid hjp
      have HD1 := Lib.hid hd1
      have HD2 := Lib.hid hd2
      have HP1 := Lib.hid hp1
      have HP2 := Lib.hid hp2
      have HO1 := Lib.hid (H1.out.ok d1 (List.mem_of_getElem? hd1))
      have HO2 := Lib.hid (H1.out.ok d2 (List.mem_of_getElem? hd2))
      clear hjp hd1 hd2 hcmp hp1 hp2
      go_wp2_with fail
      refine wp_region_held_drew (S := fun w' => Hid (Below wr.heap.size wr w')) (by kernel_rfl) (Lib.hid (Below.refl _ _).drew) (fun hS => ?_)
      refine wpAnyH_take (i := 0) (v := ?_) rfl (by kernel_rfl) (by kernel_rfl) (by kernel_rfl) (fun _ _ _ h => h) (Or.inl ⟨by rfl, ?_⟩) hS ?_
      rotate_left
      · intro w hw
        go_simp
        try with_reducible rfl
      try simp only [Act.put, List.getElem_toArray, List.getElem_cons_succ, List.getElem_cons_zero, List.setIfInBounds_toArray, List.set_cons_zero, List.set_cons_succ]
      refine wpAnyH_take (i := 1) (v := ?_) rfl (by kernel_rfl) (by kernel_rfl) (by kernel_rfl) (fun _ _ _ h => h) (Or.inl ⟨by rfl, ?_⟩) hS ?_
      rotate_left
      · intro w hw
        go_simp
        try with_reducible rfl
      try simp only [Act.put, List.getElem_toArray, List.getElem_cons_succ, List.getElem_cons_zero, List.setIfInBounds_toArray, List.set_cons_zero, List.set_cons_succ]
      refine wpAnyH_take (i := 2) (v := ?_) rfl (by kernel_rfl) (by kernel_rfl) (by kernel_rfl) (fun _ _ _ h => h) (Or.inl ⟨by rfl, ?_⟩) hS ?_
      rotate_left
      · intro w hw
        have ej : (j : Int) - 1 = (p : Int) := by have := HJP.out; omega
        have ew : IntKind.i64.wrap (p : Int) = (p : Int) := IntWalk.i64_in _ (by have := HJP.out; omega)
        go_simp
        try with_reducible rfl
      try simp only [Act.put, List.getElem_toArray, List.getElem_cons_succ, List.getElem_cons_zero, List.setIfInBounds_toArray, List.set_cons_zero, List.set_cons_succ]
      refine wpAnyH_take (i := 3) (v := ?_) rfl (by kernel_rfl) (by kernel_rfl) (by kernel_rfl) (fun _ _ _ h => h) (Or.inl ⟨by rfl, ?_⟩) hS ?_
      rotate_left
      · intro w hw
        have hpl : p < L.length := by have := HJP.out; omega
        have hp1 := HP1.out
        go_simp
        try with_reducible rfl
      try simp only [Act.put, List.getElem_toArray, List.getElem_cons_succ, List.getElem_cons_zero, List.setIfInBounds_toArray, List.set_cons_zero, List.set_cons_succ]
      refine wpAnyH_take (i := 4) (v := ?_) rfl (by kernel_rfl) (by kernel_rfl) (by kernel_rfl) (fun _ _ _ h => h) (Or.inl ⟨by rfl, ?_⟩) hS ?_
      rotate_left
      · intro w hw
        go_simp
        try with_reducible rfl
      try simp only [Act.put, List.getElem_toArray, List.getElem_cons_succ, List.getElem_cons_zero, List.setIfInBounds_toArray, List.set_cons_zero, List.set_cons_succ]
      refine wpAnyH_take (i := 5) (v := ?_) rfl (by kernel_rfl) (by kernel_rfl) (by kernel_rfl) (fun _ _ _ h => h) (Or.inl ⟨by rfl, ?_⟩) hS ?_
      rotate_left
      · intro w hw
        obtain ⟨ad', pi, hA, -, hpi, q0, q1, q2, q3⟩ := (H1.out.below (hb.out.trans (hw.out.mono hb.out.size))).place HD1.out
        injection hA with hA
        subst hA
        obtain rfl : pi = p1 := hpi.symm.trans HP1.out
        go_simp
        try with_reducible rfl
      try simp only [Act.put, List.getElem_toArray, List.getElem_cons_succ, List.getElem_cons_zero, List.setIfInBounds_toArray, List.set_cons_zero, List.set_cons_succ]
      refine wpAnyH_take (i := 6) (v := ?_) rfl (by kernel_rfl) (by kernel_rfl) (by kernel_rfl) (fun _ _ _ h => h) (Or.inl ⟨by rfl, ?_⟩) hS ?_
      rotate_left
      · intro w hw
        go_simp
        try with_reducible rfl
      try simp only [Act.put, List.getElem_toArray, List.getElem_cons_succ, List.getElem_cons_zero, List.setIfInBounds_toArray, List.set_cons_zero, List.set_cons_succ]
      refine wpAnyH_take (i := 7) (v := ?_) rfl (by kernel_rfl) (by kernel_rfl) (by kernel_rfl) (fun _ _ _ h => h) (Or.inl ⟨by rfl, ?_⟩) hS ?_
      rotate_left
      · intro w hw
        go_simp
        try with_reducible rfl
      try simp only [Act.put, List.getElem_toArray, List.getElem_cons_succ, List.getElem_cons_zero, List.setIfInBounds_toArray, List.set_cons_zero, List.set_cons_succ]
      refine wpAnyH_take (i := 8) (v := ?_) rfl (by kernel_rfl) (by kernel_rfl) (by kernel_rfl) (fun _ _ _ h => h) (Or.inl ⟨by rfl, ?_⟩) hS ?_
      rotate_left
      · intro w hw
        have hp2 := HP2.out
        go_simp
        try with_reducible rfl
      try simp only [Act.put, List.getElem_toArray, List.getElem_cons_succ, List.getElem_cons_zero, List.setIfInBounds_toArray, List.set_cons_zero, List.set_cons_succ]
      refine wpAnyH_take (i := 9) (v := ?_) rfl (by kernel_rfl) (by kernel_rfl) (by kernel_rfl) (fun _ _ _ h => h) (Or.inl ⟨by rfl, ?_⟩) hS ?_
      rotate_left
      · intro w hw
        go_simp
        try with_reducible rfl
      try simp only [Act.put, List.getElem_toArray, List.getElem_cons_succ, List.getElem_cons_zero, List.setIfInBounds_toArray, List.set_cons_zero, List.set_cons_succ]
      refine wpAnyH_take (i := 10) (v := ?_) rfl (by kernel_rfl) (by kernel_rfl) (by kernel_rfl) (fun _ _ _ h => h) (Or.inl ⟨by rfl, ?_⟩) hS ?_
      rotate_left
      · intro w hw
        obtain ⟨ad', pi, hA, -, hpi, q0, q1, q2, q3⟩ := (H1.out.below (hb.out.trans (hw.out.mono hb.out.size))).place HD2.out
        injection hA with hA
        subst hA
        obtain rfl : pi = p2 := hpi.symm.trans HP2.out
        go_simp
        try with_reducible rfl
      try simp only [Act.put, List.getElem_toArray, List.getElem_cons_succ, List.getElem_cons_zero, List.setIfInBounds_toArray, List.set_cons_zero, List.set_cons_succ]
      refine wpAnyH_ready (rs := [11]) (by kernel_rfl) (by simp) ?_
      refine AllReadyH.cons rfl (fun K hK => ?_) AllReadyH.nil
      go_simp
      have hb7 := hS.out
      have hb8 := hb.out.trans (hb7.mono hb.out.size)
      refine (rcmp_any d1.ka d2.ka d1.kc d2.kc d1.k d2.k _ ((HO1.out.next hb8).at' fun k hk => hk) ((HO2.out.next hb8).at' fun k hk => hk)).mono ?_
      rintro e W8 ⟨rfl, hb9⟩
      have HB8 := Lib.hid (hb7.trans (hb9.mono hb7.size))
      clear hb7 hb8 hb9
      go_wp2_with fail
      refine hK.out _ _ HB8 (fun _ => ?_)
      clear hK K hS
      refine wpAnyH_other (S' := fun w' => Hid (Below W8.heap.size W8 w')) (fun w hw => Lib.hid (HB8.out.trans (hw.out.mono HB8.out.size))) _ _ _ _ ?_
      have hS : Hid (Below W8.heap.size W8 W8) := Lib.hid (Below.refl _ _)
      try simp only [Act.put, List.getElem_toArray, List.getElem_cons_succ, List.getElem_cons_zero, List.setIfInBounds_toArray, List.set_cons_zero, List.set_cons_succ]
      refine wpAnyH_take (i := 12) (v := ?_) rfl (by kernel_rfl) (by kernel_rfl) (by kernel_rfl) (fun _ _ _ h => h) (Or.inl ⟨by rfl, ?_⟩) hS ?_
      rotate_left
      · intro w hw
        go_simp
        try with_reducible rfl
      try simp only [Act.put, List.getElem_toArray, List.getElem_cons_succ, List.getElem_cons_zero, List.setIfInBounds_toArray, List.set_cons_zero, List.set_cons_succ]
      refine wpAnyH_done (by kernel_rfl) ?_ _
      have HREL := Lib.hid (hb.out.trans (HB8.out.mono hb.out.size))
      go_wp2_with fail
      go_roundw
      case rel => exact ⟨j + 1, by omega, by go_num, HREL⟩
      case measure => simp [intOf]; omega
    · go_wp2_with fail
      go_ret
      exact ⟨rfl, hb.out⟩
set_option maxRecDepth 100000 in
set_option maxHeartbeats 3200000 in
theorem within_any (A1 A2 : Option Addr) (c1 c2 : Nat) (La Lb : List D) (w : World) (h1 : Ents w (· < w.heap.size) A1 c1 La) (h2 : Ents w (· < w.heap.size) A2 c2 Lb) (hs : (La.map D.t).Sublist (Lb.map D.t)) (hn : Lb.length ≤ 1000) :
    Calls Try.prog 24 #[.slice A1 La.length c1, .slice A2 Lb.length c2] w fun e w' => e = .returned (.bool true) ∧ Below w.heap.size w w' := by
  have H1 := Lib.hid h1
  have H2 := Lib.hid h2
  have HS := Lib.hid hs
  have hc1 := h1.len
  have hm1 := h1.cap
  have hc2 := h2.len
  have hm2 := h2.cap
  unfold maxLen at hm1 hm2
  clear h1 h2 hs
  go_enter Try.func24, Try.ntmps24
  go_wp2_with fail
  go_loopw [5, 6] (fun k i wr => ∃ (a b : Nat), k = .int .i64 (a : Int) ∧ i = .int .i64 (b : Int) ∧ a ≤ La.length ∧ b ≤ Lb.length ∧ Hid (((La.drop a).map D.t).Sublist ((Lb.drop b).map D.t) ∧ Below w.heap.size w wr)) (fun _ i _ => Lb.length + 1 - (intOf i).toNat)
  case atStart => exact ⟨0, 0, rfl, rfl, by omega, by omega, Lib.hid ⟨HS.out, Below.refl _ _⟩⟩
  case round =>
    obtain ⟨a, b, rfl, rfl, ha, hbl, hr⟩ := hrel
    have hb := Lib.hid hr.out.2
    by_cases hlb : b < Lb.length
    · by_cases hla : a < La.length
      · obtain ⟨da, hda⟩ : ∃ d, La[a]? = some d := ⟨_, List.getElem?_eq_getElem hla⟩
        obtain ⟨db, hdb⟩ : ∃ d, Lb[b]? = some d := ⟨_, List.getElem?_eq_getElem hlb⟩
        obtain ⟨ad1, p1, hA1, -, hp1, -⟩ := H1.out.place hda
        subst hA1
        obtain ⟨ad2, p2, hA2, -, hp2, -⟩ := H2.out.place hdb
        subst hA2
        have hsub := hr.out.1
        rw [drop_cons hda, drop_cons hdb, List.map_cons, List.map_cons] at hsub
        have HSB := Lib.hid hsub
        have HDA := Lib.hid hda
        have HDB := Lib.hid hdb
        have HP1 := Lib.hid hp1
        have HP2 := Lib.hid hp2
        have HOA := Lib.hid (H1.out.ok da (List.mem_of_getElem? hda))
        have HOB := Lib.hid (H2.out.ok db (List.mem_of_getElem? hdb))
        clear hda hdb hp1 hp2 hsub
        go_wp2_with fail
        refine wp_region_held_drew (S := fun w' => Hid (Below wr.heap.size wr w')) (by kernel_rfl) (Lib.hid (Below.refl _ _).drew) (fun hS => ?_)
        refine wpAnyH_take (i := 0) (v := ?_) rfl (by kernel_rfl) (by kernel_rfl) (by kernel_rfl) (fun _ _ _ h => h) (Or.inl ⟨by rfl, ?_⟩) hS ?_
        rotate_left
        · intro w hw
          go_simp
          try with_reducible rfl
        try simp only [Act.put, List.getElem_toArray, List.getElem_cons_succ, List.getElem_cons_zero, List.setIfInBounds_toArray, List.set_cons_zero, List.set_cons_succ]
        refine wpAnyH_take (i := 1) (v := ?_) rfl (by kernel_rfl) (by kernel_rfl) (by kernel_rfl) (fun _ _ _ h => h) (Or.inl ⟨by rfl, ?_⟩) hS ?_
        rotate_left
        · intro w hw
          go_simp
          try with_reducible rfl
        try simp only [Act.put, List.getElem_toArray, List.getElem_cons_succ, List.getElem_cons_zero, List.setIfInBounds_toArray, List.set_cons_zero, List.set_cons_succ]
        refine wpAnyH_take (i := 2) (v := ?_) rfl (by kernel_rfl) (by kernel_rfl) (by kernel_rfl) (fun _ _ _ h => h) (Or.inl ⟨by rfl, ?_⟩) hS ?_
        rotate_left
        · intro w hw
          have hp1 := HP1.out
          go_simp
          try with_reducible rfl
        try simp only [Act.put, List.getElem_toArray, List.getElem_cons_succ, List.getElem_cons_zero, List.setIfInBounds_toArray, List.set_cons_zero, List.set_cons_succ]
        refine wpAnyH_take (i := 3) (v := ?_) rfl (by kernel_rfl) (by kernel_rfl) (by kernel_rfl) (fun _ _ _ h => h) (Or.inl ⟨by rfl, ?_⟩) hS ?_
        rotate_left
        · intro w hw
          obtain ⟨ad', pi, hA, -, hpi, q0, q1, q2, q3⟩ := (H1.out.below (hb.out.trans (hw.out.mono hb.out.size))).place HDA.out
          injection hA with hA
          subst hA
          obtain rfl : pi = p1 := hpi.symm.trans HP1.out
          have hld := D.load q0 q1 q2 q3
          go_simp
          try with_reducible rfl
        try simp only [Act.put, List.getElem_toArray, List.getElem_cons_succ, List.getElem_cons_zero, List.setIfInBounds_toArray, List.set_cons_zero, List.set_cons_succ]
        refine wpAnyH_take (i := 4) (v := ?_) rfl (by kernel_rfl) (by kernel_rfl) (by kernel_rfl) (fun _ _ _ h => h) (Or.inl ⟨by rfl, ?_⟩) hS ?_
        rotate_left
        · intro w hw
          go_simp
          try with_reducible rfl
        try simp only [Act.put, List.getElem_toArray, List.getElem_cons_succ, List.getElem_cons_zero, List.setIfInBounds_toArray, List.set_cons_zero, List.set_cons_succ]
        refine wpAnyH_take (i := 5) (v := ?_) rfl (by kernel_rfl) (by kernel_rfl) (by kernel_rfl) (fun _ _ _ h => h) (Or.inl ⟨by rfl, ?_⟩) hS ?_
        rotate_left
        · intro w hw
          go_simp
          try with_reducible rfl
        try simp only [Act.put, List.getElem_toArray, List.getElem_cons_succ, List.getElem_cons_zero, List.setIfInBounds_toArray, List.set_cons_zero, List.set_cons_succ]
        refine wpAnyH_take (i := 6) (v := ?_) rfl (by kernel_rfl) (by kernel_rfl) (by kernel_rfl) (fun _ _ _ h => h) (Or.inl ⟨by rfl, ?_⟩) hS ?_
        rotate_left
        · intro w hw
          have hp2 := HP2.out
          go_simp
          try with_reducible rfl
        try simp only [Act.put, List.getElem_toArray, List.getElem_cons_succ, List.getElem_cons_zero, List.setIfInBounds_toArray, List.set_cons_zero, List.set_cons_succ]
        refine wpAnyH_take (i := 7) (v := ?_) rfl (by kernel_rfl) (by kernel_rfl) (by kernel_rfl) (fun _ _ _ h => h) (Or.inl ⟨by rfl, ?_⟩) hS ?_
        rotate_left
        · intro w hw
          obtain ⟨ad', pi, hA, -, hpi, q0, q1, q2, q3⟩ := (H2.out.below (hb.out.trans (hw.out.mono hb.out.size))).place HDB.out
          injection hA with hA
          subst hA
          obtain rfl : pi = p2 := hpi.symm.trans HP2.out
          have hld := D.load q0 q1 q2 q3
          go_simp
          try with_reducible rfl
        try simp only [Act.put, List.getElem_toArray, List.getElem_cons_succ, List.getElem_cons_zero, List.setIfInBounds_toArray, List.set_cons_zero, List.set_cons_succ]
        refine wpAnyH_ready (rs := [8]) (by kernel_rfl) (by simp) ?_
        refine AllReadyH.cons rfl (fun K hK => ?_) AllReadyH.nil
        go_simp
        have hb7 := hS.out
        have hb8 := hb.out.trans (hb7.mono hb.out.size)
        refine (same_entry da db _ (HOA.out.next hb8) (HOB.out.next hb8)).mono ?_
        rintro e W8 ⟨rfl, hb9⟩
        have HB8 := Lib.hid (hb7.trans (hb9.mono hb7.size))
        clear hb7 hb8 hb9
        go_wp2_with fail
        refine hK.out _ _ HB8 (fun _ => ?_)
        clear hK K hS
        refine wpAnyH_other (S' := fun w' => Hid (Below W8.heap.size W8 w')) (fun w hw => Lib.hid (HB8.out.trans (hw.out.mono HB8.out.size))) _ _ _ _ ?_
        have hS : Hid (Below W8.heap.size W8 W8) := Lib.hid (Below.refl _ _)
        try simp only [Act.put, List.getElem_toArray, List.getElem_cons_succ, List.getElem_cons_zero, List.setIfInBounds_toArray, List.set_cons_zero, List.set_cons_succ]
        refine wpAnyH_done (by kernel_rfl) ?_ _
        have HBN := Lib.hid (hb.out.trans (HB8.out.mono hb.out.size))
        cases hsm : sameD da db with
        | true =>
          have HREL : Hid (((La.drop (a + 1)).map D.t).Sublist ((Lb.drop (b + 1)).map D.t) ∧ Below w.heap.size w W8) := Lib.hid ⟨by
            have h0 := HSB.out
            rw [sameD_iff.1 hsm] at h0
            exact sub_same h0, HBN.out⟩
          clear hsm
          go_wp2_with fail
          go_roundw
          case rel => exact ⟨a + 1, b + 1, by go_num, by go_num, by omega, by omega, HREL⟩
          case measure => simp [intOf]; omega
        | false =>
          have HREL : Hid (((La.drop a).map D.t).Sublist ((Lb.drop (b + 1)).map D.t) ∧ Below w.heap.size w W8) := Lib.hid ⟨by
            have h0 := sub_other HSB.out (fun e => by rw [sameD_eq e] at hsm; cases hsm)
            rw [drop_cons HDA.out, List.map_cons]
            exact h0, HBN.out⟩
          clear hsm
          go_wp2_with fail
          go_roundw
          case rel => exact ⟨a, b + 1, rfl, by go_num, by omega, by omega, HREL⟩
          case measure => simp [intOf]; omega
      · obtain rfl : a = La.length := by omega
        go_wp2_with fail
        go_ret
        exact ⟨by simp, hb.out⟩
    · have hal : a = La.length := by
        have h0 := hr.out.1.length_le
        rw [List.length_map, List.length_map, List.length_drop, List.length_drop] at h0
        omega
      obtain rfl : b = Lb.length := by omega
      subst hal
      go_wp2_with fail
      go_ret
      exact ⟨by simp, hb.out⟩
end Go.Proofs.Ytnhpocfjmmnnmaa.Sk
