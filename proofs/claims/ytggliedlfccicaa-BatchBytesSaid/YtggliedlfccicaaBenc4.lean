/- What the document's own BatchBytes answers. -/
import Derived.Test.YtggliedlfccicaaBenc3
import Derived.Test.YtggliedlfccicaaPutv
namespace Go.Proofs.Ytggliedlfccicaa.Bt
set_option linter.unusedVariables false
set_option linter.unusedSimpArgs false
open Go.RowKit Lift Ik Vn

set_option maxRecDepth 100000 in
set_option maxHeartbeats 1600000 in
theorem rbytes_any (s : Nat) (A : Option Addr) (c : Nat) (L : List D) (w : World) (hs : s < 18446744073709551616) (h : Ops w w.heap.size A c L) :
    Calls Try.prog 11 #[.agg #[.int .u64 (s : Int), .slice A L.length c]] w (Coded w (bytesB s (opsO L)) (bytesE s (opsO L))) := by
  have HO := Lib.hid h
  have HC := Lib.hid h.len
  have HM := Lib.hid h.cap
  have HCH := Lib.hid (chk_o L)
  clear h
  have hb0 := Joins.below_alloc1 w (.cells #[.int .u64 (s : Int), .slice A L.length c] 25)
  have b0 := Box.new w 25 [.int .u64 (s : Int), .slice A L.length c]
  have hz0 : (w.alloc (.cells #[.int .u64 (s : Int), .slice A L.length c] 25)).heap.size = w.heap.size + 1 := by simp
  have hc := rcheck_any A c L (w.alloc (.cells #[.int .u64 (s : Int), .slice A L.length c] 25)) (HO.out.next hb0)
  obtain ⟨p0, p1, _, _⟩ := b0.facts2
  go_enter Try.func11, Try.ntmps11
  go_wp2_with fail
  refine hc.mono ?_; rintro e W1 ⟨rfl, hb1⟩
  have HB1 := Lib.hid (hb0.trans (hb1.mono hb0.size))
  have b1 := b0.below hb1 (by omega)
  have B1 := Lib.hid b1
  clear p0 p1
  obtain ⟨p0, p1, _, _⟩ := b1.facts2
  have HG : Hid (w.heap.size < W1.heap.size) := Lib.hid (by have := hb1.size; omega)
  clear hb0 b0 hz0 hc hb1 b1
  rcases chk_three L with hk | hk | hk
  · have HK := Lib.hid hk
    have E0 := Lib.hid (show bytesE s (opsO L) = if fits s L.length = true then 0 else 1 by unfold bytesE; rw [← HCH.out, hk]; simp [opsO])
    obtain ⟨n1, n2, hok⟩ := chk_zero hk
    rw [hk]
    clear hk
    have HF := Lib.hid fun W => rfits_any s L.length W hs ⟨n1, n2⟩
    go_wp2_with fail
    refine (HF.out W1).mono ?_; rintro e w' ⟨rfl, rfl⟩
    cases hf : fits s L.length
    · have E1 := Lib.hid (show bytesE s (opsO L) = 1 by rw [E0.out, hf]; rfl)
      clear hf
      go_wp2_with fail
      go_returns
      exact coded_bad E1.out (by decide) HB1.out
    · have E1 := Lib.hid (show bytesE s (opsO L) = 0 by rw [E0.out, hf]; rfl)
      have E2 := Lib.hid (show bytesB s (opsO L) = low s 8 ++ low L.length 4 ++ bodyL L by unfold bytesB; rw [if_pos E1.out]; unfold encB bodyL; simp [opsO])
      have HOK := Lib.hid hok
      have hwr := u64_in L.length (by omega)
      clear hf hok p0 p1
      go_wp2_with fail
      refine wp_region_held_drew (S := fun w' => Hid (Below W1.heap.size W1 w')) (by kernel_rfl) (Lib.hid (Below.refl _ _).drew) (fun hS => ?_)
      refine wpAnyH_take (i := 0) (v := ?_) rfl (by kernel_rfl) (by kernel_rfl) (by kernel_rfl) (fun _ _ _ h => h) (Or.inl ⟨by rfl, ?_⟩) hS ?_
      rotate_left
      · intro w hw
        obtain ⟨p0, p1, _, _⟩ := (B1.out.below hw.out HG.out).facts2
        go_simp
        try with_reducible rfl
      try simp only [Act.put, List.getElem_toArray, List.getElem_cons_succ, List.getElem_cons_zero, List.setIfInBounds_toArray, List.set_cons_zero, List.set_cons_succ]
      refine wpAnyH_take (i := 1) (v := ?_) rfl (by kernel_rfl) (by kernel_rfl) (by kernel_rfl) (fun _ _ _ h => h) (Or.inl ⟨by rfl, ?_⟩) hS ?_
      rotate_left
      · intro w hw
        obtain ⟨p0, p1, _, _⟩ := (B1.out.below hw.out HG.out).facts2
        go_simp
        try with_reducible rfl
      try simp only [Act.put, List.getElem_toArray, List.getElem_cons_succ, List.getElem_cons_zero, List.setIfInBounds_toArray, List.set_cons_zero, List.set_cons_succ]
      refine wpAnyH_take (i := 3) (v := ?_) rfl (by kernel_rfl) (by kernel_rfl) (by kernel_rfl) (fun _ _ _ h => h) (Or.inl ⟨by rfl, ?_⟩) hS ?_
      rotate_left
      · intro w hw
        obtain ⟨p0, p1, _, _⟩ := (B1.out.below hw.out HG.out).facts2
        go_simp
        try with_reducible rfl
      try simp only [Act.put, List.getElem_toArray, List.getElem_cons_succ, List.getElem_cons_zero, List.setIfInBounds_toArray, List.set_cons_zero, List.set_cons_succ]
      refine wpAnyH_take (i := 4) (v := ?_) rfl (by kernel_rfl) (by kernel_rfl) (by kernel_rfl) (fun _ _ _ h => h) (Or.inl ⟨by rfl, ?_⟩) hS ?_
      rotate_left
      · intro w hw
        obtain ⟨p0, p1, _, _⟩ := (B1.out.below hw.out HG.out).facts2
        go_simp
        try with_reducible rfl
      try simp only [Act.put, List.getElem_toArray, List.getElem_cons_succ, List.getElem_cons_zero, List.setIfInBounds_toArray, List.set_cons_zero, List.set_cons_succ]
      refine wpAnyH_take (i := 5) (v := ?_) rfl (by kernel_rfl) (by kernel_rfl) (by kernel_rfl) (fun _ _ _ h => h) (Or.inl ⟨by rfl, ?_⟩) hS ?_
      rotate_left
      · intro w hw
        go_simp
        try with_reducible rfl
      try simp only [Act.put, List.getElem_toArray, List.getElem_cons_succ, List.getElem_cons_zero, List.setIfInBounds_toArray, List.set_cons_zero, List.set_cons_succ]
      refine wpAnyH_take (i := 6) (v := ?_) rfl (by kernel_rfl) (by kernel_rfl) (by kernel_rfl) (fun _ _ _ h => h) (Or.inl ⟨by rfl, ?_⟩) hS ?_
      rotate_left
      · intro w hw
        go_simp
        try with_reducible rfl
      try simp only [Act.put, List.getElem_toArray, List.getElem_cons_succ, List.getElem_cons_zero, List.setIfInBounds_toArray, List.set_cons_zero, List.set_cons_succ]
      refine wpAnyH_ready (rs := [2]) (by kernel_rfl) (by simp) ?_
      refine AllReadyH.cons rfl (fun K hK => ?_) AllReadyH.nil
      go_simp
      have hlow := low_any none 0 0 s 8 [] W1.drew (.inl rfl) (by simp) hs (by omega)
      have HLW := Lib.hid hlow
      clear hlow
      refine (show Calls Try.prog 24 #[.slice none 0 0, .int .u64 (s : Int), .int .i64 8] W1.drew _ from HLW.out).mono ?_
      intro e W2 hm2
      obtain ⟨A2, c2, rfl, _, _, hl2, hb2⟩ := hm2.parts
      rw [List.nil_append] at hl2 ⊢
      have H2 := Lib.hid (hS.out.trans (hb2.mono hS.out.size))
      have HLW2 := Lib.hid (low_any A2 c2 _ L.length 4 (low s 8) W2 hl2 (by rw [low_length]; omega) (by omega) (by omega))
      clear hm2 hl2 hb2 HLW
      go_wp2_with fail
      refine hK.out _ _ H2 (fun hS2 => ?_)
      clear hK K hS
      try simp only [Act.put, List.getElem_toArray, List.getElem_cons_succ, List.getElem_cons_zero, List.setIfInBounds_toArray, List.set_cons_zero, List.set_cons_succ]
      refine wpAnyH_ready (rs := [7]) (by kernel_rfl) (by simp) ?_
      refine AllReadyH.cons rfl (fun K hK => ?_) AllReadyH.nil
      go_simp
      refine (show Calls Try.prog 24 #[.slice A2 (low s 8).length c2, .int .u64 (L.length : Int), .int .i64 4] W2 _ from HLW2.out).mono ?_
      rintro e W3 ⟨v3, rfl, hown3, hb3⟩
      have H3 := Lib.hid (H2.out.trans (hb3.mono H2.out.size))
      have hl12 : Hid ((low s 8 ++ low L.length 4).length = 12) := Lib.hid (by simp [low_length])
      generalize low s 8 ++ low L.length 4 = H at hown3 hl12 E2
      have HO3 := Lib.hid (Joins.ownsRow_le hown3 H2.out.size)
      clear hown3 hb3 HLW2
      go_wp2_with fail
      refine hK.out _ _ H3 (fun hS => ?_)
      clear hK K hS2
      try simp only [Act.put, List.getElem_toArray, List.getElem_cons_succ, List.getElem_cons_zero, List.setIfInBounds_toArray, List.set_cons_zero, List.set_cons_succ]
      refine wpAnyH_take (i := 8) (v := ?_) rfl (by kernel_rfl) (by kernel_rfl) (by kernel_rfl) (fun _ _ _ h => h) (Or.inl ⟨by rfl, ?_⟩) hS ?_
      rotate_left
      · intro w hw
        go_simp
        try with_reducible rfl
      try simp only [Act.put, List.getElem_toArray, List.getElem_cons_succ, List.getElem_cons_zero, List.setIfInBounds_toArray, List.set_cons_zero, List.set_cons_succ]
      refine wpAnyH_done (by kernel_rfl) ?_ _
      clear hS
      obtain ⟨p0, p1, _, _⟩ := (B1.out.below H3.out HG.out).facts2
      go_wp2_with fail
      clear p0 p1
      have HX := Lib.hid fun w' (hb : Below W1.heap.size W1 w') => (B1.out.below hb HG.out).facts2
      go_loopw [5, 6] (fun o i wr => ∃ j : Nat, j ≤ L.length ∧ i = .int .i64 j ∧ wr.ownsRow W1.heap.size 5 1 o (H ++ bodyL (L.take j)).length ((H ++ bodyL (L.take j)).map vb) ∧ Hid (Below W1.heap.size W1 wr)) (fun _ i _ => L.length + 1 - (intOf i).toNat)
      case atStart => exact ⟨0, by omega, rfl, by simpa [bodyL, opsO] using HO3.out, H3⟩
      case round =>
        obtain ⟨j, hj, rfl, hown, hb⟩ := hrel
        obtain ⟨p00, p01, _, _⟩ := HX.out _ hb.out
        by_cases hlt : j < L.length
        · obtain ⟨d, hd⟩ : ∃ d, L[j]? = some d := ⟨_, List.getElem?_eq_getElem hlt⟩
          have hbw := HB1.out.trans (hb.out.mono HB1.out.size)
          have ho2 := HO.out.below hbw
          obtain ⟨ad, p, hA, hz, hp, hpb, p0, p1, p2⟩ := ho2.place hd
          subst hA
          clear hz hpb
          have hld := load_op p0 p1 p2
          have hdo := ho2.ok d (List.mem_of_getElem? hd)
          have hblen := body_len (L := L.take j) fun x hx => HOK.out x (List.mem_of_mem_take hx)
          rw [List.length_take, Nat.min_eq_left hj] at hblen
          have HD := Lib.hid (body_take hd)
          have HOKD := Lib.hid (HOK.out d (List.mem_of_getElem? hd))
          have HOW := Lib.hid hown
          have KL := Lib.hid (hdo.kl.lies (B := w.heap.size) fun _ h => h)
          have VL := Lib.hid (hdo.vl.lies (B := w.heap.size) fun _ h => h)
          clear hd hbw ho2 hdo hown
          obtain ⟨_, kl2, vl2, hkk⟩ := ok_parts HOKD.out
          have kl2 : d.key.length ≤ 256 := kl2
          have vl2 : d.val.length ≤ 4096 := vl2
          have hkb : (d.kind % 256 : Int) = (d.kind.toNat : Int) := by
            have : (d.kind = 0 ∧ d.val = []) ∨ d.kind = 1 := hkk
            omega
          have hwk := u64_in d.key.length (by omega)
          have hwv := u64_in d.val.length (by omega)
          obtain ⟨xs, hxs⟩ : ∃ xs, xs = H ++ bodyL (L.take j) := ⟨_, rfl⟩
          rw [← hxs] at HOW
          have hxl : Hid (xs.length ≤ 600000) := Lib.hid (by rw [hxs, List.length_append, hl12.out]; omega)
          have XS := Lib.hid hxs
          clear hblen hkk hxs
          obtain ⟨k, ek⟩ : ∃ k, k = d.kind.toNat := ⟨_, rfl⟩
          rw [← ek] at hkb
          have EK := Lib.hid ek
          clear ek
          have b0 := Box.new wr 46 [.int .i64 d.kind, .slice d.ka d.key.length d.kc, .slice d.va d.val.length d.vc]
          have hz0 : (wr.alloc (.cells #[.int .i64 d.kind, .slice d.ka d.key.length d.kc, .slice d.va d.val.length d.vc] 46)).heap.size = wr.heap.size + 1 := by simp
          have hcell : Lies ((wr.alloc (.cells #[.int .i64 d.kind, .slice d.ka d.key.length d.kc, .slice d.va d.val.length d.vc] 46)).alloc (.cells #[.int .u8 (k : Int)] 5)) (wr.heap.size + 2) (some ⟨wr.heap.size + 1, 0, none⟩) [.int .u8 (k : Int)] := by
            have := lies_block (B := wr.heap.size + 2) (heap_alloc_new (wr.alloc (.cells #[.int .i64 d.kind, .slice d.ka d.key.length d.kc, .slice d.va d.val.length d.vc] 46)) (.cells #[.int .u8 (k : Int)] 5)) (by omega)
            rw [hz0] at this
            exact this
          obtain ⟨v4, W4, hr4, hown4, hon4⟩ := run_append_onto (P := Try.prog) (m := 1) (c := 1) 28 28 5 (.int .u8 0) 1 1 Try.underlying28 (by kernel_rfl) rfl (by decide)
            (fun u hu => by simp at hu; subst hu; rfl) ((HOW.out.alloc (.cells #[.int .i64 d.kind, .slice d.ka d.key.length d.kc, .slice d.va d.val.length d.vc] 46)).alloc (.cells #[.int .u8 (k : Int)] 5)) hcell rfl (by have := hxl.out; unfold maxLen; omega) (by have := hxl.out; omega) (by have := hb.out.size; simp; omega)
          have h4 := Onto.pre (Joins.below_alloc2 wr (.cells #[.int .i64 d.kind, .slice d.ka d.key.length d.kc, .slice d.va d.val.length d.vc] 46) (.cells #[.int .u8 (k : Int)] 5)) hon4
          have b4 := (b0.alloc (.cells #[.int .u8 (k : Int)] 5)).keep hon4.keep (fun hk2 => by have := (HOW.out.lt _ hk2).2; omega)
          obtain ⟨X, hX⟩ : ∃ X, X = xs ++ [k] := ⟨_, rfl⟩
          have hown4 : W4.ownsRow W1.heap.size 5 1 v4 X.length (X.map vb) := by
            rw [hX, List.length_append, List.map_append]; exact hown4
          have hXl : Hid (X.length ≤ 600001) := Lib.hid (by have := hxl.out; rw [hX, List.length_append]; simp; omega)
          have HX4 := Lib.hid hX
          obtain ⟨A4, c4, hv4, _, _, hl4⟩ := own_parts hown4
          subst hv4
          have HO4 := Lib.hid hown4
          have HL4 := Lib.hid hl4
          have HKW4 := Lib.hid (h4.below HOW.out hb.out.size)
          have HB4 := Lib.hid (hb.out.trans HKW4.out)
          have BX4 := Lib.hid b4
          have HG4 := Lib.hid b4.lt
          have HR4 := Lib.hid hr4
          clear b0 hz0 hcell hr4 hown4 hon4 h4 b4 hX hl4
          go_wp2_with (at_builtin; refine wpList_append_run rfl _ _ 28 rfl rfl rfl HR4.out ?_)
          clear p0 p1 p2 hld HR4
          refine wp_region_held_drew (S := fun w' => Hid (Below W4.heap.size W4 w')) (by kernel_rfl) (Lib.hid (Below.refl _ _).drew) (fun hS => ?_)
          refine wpAnyH_take (i := 0) (v := ?_) rfl (by kernel_rfl) (by kernel_rfl) (by kernel_rfl) (fun _ _ _ h => h) (Or.inl ⟨by rfl, ?_⟩) hS ?_
          rotate_left
          · intro w hw
            obtain ⟨q0, q1, q2, _, _, _⟩ := (BX4.out.below hw.out HG4.out).facts3
            go_simp
            try with_reducible rfl
          try simp only [Act.put, List.getElem_toArray, List.getElem_cons_succ, List.getElem_cons_zero, List.setIfInBounds_toArray, List.set_cons_zero, List.set_cons_succ]
          refine wpAnyH_take (i := 1) (v := ?_) rfl (by kernel_rfl) (by kernel_rfl) (by kernel_rfl) (fun _ _ _ h => h) (Or.inl ⟨by rfl, ?_⟩) hS ?_
          rotate_left
          · intro w hw
            obtain ⟨q0, q1, q2, _, _, _⟩ := (BX4.out.below hw.out HG4.out).facts3
            go_simp
            try with_reducible rfl
          try simp only [Act.put, List.getElem_toArray, List.getElem_cons_succ, List.getElem_cons_zero, List.setIfInBounds_toArray, List.set_cons_zero, List.set_cons_succ]
          refine wpAnyH_take (i := 2) (v := ?_) rfl (by kernel_rfl) (by kernel_rfl) (by kernel_rfl) (fun _ _ _ h => h) (Or.inl ⟨by rfl, ?_⟩) hS ?_
          rotate_left
          · intro w hw
            obtain ⟨q0, q1, q2, _, _, _⟩ := (BX4.out.below hw.out HG4.out).facts3
            go_simp
            try with_reducible rfl
          try simp only [Act.put, List.getElem_toArray, List.getElem_cons_succ, List.getElem_cons_zero, List.setIfInBounds_toArray, List.set_cons_zero, List.set_cons_succ]
          refine wpAnyH_take (i := 3) (v := ?_) rfl (by kernel_rfl) (by kernel_rfl) (by kernel_rfl) (fun _ _ _ h => h) (Or.inl ⟨by rfl, ?_⟩) hS ?_
          rotate_left
          · intro w hw
            obtain ⟨q0, q1, q2, _, _, _⟩ := (BX4.out.below hw.out HG4.out).facts3
            go_simp
            try with_reducible rfl
          try simp only [Act.put, List.getElem_toArray, List.getElem_cons_succ, List.getElem_cons_zero, List.setIfInBounds_toArray, List.set_cons_zero, List.set_cons_succ]
          refine wpAnyH_take (i := 4) (v := ?_) rfl (by kernel_rfl) (by kernel_rfl) (by kernel_rfl) (fun _ _ _ h => h) (Or.inl ⟨by rfl, ?_⟩) hS ?_
          rotate_left
          · intro w hw
            obtain ⟨q0, q1, q2, _, _, _⟩ := (BX4.out.below hw.out HG4.out).facts3
            go_simp
            try with_reducible rfl
          try simp only [Act.put, List.getElem_toArray, List.getElem_cons_succ, List.getElem_cons_zero, List.setIfInBounds_toArray, List.set_cons_zero, List.set_cons_succ]
          refine wpAnyH_take (i := 6) (v := ?_) rfl (by kernel_rfl) (by kernel_rfl) (by kernel_rfl) (fun _ _ _ h => h) (Or.inl ⟨by rfl, ?_⟩) hS ?_
          rotate_left
          · intro w hw
            obtain ⟨q0, q1, q2, _, _, _⟩ := (BX4.out.below hw.out HG4.out).facts3
            go_simp
            try with_reducible rfl
          try simp only [Act.put, List.getElem_toArray, List.getElem_cons_succ, List.getElem_cons_zero, List.setIfInBounds_toArray, List.set_cons_zero, List.set_cons_succ]
          refine wpAnyH_take (i := 7) (v := ?_) rfl (by kernel_rfl) (by kernel_rfl) (by kernel_rfl) (fun _ _ _ h => h) (Or.inl ⟨by rfl, ?_⟩) hS ?_
          rotate_left
          · intro w hw
            obtain ⟨q0, q1, q2, _, _, _⟩ := (BX4.out.below hw.out HG4.out).facts3
            go_simp
            try with_reducible rfl
          try simp only [Act.put, List.getElem_toArray, List.getElem_cons_succ, List.getElem_cons_zero, List.setIfInBounds_toArray, List.set_cons_zero, List.set_cons_succ]
          refine wpAnyH_ready (rs := [5]) (by kernel_rfl) (by simp) ?_
          refine AllReadyH.cons rfl (fun K hK => ?_) AllReadyH.nil
          go_simp
          refine (Vt.putv_calls A4 c4 d.key.length X W4.drew HL4.out (by have := hXl.out; omega) (by omega)).mono ?_
          rintro e W5 ⟨v5, rfl, hown5, hb5⟩
          have H5 := Lib.hid (hS.out.trans (hb5.mono hS.out.size))
          have HO5 := Lib.hid hown5
          clear hown5 hb5
          go_wp2_with fail
          refine hK.out _ _ H5 (fun hS5 => ?_)
          clear hK K hS
          try simp only [Act.put, List.getElem_toArray, List.getElem_cons_succ, List.getElem_cons_zero, List.setIfInBounds_toArray, List.set_cons_zero, List.set_cons_succ]
          refine wpAnyH_ready (rs := [8]) (by kernel_rfl) (by simp) ?_
          refine AllReadyH.cons rfl (fun K hK => ?_) AllReadyH.nil
          obtain ⟨v6, W6, hr6, hown6, hon6⟩ := append_bytes (c := d.kc) HO5.out (KL.out.below ((HKW4.out.trans (H5.out.mono (Nat.le_trans hb.out.size HKW4.out.size))).mono (Nat.le_of_lt HG.out))) (by have := hXl.out; have := enc_len10 d.key.length; simp; omega) H5.out.size
          have H6 := Lib.hid (H5.out.trans (hon6.below HO5.out H5.out.size))
          have HO6 := Lib.hid (Joins.ownsRow_le hown6 (Nat.le_trans hb.out.size HKW4.out.size))
          refine held_append rfl _ _ 28 rfl rfl rfl hr6 ?_
          refine hK.out _ _ H6 (fun hS => ?_)
          clear hr6 hown6 hon6 hK K hS5
          try simp only [Act.put, List.getElem_toArray, List.getElem_cons_succ, List.getElem_cons_zero, List.setIfInBounds_toArray, List.set_cons_zero, List.set_cons_succ]
          refine wpAnyH_take (i := 9) (v := ?_) rfl (by kernel_rfl) (by kernel_rfl) (by kernel_rfl) (fun _ _ _ h => h) (Or.inl ⟨by rfl, ?_⟩) hS ?_
          rotate_left
          · intro w hw
            go_simp
            try with_reducible rfl
          try simp only [Act.put, List.getElem_toArray, List.getElem_cons_succ, List.getElem_cons_zero, List.setIfInBounds_toArray, List.set_cons_zero, List.set_cons_succ]
          refine wpAnyH_done (by kernel_rfl) ?_ _
          have b6 := BX4.out.below H6.out HG4.out
          have BX6 := Lib.hid b6
          have HG6 := Lib.hid b6.lt
          obtain ⟨q0, q1, q2, _, _, _⟩ := b6.facts3
          obtain ⟨Y, hY⟩ : ∃ Y, Y = X ++ enc d.key.length ++ d.key := ⟨_, rfl⟩
          rw [← hY] at HO6
          have hXl : Hid (Y.length ≤ 610000) := Lib.hid (by have := hXl.out; have := enc_len10 d.key.length; rw [hY, List.length_append, List.length_append]; omega)
          obtain ⟨A6, c6, hv6, _, _, hl6⟩ := own_parts HO6.out
          subst hv6
          have HL6 := Lib.hid hl6
          have HKW6 := Lib.hid (HKW4.out.trans (H6.out.mono (Nat.le_trans hb.out.size HKW4.out.size)))
          have HB6 := Lib.hid (hb.out.trans HKW6.out)
          have HY := Lib.hid hY
          clear b6 hY hl6 hS
          by_cases hk1 : d.kind = 1
          · have dk : (d.kind == 1) = true := by rw [beq_iff_eq]; exact hk1
            have HK1 := Lib.hid hk1
            clear hk1 hkb
            go_wp2_with fail
            clear q0 q1 q2 dk
            refine wp_region_held_drew (S := fun w' => Hid (Below W6.heap.size W6 w')) (by kernel_rfl) (Lib.hid (Below.refl _ _).drew) (fun hS => ?_)
            refine wpAnyH_take (i := 0) (v := ?_) rfl (by kernel_rfl) (by kernel_rfl) (by kernel_rfl) (fun _ _ _ h => h) (Or.inl ⟨by rfl, ?_⟩) hS ?_
            rotate_left
            · intro w hw
              obtain ⟨q0, q1, q2, _, _, _⟩ := (BX6.out.below hw.out HG6.out).facts3
              go_simp
              try with_reducible rfl
            try simp only [Act.put, List.getElem_toArray, List.getElem_cons_succ, List.getElem_cons_zero, List.setIfInBounds_toArray, List.set_cons_zero, List.set_cons_succ]
            refine wpAnyH_take (i := 1) (v := ?_) rfl (by kernel_rfl) (by kernel_rfl) (by kernel_rfl) (fun _ _ _ h => h) (Or.inl ⟨by rfl, ?_⟩) hS ?_
            rotate_left
            · intro w hw
              obtain ⟨q0, q1, q2, _, _, _⟩ := (BX6.out.below hw.out HG6.out).facts3
              go_simp
              try with_reducible rfl
            try simp only [Act.put, List.getElem_toArray, List.getElem_cons_succ, List.getElem_cons_zero, List.setIfInBounds_toArray, List.set_cons_zero, List.set_cons_succ]
            refine wpAnyH_take (i := 2) (v := ?_) rfl (by kernel_rfl) (by kernel_rfl) (by kernel_rfl) (fun _ _ _ h => h) (Or.inl ⟨by rfl, ?_⟩) hS ?_
            rotate_left
            · intro w hw
              obtain ⟨q0, q1, q2, _, _, _⟩ := (BX6.out.below hw.out HG6.out).facts3
              go_simp
              try with_reducible rfl
            try simp only [Act.put, List.getElem_toArray, List.getElem_cons_succ, List.getElem_cons_zero, List.setIfInBounds_toArray, List.set_cons_zero, List.set_cons_succ]
            refine wpAnyH_take (i := 3) (v := ?_) rfl (by kernel_rfl) (by kernel_rfl) (by kernel_rfl) (fun _ _ _ h => h) (Or.inl ⟨by rfl, ?_⟩) hS ?_
            rotate_left
            · intro w hw
              obtain ⟨q0, q1, q2, _, _, _⟩ := (BX6.out.below hw.out HG6.out).facts3
              go_simp
              try with_reducible rfl
            try simp only [Act.put, List.getElem_toArray, List.getElem_cons_succ, List.getElem_cons_zero, List.setIfInBounds_toArray, List.set_cons_zero, List.set_cons_succ]
            refine wpAnyH_take (i := 4) (v := ?_) rfl (by kernel_rfl) (by kernel_rfl) (by kernel_rfl) (fun _ _ _ h => h) (Or.inl ⟨by rfl, ?_⟩) hS ?_
            rotate_left
            · intro w hw
              obtain ⟨q0, q1, q2, _, _, _⟩ := (BX6.out.below hw.out HG6.out).facts3
              go_simp
              try with_reducible rfl
            try simp only [Act.put, List.getElem_toArray, List.getElem_cons_succ, List.getElem_cons_zero, List.setIfInBounds_toArray, List.set_cons_zero, List.set_cons_succ]
            refine wpAnyH_take (i := 6) (v := ?_) rfl (by kernel_rfl) (by kernel_rfl) (by kernel_rfl) (fun _ _ _ h => h) (Or.inl ⟨by rfl, ?_⟩) hS ?_
            rotate_left
            · intro w hw
              obtain ⟨q0, q1, q2, _, _, _⟩ := (BX6.out.below hw.out HG6.out).facts3
              go_simp
              try with_reducible rfl
            try simp only [Act.put, List.getElem_toArray, List.getElem_cons_succ, List.getElem_cons_zero, List.setIfInBounds_toArray, List.set_cons_zero, List.set_cons_succ]
            refine wpAnyH_take (i := 7) (v := ?_) rfl (by kernel_rfl) (by kernel_rfl) (by kernel_rfl) (fun _ _ _ h => h) (Or.inl ⟨by rfl, ?_⟩) hS ?_
            rotate_left
            · intro w hw
              obtain ⟨q0, q1, q2, _, _, _⟩ := (BX6.out.below hw.out HG6.out).facts3
              go_simp
              try with_reducible rfl
            try simp only [Act.put, List.getElem_toArray, List.getElem_cons_succ, List.getElem_cons_zero, List.setIfInBounds_toArray, List.set_cons_zero, List.set_cons_succ]
            refine wpAnyH_ready (rs := [5]) (by kernel_rfl) (by simp) ?_
            refine AllReadyH.cons rfl (fun K hK => ?_) AllReadyH.nil
            go_simp
            refine (Vt.putv_calls A6 c6 d.val.length Y W6.drew HL6.out (by have := hXl.out; omega) (by omega)).mono ?_
            rintro e W7 ⟨v7, rfl, hown7, hb7⟩
            have H7 := Lib.hid (hS.out.trans (hb7.mono hS.out.size))
            have HO7 := Lib.hid hown7
            clear hown7 hb7
            go_wp2_with fail
            refine hK.out _ _ H7 (fun hS7 => ?_)
            clear hK K hS
            try simp only [Act.put, List.getElem_toArray, List.getElem_cons_succ, List.getElem_cons_zero, List.setIfInBounds_toArray, List.set_cons_zero, List.set_cons_succ]
            refine wpAnyH_ready (rs := [8]) (by kernel_rfl) (by simp) ?_
            refine AllReadyH.cons rfl (fun K hK => ?_) AllReadyH.nil
            obtain ⟨v8, W8, hr8, hown8, hon8⟩ := append_bytes (c := d.vc) HO7.out (VL.out.below ((HKW6.out.trans (H7.out.mono (Nat.le_trans hb.out.size HKW6.out.size))).mono (Nat.le_of_lt HG.out))) (by have := hXl.out; have := enc_len10 d.val.length; simp; omega) H7.out.size
            have H8 := Lib.hid (H7.out.trans (hon8.below HO7.out H7.out.size))
            have HO8 := Lib.hid (Joins.ownsRow_le hown8 (Nat.le_trans hb.out.size HKW6.out.size))
            refine held_append rfl _ _ 28 rfl rfl rfl hr8 ?_
            refine hK.out _ _ H8 (fun hS => ?_)
            clear hr8 hown8 hon8 hK K hS7
            try simp only [Act.put, List.getElem_toArray, List.getElem_cons_succ, List.getElem_cons_zero, List.setIfInBounds_toArray, List.set_cons_zero, List.set_cons_succ]
            refine wpAnyH_take (i := 9) (v := ?_) rfl (by kernel_rfl) (by kernel_rfl) (by kernel_rfl) (fun _ _ _ h => h) (Or.inl ⟨by rfl, ?_⟩) hS ?_
            rotate_left
            · intro w hw
              go_simp
              try with_reducible rfl
            try simp only [Act.put, List.getElem_toArray, List.getElem_cons_succ, List.getElem_cons_zero, List.setIfInBounds_toArray, List.set_cons_zero, List.set_cons_succ]
            refine wpAnyH_done (by kernel_rfl) ?_ _
            have HB8 := Lib.hid (HB6.out.trans (H8.out.mono (Nat.le_trans (Nat.le_refl _) HB6.out.size)))
            have e8 : Y ++ enc d.val.length ++ d.val = H ++ bodyL (L.take (j + 1)) := by
              rw [HD.out, ← List.append_assoc, ← XS.out, HY.out, HX4.out]
              have : encO d.o = k :: (text d.key ++ text d.val) := by
                rw [EK.out]; unfold encO; rw [if_pos (show d.o.kind = 1 from HK1.out)]; rfl
              rw [this]
              simp [text]
            rw [e8] at HO8
            clear hS e8
            go_wp2_with fail
            go_roundw
            case rel => exact ⟨j + 1, by omega, by go_num, HO8.out, HB8⟩
            case measure => simp [intOf]; omega
          · have dk : (d.kind == 1) = false := by rw [beq_eq_false_iff_ne]; exact hk1
            have e6 : Y = H ++ bodyL (L.take (j + 1)) := by
              rw [HD.out, ← List.append_assoc, ← XS.out, HY.out, HX4.out]
              have : encO d.o = k :: text d.key := by
                rw [EK.out]; unfold encO; rw [if_neg (show ¬ d.o.kind = 1 from hk1), List.append_nil]; rfl
              rw [this]
              simp [text]
            have E6 := Lib.hid e6
            have HN1 := Lib.hid hk1
            clear e6 hk1 hkb
            go_wp2_with fail
            go_roundw
            case rel => exact ⟨j + 1, by omega, by go_num, by rw [← E6.out]; exact HO6.out, HB6⟩
            case measure => simp [intOf]; omega
        · obtain rfl : j = L.length := by omega
          have HOW := Lib.hid hown
          clear hown
          go_wp2_with fail
          go_returns
          refine ⟨_, by rw [E1.out]; rfl, ?_, HB1.out.trans (hb.out.mono HB1.out.size)⟩
          have := HOW.out
          rw [List.take_length] at this
          rw [E2.out]
          exact Joins.ownsRow_le this (Nat.le_of_lt HG.out)
  · have E1 := Lib.hid (show bytesE s (opsO L) = 1 by unfold bytesE; rw [← HCH.out, hk]; rfl)
    rw [hk]
    clear hk
    go_wp2_with fail
    go_returns
    exact coded_bad E1.out (by decide) HB1.out
  · have E1 := Lib.hid (show bytesE s (opsO L) = 3 by unfold bytesE; rw [← HCH.out, hk]; rfl)
    rw [hk]
    clear hk
    go_wp2_with fail
    go_returns
    exact coded_bad E1.out (by decide) HB1.out
end Go.Proofs.Ytggliedlfccicaa.Bt
