/- The document's tables: TableAll. -/
import Derived.Test.YtobjiamdljjkjaaGreatJd
namespace Go.Proofs.YtobjiamdljjkjaaGreat.Tb
set_option linter.unusedVariables false
set_option linter.unusedSimpArgs false
open Go.RowKit Lift Ik Sk Vn Bk Bl Sq
open Vt (res)
theorem cut_mid64 (A : Option Addr) (n c p k : Nat) (h : p + k ≤ n) (hc : n ≤ c) (hm : c ≤ maxLen) :
    ∃ A' : Option Addr, (0 < k → A' = A.map (·.add p)) ∧ ∀ (W : World) (q : Int), q = (p : Int) + (k : Int) → Sem.run Tryz.prog (Instr.slice 25 (.slice A n c) (some (.int .u64 (p : Int))) (some (.int .u64 q)) none) W = .ok (.slice A' k (c - p)) W := by
  unfold maxLen at hm
  by_cases hcp : c = p
  · refine ⟨A, fun h0 => by omega, fun W q hq => ?_⟩
    obtain rfl : k = 0 := by omega
    obtain rfl : n = p := by omega
    subst hcp hq
    go_simp
  · refine ⟨A.map (·.add p), fun _ => rfl, fun W q hq => ?_⟩
    subst hq
    go_simp
    rw [if_pos ⟨by omega, by omega⟩, if_pos (by omega), show ((p : Int) + (k : Int)).toNat - p = k by omega]
set_option maxRecDepth 1000000 in
set_option maxHeartbeats 6400000 in
theorem rtall_any (A : Option Addr) (c : Nat) (bs : List Nat) (w : World) (hl : Lies w w.heap.size A (bs.map vb)) (hc : bs.length ≤ c) (hm : c ≤ maxLen) (hs : bs.length ≤ 10000000) (h8 : ∀ x, x ∈ bs → x < 256) :
    Calls Tryz.prog 17 #[.slice A bs.length c] w (Tall w bs) := by
  have HL := Lib.hid hl
  have H8 := Lib.hid h8
  have HM := Lib.hid hm
  have hcs := hm
  unfold maxLen at hcs
  by_cases h24 : bs.length < 24
  · have HE := Lib.hid (tallB_short h24)
    have d1 : decide ((bs.length : Int) < 24) = true := decide_eq_true (by omega)
    clear hl h8
    go_enter Tryz.func17, Tryz.ntmps17
    go_wp2_with fail
    go_returns
    exact tall_bad HE.out (Below.refl _ _)
  · have d1 : decide ((bs.length : Int) < 24) = false := decide_eq_false (by omega)
    have d1' : ¬ (bs.length : Int) < 24 := by omega
    obtain ⟨m, hmm⟩ : ∃ m, bs.length = m + 24 := ⟨bs.length - 24, by omega⟩
    have H24 := Lib.hid h24
    have HMM := Lib.hid hmm
    have e4 : bs.length - 4 = m + 20 := by omega
    have e24 : bs.length - 24 = m := by omega
    have HE4 := Lib.hid e4
    have HE24 := Lib.hid e24
    obtain ⟨A4, hA4, -, hcutA⟩ := cut_from A bs.length c (m + 20) (by omega) hc hm
    rw [show bs.length - (m + 20) = 4 from by omega] at hcutA hA4
    obtain ⟨A5, hA5, -, hcutB⟩ := cut_mid A bs.length c m 20 (by omega) hc hm
    have ei4 : (bs.length : Int) - 4 = (m : Int) + 20 := by omega
    have ei24 : (bs.length : Int) - 24 = (m : Int) := by omega
    have HCA : Hid (∀ W : World, Sem.run Tryz.prog (Instr.slice 25 (.slice A bs.length c) (some (.int .i64 ((m : Int) + 20))) none none) W = .ok (.slice A4 4 (c - (m + 20))) W) := Lib.hid fun W => by
      have h := hcutA W
      rwa [show (((m + 20 : Nat) : Int)) = (m : Int) + 20 from by omega] at h
    have HCB : Hid (∀ W : World, Sem.run Tryz.prog (Instr.slice 25 (.slice A bs.length c) (some (.int .i64 (m : Int))) (some (.int .i64 ((m : Int) + 20))) none) W = .ok (.slice A5 20 (c - m)) W) := Lib.hid fun W => hcutB W _ rfl
    have hd4 : (bs.drop (m + 20)).length = 4 := by rw [List.length_drop]; omega
    have ht20 : ((bs.drop m).take 20).length = 20 := by rw [List.length_take, List.length_drop]; omega
    have hlA : Lies w w.heap.size A4 ((bs.drop (m + 20)).map vb) := Lies.cut hl (fun _ => hA4 (by omega)) (List.prefix_refl _)
    have hlB : Lies w w.heap.size A5 (((bs.drop m).take 20).map vb) := Lies.cut hl (fun _ => hA5 (by omega)) (List.take_prefix _ _)
    have HR1 : Hid (∀ W : World, Below w.heap.size w W → Sem.run Tryz.prog (convert 25 9 (.slice A4 4 (c - (m + 20)))) W = .ok (.string (str (bs.drop (m + 20)))) W) := Lib.hid fun W hb => by
      have h := runs (c := c - (m + 20)) (hlA.below hb)
      rwa [hd4] at h
    have HMK : Hid (∀ W : World, Below w.heap.size w W → Calls Tryz.prog 33 #[.slice A5 20 (c - m)] W (Made W.heap.size W (sum4 ((bs.drop m).take 20)))) := Lib.hid fun W hb => by
      have h := masked_any A5 (c - m) w.heap.size ((bs.drop m).take 20) W (hlB.below hb) (by rw [ht20]; omega) (Nat.le_trans (Nat.sub_le _ _) hm) (fun x hx => h8 x (List.mem_of_mem_drop (List.mem_of_mem_take hx)))
      rwa [ht20] at h
    have hse := str_eq (x := bs.drop (m + 20)) (y := sum4 ((bs.drop m).take 20)) (fun x hx => h8 x (List.mem_of_mem_drop hx)) (sum4_byte _)
    have HSL : Hid ((sum4 ((bs.drop m).take 20)).length = 4) := Lib.hid (sum4_len _)
    obtain ⟨sm, hsm⟩ : ∃ sm, sm = sum4 ((bs.drop m).take 20) := ⟨_, rfl⟩
    rw [← hsm] at hse HMK HSL
    have HSM := Lib.hid hsm
    have hm6 : m ≤ 10000000 := by omega
    have HSE : Hid (((str (bs.drop (m + 20))).toList == (str sm).toList) = decide (bs.drop (m + 20) = sm)) := Lib.hid hse
    clear hl h8 hmm e4 e24 h24 hd4 ht20 hlA hlB hcutA hcutB hsm hA4 hA5 hse
    go_enter Tryz.func17, Tryz.ntmps17
    go_upto_region 4 with fail
    refine wp_region_held_drew (S := fun w' => Hid (Below w.heap.size w w')) (by kernel_rfl) (Lib.hid (Below.refl _ _).drew) (fun hS => ?_)
    refine wpAnyH_take (i := 0) (v := ?_) rfl (by kernel_rfl) (by kernel_rfl) (by kernel_rfl) (fun _ _ _ h => h) (Or.inl ⟨by rfl, ?_⟩) hS ?_
    rotate_left
    · intro wi hw
      go_simp
      try with_reducible rfl
    try simp only [Act.put, List.getElem_toArray, List.getElem_cons_succ, List.getElem_cons_zero, List.setIfInBounds_toArray, List.set_cons_zero, List.set_cons_succ]
    refine wpAnyH_take (i := 1) (v := ?_) rfl (by kernel_rfl) (by kernel_rfl) (by kernel_rfl) (fun _ _ _ h => h) (Or.inl ⟨by rfl, ?_⟩) hS ?_
    rotate_left
    · intro wi hw
      go_simp
      try with_reducible rfl
    try simp only [Act.put, List.getElem_toArray, List.getElem_cons_succ, List.getElem_cons_zero, List.setIfInBounds_toArray, List.set_cons_zero, List.set_cons_succ]
    refine wpAnyH_take (i := 2) (v := ?_) rfl (by kernel_rfl) (by kernel_rfl) (by kernel_rfl) (fun _ _ _ h => h) (Or.inl ⟨by rfl, ?_⟩) hS ?_
    rotate_left
    · intro wi hw
      go_simp
      try with_reducible rfl
    try simp only [Act.put, List.getElem_toArray, List.getElem_cons_succ, List.getElem_cons_zero, List.setIfInBounds_toArray, List.set_cons_zero, List.set_cons_succ]
    refine wpAnyH_take (i := 3) (v := ?_) rfl (by kernel_rfl) (by kernel_rfl) (by kernel_rfl) (fun _ _ _ h => h) (Or.inl ⟨by rfl, ?_⟩) hS ?_
    rotate_left
    · intro wi hw
      have ew1 : IntKind.i64.wrap ((m : Int) + 20) = (m : Int) + 20 := IntWalk.i64_in _ (by omega)
      have ew2 : IntKind.i64.wrap ((bs.length : Int) - 4) = (bs.length : Int) - 4 := IntWalk.i64_in _ (by omega)
      go_simp
      try with_reducible rfl
    try simp only [Act.put, List.getElem_toArray, List.getElem_cons_succ, List.getElem_cons_zero, List.setIfInBounds_toArray, List.set_cons_zero, List.set_cons_succ]
    refine wpAnyH_take (i := 4) (v := ?_) rfl (by kernel_rfl) (by kernel_rfl) (by kernel_rfl) (fun _ _ _ h => h) (Or.inl ⟨by rfl, ?_⟩) hS ?_
    rotate_left
    · intro wi hw
      have hca := HCA.out
      go_simp
      try with_reducible rfl
    try simp only [Act.put, List.getElem_toArray, List.getElem_cons_succ, List.getElem_cons_zero, List.setIfInBounds_toArray, List.set_cons_zero, List.set_cons_succ]
    refine wpAnyH_take (i := 5) (v := ?_) rfl (by kernel_rfl) (by kernel_rfl) (by kernel_rfl) (fun _ _ _ h => h) (Or.inl ⟨by rfl, ?_⟩) hS ?_
    rotate_left
    · intro wi hw
      have hr1 := HR1.out wi hw.out
      go_simp
      try with_reducible rfl
    try simp only [Act.put, List.getElem_toArray, List.getElem_cons_succ, List.getElem_cons_zero, List.setIfInBounds_toArray, List.set_cons_zero, List.set_cons_succ]
    refine wpAnyH_take (i := 6) (v := ?_) rfl (by kernel_rfl) (by kernel_rfl) (by kernel_rfl) (fun _ _ _ h => h) (Or.inl ⟨by rfl, ?_⟩) hS ?_
    rotate_left
    · intro wi hw
      go_simp
      try with_reducible rfl
    try simp only [Act.put, List.getElem_toArray, List.getElem_cons_succ, List.getElem_cons_zero, List.setIfInBounds_toArray, List.set_cons_zero, List.set_cons_succ]
    refine wpAnyH_take (i := 7) (v := ?_) rfl (by kernel_rfl) (by kernel_rfl) (by kernel_rfl) (fun _ _ _ h => h) (Or.inl ⟨by rfl, ?_⟩) hS ?_
    rotate_left
    · intro wi hw
      go_simp
      try with_reducible rfl
    try simp only [Act.put, List.getElem_toArray, List.getElem_cons_succ, List.getElem_cons_zero, List.setIfInBounds_toArray, List.set_cons_zero, List.set_cons_succ]
    refine wpAnyH_take (i := 8) (v := ?_) rfl (by kernel_rfl) (by kernel_rfl) (by kernel_rfl) (fun _ _ _ h => h) (Or.inl ⟨by rfl, ?_⟩) hS ?_
    rotate_left
    · intro wi hw
      go_simp
      try with_reducible rfl
    try simp only [Act.put, List.getElem_toArray, List.getElem_cons_succ, List.getElem_cons_zero, List.setIfInBounds_toArray, List.set_cons_zero, List.set_cons_succ]
    refine wpAnyH_take (i := 9) (v := ?_) rfl (by kernel_rfl) (by kernel_rfl) (by kernel_rfl) (fun _ _ _ h => h) (Or.inl ⟨by rfl, ?_⟩) hS ?_
    rotate_left
    · intro wi hw
      go_simp
      try with_reducible rfl
    try simp only [Act.put, List.getElem_toArray, List.getElem_cons_succ, List.getElem_cons_zero, List.setIfInBounds_toArray, List.set_cons_zero, List.set_cons_succ]
    refine wpAnyH_take (i := 10) (v := ?_) rfl (by kernel_rfl) (by kernel_rfl) (by kernel_rfl) (fun _ _ _ h => h) (Or.inl ⟨by rfl, ?_⟩) hS ?_
    rotate_left
    · intro wi hw
      have ew1 : IntKind.i64.wrap ((m : Int) + 20) = (m : Int) + 20 := IntWalk.i64_in _ (by omega)
      have ew2 : IntKind.i64.wrap ((bs.length : Int) - 4) = (bs.length : Int) - 4 := IntWalk.i64_in _ (by omega)
      go_simp
      try with_reducible rfl
    try simp only [Act.put, List.getElem_toArray, List.getElem_cons_succ, List.getElem_cons_zero, List.setIfInBounds_toArray, List.set_cons_zero, List.set_cons_succ]
    refine wpAnyH_take (i := 11) (v := ?_) rfl (by kernel_rfl) (by kernel_rfl) (by kernel_rfl) (fun _ _ _ h => h) (Or.inl ⟨by rfl, ?_⟩) hS ?_
    rotate_left
    · intro wi hw
      have hcb := HCB.out
      go_simp
      try with_reducible rfl
    try simp only [Act.put, List.getElem_toArray, List.getElem_cons_succ, List.getElem_cons_zero, List.setIfInBounds_toArray, List.set_cons_zero, List.set_cons_succ]
    refine wpAnyH_ready (rs := [12]) (by kernel_rfl) (by simp) ?_
    refine (AllReadyH.cons rfl (fun K hK => ?_) AllReadyH.nil)
    go_simp
    have hb7 := hS.out
    refine (HMK.out _ hb7).mono ?_
    intro e W8 hmade
    obtain ⟨v8, rfl, -, ⟨A8, c8, hv8, h1, h2, h3⟩, hb8⟩ := made_byts hmade
    rw [HSL.out] at hv8 h1
    subst hv8
    have HB8 := Lib.hid (hb7.trans (hb8.mono hb7.size))
    have HR2 : Hid (∀ W : World, Below W8.heap.size W8 W → Sem.run Tryz.prog (convert 25 9 (.slice A8 4 c8)) W = .ok (.string (str sm)) W) := Lib.hid fun W hb => by
      have h := runs (c := c8) (h3.below hb)
      rwa [HSL.out] at h
    clear hmade hb8 h1 h2 h3
    go_wp2_with fail
    refine hK.out _ _ HB8 (fun _ => ?_)
    clear hK K hS
    refine wpAnyH_other (S' := fun w' => Hid (Below W8.heap.size W8 w')) (fun w hw => Lib.hid (HB8.out.trans (hw.out.mono HB8.out.size))) _ _ _ _ ?_
    have hS : Hid (Below W8.heap.size W8 W8) := Lib.hid (Below.refl _ _)
    try simp only [Act.put, List.getElem_toArray, List.getElem_cons_succ, List.getElem_cons_zero, List.setIfInBounds_toArray, List.set_cons_zero, List.set_cons_succ]
    refine wpAnyH_take (i := 13) (v := ?_) rfl (by kernel_rfl) (by kernel_rfl) (by kernel_rfl) (fun _ _ _ h => h) (Or.inl ⟨by rfl, ?_⟩) hS ?_
    rotate_left
    · intro wi hw
      have hr2 := HR2.out wi hw.out
      go_simp
      try with_reducible rfl
    try simp only [Act.put, List.getElem_toArray, List.getElem_cons_succ, List.getElem_cons_zero, List.setIfInBounds_toArray, List.set_cons_zero, List.set_cons_succ]
    refine wpAnyH_take (i := 14) (v := ?_) rfl (by kernel_rfl) (by kernel_rfl) (by kernel_rfl) (fun _ _ _ h => h) (Or.inl ⟨by rfl, ?_⟩) hS ?_
    rotate_left
    · intro wi hw
      have hse := HSE.out
      have hse2 : ((str (bs.drop (m + 20))).toList != (str sm).toList) = !decide (bs.drop (m + 20) = sm) := by rw [← hse]; rfl
      go_simp
      try with_reducible rfl
    try simp only [Act.put, List.getElem_toArray, List.getElem_cons_succ, List.getElem_cons_zero, List.setIfInBounds_toArray, List.set_cons_zero, List.set_cons_succ]
    refine wpAnyH_done (by kernel_rfl) ?_ _
    clear hS HMK HR1 HR2 HCA HCB HSL
    by_cases hsum : bs.drop (m + 20) = sm
    · have hsum2 : bs.drop (bs.length - 4) = sum4 ((bs.drop (bs.length - 24)).take 20) := by rw [HE4.out, HE24.out, ← HSM.out]; exact hsum
      have HSUM := Lib.hid hsum2
      have d3 : decide (bs.drop (m + 20) = sm) = true := decide_eq_true hsum
      rw [d3]
      clear hsum hsum2 d3 HSE
      have hft : ∀ i, i ≤ 20 → ft bs i < 4294967296 := fun i hi => by
        unfold ft
        have h1 := num_lt ((bs.drop (bs.length - 24 + i)).take 4) fun x hx => H8.out x (List.mem_of_mem_drop (List.mem_of_mem_take hx))
        have h2 : ((bs.drop (bs.length - 24 + i)).take 4).length = 4 := by rw [List.length_take, List.length_drop]; have := HMM.out; omega
        rwa [h2] at h1
      have hgt : ∀ (i : Nat) (q : Int), i ≤ 20 → q = (m : Int) + (i : Int) → ∀ W : World, Below w.heap.size w W → Calls Tryz.prog 39 #[.slice A bs.length c, .int .i64 q, .int .i64 4] W fun e w' => e = .returned (.int .u64 (ft bs i : Nat)) ∧ W = w' := fun i q hi hq W hW => by
        have h := get_any A c w.heap.size (m + i) 4 bs W (HL.out.below hW) hc HM.out H8.out (by omega) (by have := HMM.out; omega)
        rw [show ((m + i : Nat) : Int) = q from by omega] at h
        unfold ft
        rw [HE24.out]
        exact h
      have HG0 := Lib.hid (hgt 0 (m : Int) (by omega) (by omega) W8 HB8.out)
      have HG4 := Lib.hid (hgt 4 ((m : Int) + 4) (by omega) (by omega) W8 HB8.out)
      have HG8 := Lib.hid (hgt 8 ((m : Int) + 8) (by omega) (by omega) W8 HB8.out)
      have HG12 := Lib.hid (hgt 12 ((m : Int) + 12) (by omega) (by omega) W8 HB8.out)
      have HG16 := Lib.hid (hgt 16 ((m : Int) + 16) (by omega) (by omega))
      have l0 := hft 0 (by omega)
      have l4 := hft 4 (by omega)
      have l8 := hft 8 (by omega)
      have l12 := hft 12 (by omega)
      have l16 := hft 16 (by omega)
      obtain ⟨f0, hf0⟩ : ∃ f0, f0 = ft bs 0 := ⟨_, rfl⟩
      obtain ⟨f4, hf4⟩ : ∃ f4, f4 = ft bs 4 := ⟨_, rfl⟩
      obtain ⟨f8, hf8⟩ : ∃ f8, f8 = ft bs 8 := ⟨_, rfl⟩
      obtain ⟨f12, hf12⟩ : ∃ f12, f12 = ft bs 12 := ⟨_, rfl⟩
      obtain ⟨f16, hf16⟩ : ∃ f16, f16 = ft bs 16 := ⟨_, rfl⟩
      rw [← hf0] at HG0 l0
      rw [← hf4] at HG4 l4
      rw [← hf8] at HG8 l8
      rw [← hf12] at HG12 l12
      rw [← hf16] at HG16 l16
      have HF0 := Lib.hid hf0
      have HF4 := Lib.hid hf4
      have HF8 := Lib.hid hf8
      have HF12 := Lib.hid hf12
      have HF16 := Lib.hid hf16
      clear hft hgt hf0 hf4 hf8 hf12 hf16
      go_wp2_with fail
      refine HG0.out.mono ?_
      rintro e w' ⟨rfl, rfl⟩
      clear HG0
      go_wp2_with fail
      refine HG4.out.mono ?_
      rintro e w' ⟨rfl, rfl⟩
      clear HG4
      go_wp2_with fail
      refine HG8.out.mono ?_
      rintro e w' ⟨rfl, rfl⟩
      clear HG8
      go_wp2_with fail
      refine HG12.out.mono ?_
      rintro e w' ⟨rfl, rfl⟩
      clear HG12
      have um : IntKind.u64.wrap (m : Int) = (m : Int) := IntWalk.u64_in _ (by omega)
      by_cases k1 : f0 + f4 = f8
      · by_cases k2 : f8 + f12 = m
        · have n1 : ((f0 : Int) + (f4 : Int) != (f8 : Int)) = false := by rw [bne_eq_false_iff_eq]; omega
          have n2 : ((f8 : Int) + (f12 : Int) != (m : Int)) = false := by rw [bne_eq_false_iff_eq]; omega
          have HK1 : Hid (ft bs 0 + ft bs 4 = ft bs 8) := Lib.hid (by rw [← HF0.out, ← HF4.out, ← HF8.out]; exact k1)
          have HK2 : Hid (ft bs 8 + ft bs 12 = bs.length - 24) := Lib.hid (by rw [← HF8.out, ← HF12.out, HE24.out]; exact k2)
          obtain ⟨A9, hA9, hcut9⟩ := cut_mid64 A bs.length c f8 f12 (by have := HMM.out; omega) hc HM.out
          have hcx := fun W => hcut9 W ((f8 : Int) + (f12 : Int)) rfl
          have hxl : (ixb bs).length = f12 := by unfold ixb; rw [← HF8.out, ← HF12.out, List.length_take, List.length_drop]; have := HMM.out; omega
          have HBX : Hid (Calls Tryz.prog 20 #[.slice A9 f12 (c - f8)] W8 (BallE W8 (ixb bs))) := Lib.hid (by
            have h := balle_any A9 (c - f8) (ixb bs) W8 ((Lies.cut (HL.out.below HB8.out) (ys := ixb bs) (p := f8) (fun h => hA9 (by rw [hxl] at h; exact h)) (by unfold ixb; rw [← HF8.out]; exact List.take_prefix _ _)).up HB8.out.size) (by rw [hxl]; have := HMM.out; omega) (Nat.le_trans (Nat.sub_le _ _) HM.out) (by rw [hxl]; omega) (fun x hx => H8.out x (by unfold ixb at hx; exact List.mem_of_mem_drop (List.mem_of_mem_take hx)))
            rwa [hxl] at h)
          have hale := allB_le (ixb bs)
          clear hcut9 hA9 hxl
          go_wp2_with fail
          refine HBX.out.mono ?_
          rintro e W9 ⟨hb9, Ax, cx, X, ev, rfl, hX, hXe, hev⟩
          have HB9 := Lib.hid (HB8.out.trans (hb9.mono HB8.out.size))
          have HXE : Hid (Ents W9 (fun k => w.heap.size ≤ k ∧ k < W9.heap.size) Ax cx X) := Lib.hid (hXe.mono fun k hk => ⟨Nat.le_trans HB8.out.size hk.1, hk.2⟩)
          have HX := Lib.hid hX
          have HEV := Lib.hid hev
          clear hb9 hXe hX hev HBX hcx
          by_cases hxe : (allB (ixb bs)).2 = 0
          · obtain ⟨mm, hmm2, hm1, hmb, hmin⟩ := HEV.out hxe
            subst hmm2
            rw [hxe]
            have HXE0 := Lib.hid hxe
            have HMB := Lib.hid hmb
            have HMIN := Lib.hid hmin
            clear hxe hmb hmin HEV hale
            by_cases hx0 : X.length = 0
            · have HE : Hid (tallB bs = ([], [], 2)) := Lib.hid (tallB_one H24.out HSUM.out HK1.out HK2.out HXE0.out (.inl (by rw [← HX.out, List.length_eq_zero_iff.1 hx0]; rfl)))
              have n4 : ((X.length : Int) == 0) = true := by rw [beq_iff_eq]; omega
              clear hx0
              go_wp2_with fail
              go_returns
              exact tall_bad HE.out HB9.out
            · have n4 : ((X.length : Int) == 0) = false := by rw [beq_eq_false_iff_ne]; omega
              have HX0 : Hid ((allB (ixb bs)).1 ≠ []) := Lib.hid (fun h => by rw [← HX.out] at h; have := congrArg List.length h; rw [List.length_map] at this; exact hx0 this)
              by_cases hbig : 1 < X.length ∧ mm ≠ 1
              · have n5 : decide ((1 : Int) < (X.length : Int)) = true := decide_eq_true (by omega)
                have n5' : decide (1 < X.length) = true := decide_eq_true hbig.1
                have n6 : ((mm : Int) != 1) = true := by rw [bne_iff_ne]; omega
                have HE : Hid (tallB bs = ([], [], 2)) := Lib.hid (tallB_one H24.out HSUM.out HK1.out HK2.out HXE0.out (.inr (HMIN.out 1 (Nat.le_refl _) (by omega))))
                clear hbig hx0
                go_wp2_with fail
                go_returns
                exact tall_bad HE.out HB9.out
              · have HONE : Hid (blk 1 (allB (ixb bs)).1 = ixb bs) := Lib.hid (by
                  by_cases h1 : mm = 1
                  · rw [← h1]; exact HMB.out
                  · rw [blk_few (b := mm) (by rw [← HX.out, List.length_map]; omega)]; exact HMB.out)
                have HXN := Lib.hid hx0
                obtain ⟨W0, hW0⟩ : ∃ W0, W0 = W9 := ⟨_, rfl⟩
                rw [← hW0] at HB9 HXE
                have hxlb : X.length ≤ 10000000 := by
                  have h2 := allB_len (ixb bs)
                  rw [← HX.out, List.length_map] at h2
                  unfold ixb at h2
                  rw [List.length_take, List.length_drop] at h2
                  omega
                have n6 : mm = 1 ∨ X.length = 1 := by omega
                have hcond : ∀ (K : Prop), (1 < X.length → mm = 1 → K) → (X.length = 1 → K) → K := fun K a b => by rcases n6 with h | h; exact (by by_cases h2 : X.length = 1; exact b h2; exact a (by omega) h); exact b h
                have hw9 : Hid (W9 = W0) := Lib.hid hW0.symm
                go_upto_region 15 with fail
                go_cut [101] (fun v wx => v = .bool false ∧ wx = W9)
                case first =>
                  by_cases h1 : mm = 1
                  · have n7 : ((mm : Int) != 1) = false := by rw [bne_eq_false_iff_eq]; omega
                    subst h1
                    by_cases h2 : 1 < X.length
                    · have n8 : decide ((1 : Int) < (X.length : Int)) = true := decide_eq_true (by omega)
                      have n9 : decide (1 < X.length) = true := decide_eq_true h2
                      clear hbig hx0 h2 n6 hcond
                      go_wp2_with fail
                      go_meet
                      exact ⟨rfl, rfl⟩
                    · have n8 : decide ((1 : Int) < (X.length : Int)) = false := decide_eq_false (by omega)
                      have n9 : decide (1 < X.length) = false := decide_eq_false h2
                      clear hbig hx0 h2 n6 hcond
                      go_wp2_with fail
                      go_meet
                      exact ⟨rfl, rfl⟩
                  · have n8 : decide ((1 : Int) < (X.length : Int)) = false := decide_eq_false (by omega)
                    have n9 : decide (1 < X.length) = false := decide_eq_false (by omega)
                    clear hbig hx0 n6 hcond
                    go_wp2_with fail
                    go_meet
                    exact ⟨rfl, rfl⟩
                case rest =>
                obtain ⟨rfl, hwc⟩ := hcut
                rw [hwc]
                clear hwc wc n6 hcond hbig hx0 hw9
                rw [hW0] at HB9 HXE
                clear hW0 W0
                have HV0 : Hid (Va w.heap.size W9 (.slice none 0 0) (.slice none 0 0) [] [] Ax cx X) := Lib.hid ⟨World.ownsRow_nil _ _ _ _, World.ownsRow_nil _ _ _ _, fun d hd => (by cases hd), fun p hp => (by cases hp), HXE.out.mono (fun k hk => ⟨hk.1, hk.2, by simp [Value.ownBlock], by simp [Value.ownBlock]⟩), HB9.out.size⟩
                have hf0m : f0 ≤ m := by omega
                go_wp2_with fail
                go_loopw [13, 14, 15, 16] (fun va vp a i wr => ∃ (j at' : Nat) (La : List D) (Ps : List P), j ≤ X.length ∧ i = .int .i64 (j : Int) ∧ a = .int .i64 (at' : Int) ∧ at' ≤ f0 ∧ La.length ≤ at' ∧ Ps.length ≤ j ∧ Hid (Va w.heap.size wr va vp La Ps Ax cx X) ∧ Hid (Below w.heap.size w wr) ∧
                  Hid (Left bs f0 (X.map D.t) at' ((X.map D.t).drop j) (Ps.map P.ts)) ∧ Hid (La.map D.t = (Ps.map P.ts).flatten) ∧ Hid (∀ p, p ∈ Ps → Fine p)) (fun _ _ _ i _ => X.length + 1 - (intOf i).toNat)
                case atStart => exact ⟨0, 0, [], [], Nat.zero_le _, rfl, rfl, Nat.zero_le _, Nat.le_refl _, Nat.le_refl _, HV0, HB9, Lib.hid (Left.start _ _ _), Lib.hid rfl, Lib.hid (fun p hp => by cases hp)⟩
                case round =>
                  obtain ⟨j, at', La, Ps, hj, rfl, rfl, hat, hla, hpl, hv, hb, hleft, hall, hfine⟩ := hrel
                  have HERR : Hid (∀ e, walk bs f0 at' ((X.map D.t).drop j) = .error e → tallB bs = ([], [], e)) := Lib.hid fun e he => tallB_walk H24.out HSUM.out HK1.out HK2.out HXE0.out HX0.out HONE.out (by rw [← HF0.out, ← HX.out]; exact hleft.out.err he)
                  by_cases hjx : j < X.length
                  · obtain ⟨dx, hdx⟩ : ∃ dx, X[j]? = some dx := ⟨_, List.getElem?_eq_getElem hjx⟩
                    have hok := hv.out.xok.ok dx (List.mem_of_getElem? hdx)
                    obtain ⟨ad, p, hA, hpb, hp, q0, q1, q2, q3⟩ := hv.out.xok.place hdx
                    have HDX := Lib.hid hdx
                    have HP := Lib.hid hp
                    have HPA := Lib.hid hA
                    subst hA
                    have hdr : (X.map D.t).drop j = dx.t :: (X.map D.t).drop (j + 1) := drop_at (by rw [List.getElem?_map, hdx]; rfl)
                    rw [hdr] at HERR hleft
                    have hvl := hok.vl.lies (B := wr.heap.size) (fun k hk => hk.2.1)
                    have hvm := hok.vm
                    have HG1 := Lib.hid (Vt.getv_calls dx.va dx.vc wr.heap.size dx.val 0 wr hvl hok.vc (Nat.le_trans hok.vc hok.vm) hok.v8)
                    have HG2 := Lib.hid (fun (a : Nat) => Vt.getv_calls dx.va dx.vc wr.heap.size dx.val (a : Int) wr hvl hok.vc (Nat.le_trans hok.vc hok.vm) hok.v8)
                    obtain ⟨r1, hr1⟩ : ∃ r1, r1 = res dx.val 0 := ⟨_, rfl⟩
                    obtain ⟨p1, t1, g1⟩ := r1
                    rw [← hr1] at HG1
                    obtain ⟨r2, hr2⟩ : ∃ r2, r2 = res dx.val (t1 : Int) := ⟨_, rfl⟩
                    obtain ⟨n2, e2, g2⟩ := r2
                    have hG2 := HG2.out t1
                    rw [← hr2] at hG2
                    have HG2 := Lib.hid hG2
                    have h11 : (res dx.t.val 0).2.2 = g1 := by show (res dx.val 0).2.2 = g1; rw [← hr1]
                    have h12 : (res dx.t.val 0).2.1 = t1 := by show (res dx.val 0).2.1 = t1; rw [← hr1]
                    have h13 : (res dx.t.val 0).1 = p1 := by show (res dx.val 0).1 = p1; rw [← hr1]
                    have h21 : (res dx.t.val ((res dx.t.val 0).2.1 : Nat)).2.2 = g2 := by rw [h12]; show (res dx.val (t1 : Int)).2.2 = g2; rw [← hr2]
                    have h22 : (res dx.t.val ((res dx.t.val 0).2.1 : Nat)).2.1 = e2 := by rw [h12]; show (res dx.val (t1 : Int)).2.1 = e2; rw [← hr2]
                    have h23 : nOf dx.t = n2 := by unfold nOf; rw [h12]; show (res dx.val (t1 : Int)).1 = n2; rw [← hr2]
                    have HE1 : Hid (g1 ≠ 0 → tallB bs = ([], [], 2)) := Lib.hid fun h => HERR.out _ (walk_e1 (by rw [h11]; exact h))
                    have HE2 : Hid (g1 = 0 → (g2 ≠ 0 ∨ e2 ≠ dx.val.length ∨ p1 ≠ at' ∨ f0 - at' < n2) → tallB bs = ([], [], 2)) := Lib.hid fun h h' => HERR.out _ (walk_e2 (by rw [h11]; exact h) (by rw [h21, h22, h13, h23]; exact h'))
                    have HW0 : Hid (g1 = 0 → (res dx.t.val 0).2.2 = 0) := Lib.hid fun h => by rw [h11]; exact h
                    have HW2 : Hid (¬ (g2 ≠ 0 ∨ e2 ≠ dx.val.length ∨ p1 ≠ at' ∨ f0 - at' < n2) → ¬ ((res dx.t.val ((res dx.t.val 0).2.1 : Nat)).2.2 ≠ 0 ∨ (res dx.t.val ((res dx.t.val 0).2.1 : Nat)).2.1 ≠ dx.t.val.length ∨ (res dx.t.val 0).1 ≠ at' ∨ f0 - at' < nOf dx.t)) := Lib.hid fun h => by rw [h21, h22, h13, h23]; exact h
                    have HN2 := Lib.hid h23
                    clear hr1 hr2 h11 h12 h13 h21 h22 h23 hG2 hok hdx hdr hvl
                    unfold Vt.told at HG1 HG2
                    go_wp2_with fail
                    refine HG1.out.mono ?_
                    rintro e w' ⟨rfl, rfl⟩
                    clear HG1
                    by_cases hg1 : g1 = 0
                    · have HG0' := Lib.hid hg1
                      have n0 : ((g1 : Int) != 0) = false := by rw [bne_eq_false_iff_eq]; omega
                      clear hg1
                      go_wp2_with fail
                      refine HG2.out.mono ?_
                      rintro e w' ⟨rfl, rfl⟩
                      clear HG2
                      have ua : IntKind.u64.wrap (at' : Int) = (at' : Int) := IntWalk.u64_in _ (by omega)
                      have us : IntKind.u64.wrap ((f0 : Int) - (at' : Int)) = (f0 : Int) - (at' : Int) := IntWalk.u64_in _ (by omega)
                      by_cases c1 : g2 = 0
                      · have b1 : ((g2 : Int) != 0) = false := by rw [bne_eq_false_iff_eq]; omega
                        by_cases c2 : e2 = dx.val.length
                        · have b2 : ((e2 : Int) != (dx.val.length : Int)) = false := by rw [bne_eq_false_iff_eq]; omega
                          by_cases c3 : p1 = at'
                          · have b3 : ((p1 : Int) != (at' : Int)) = false := by rw [bne_eq_false_iff_eq]; omega
                            by_cases c4 : f0 - at' < n2
                            · have b4 : decide ((f0 : Int) - (at' : Int) < (n2 : Int)) = true := decide_eq_true (by omega)
                              have HE := Lib.hid (HE2.out HG0'.out (.inr (.inr (.inr c4))))
                              clear c1 c2 c3 c4 HE1 HE2 HW0 HW2
                              go_wp2_with fail
                              go_returns
                              exact tall_bad HE.out hb.out
                            · have b4 : decide ((f0 : Int) - (at' : Int) < (n2 : Int)) = false := decide_eq_false (by omega)
                              have HNO := Lib.hid (HW2.out (by rintro (h | h | h | h); exact h c1; exact h c2; exact h c3; exact c4 h))
                              have HW := Lib.hid (HW0.out HG0'.out)
                              have hnb : at' + n2 ≤ f0 := by omega
                              have HP1 := Lib.hid c3
                              clear c1 c2 c3 c4 HE1 HE2 HW0 HW2
                              have hn2 : n2 ≤ 10000000 := by omega
                              obtain ⟨A7, hA7, -, hcut7⟩ := cut_mid A bs.length c at' n2 (by have := HMM.out; omega) hc HM.out
                              have hc7 := fun W => hcut7 W ((at' : Int) + (n2 : Int)) rfl
                              have hyl : ((bs.drop at').take n2).length = n2 := by rw [List.length_take, List.length_drop]; have := HMM.out; omega
                              have HBA : Hid (Calls Tryz.prog 20 #[.slice A7 n2 (c - at')] wr (Ball wr ((bs.drop at').take n2))) := Lib.hid (by
                                have h := ball_any A7 (c - at') ((bs.drop at').take n2) wr ((Lies.cut (HL.out.below hb.out) (fun h => hA7 (by rw [hyl] at h; exact h)) (List.take_prefix _ _)).up hb.out.size) (by rw [hyl]; have := HMM.out; omega) (Nat.le_trans (Nat.sub_le _ _) HM.out) (by rw [hyl]; omega) (fun x hx => H8.out x (List.mem_of_mem_drop (List.mem_of_mem_take hx)))
                                rwa [hyl] at h)
                              have HYL := Lib.hid hyl
                              obtain ⟨Y, hY⟩ : ∃ Y, Y = (bs.drop at').take n2 := ⟨_, rfl⟩
                              rw [← hY] at HBA HYL
                              have HY := Lib.hid hY
                              have hale := allB_le Y
                              have un : IntKind.i64.wrap (n2 : Int) = (n2 : Int) := IntWalk.i64_in _ (by omega)
                              clear hcut7 hA7 hyl hY
                              go_wp2_with fail
                              refine HBA.out.mono ?_
                              rintro e W2 ⟨hb2, A9, c9, L9, ev9, rfl, hL9, hE9⟩
                              have HV2 := Lib.hid (hv.out.below hb2)
                              have HEN9 : Hid (Ents W2 (Ra w.heap.size W2 u13 u14) A9 c9 L9) := Lib.hid (hE9.mono fun k hk => hv.out.apart hb2 hk)
                              have HB2 := Lib.hid (hb.out.trans (hb2.mono hb.out.size))
                              have HL9 := Lib.hid hL9
                              clear hb2 hE9 hL9 HBA hc7
                              by_cases hye : (allB Y).2 = 0
                              · rw [hye]
                                have HYE := Lib.hid hye
                                have hl9 : L9.length ≤ n2 := by
                                  have h := allB_len Y
                                  rw [← HL9.out, List.length_map, HYL.out] at h
                                  exact h
                                obtain ⟨vp', W3, hr3, hV3, hb3, hE3⟩ := HV2.out.part (p := ⟨A9, c9, L9⟩) HEN9.out (by omega)
                                have HR3 : Hid (Sem.run Tryz.prog (Builtin.append_ #[76, 76] 76 #[u14, .slice (some ⟨W2.heap.size, 0, none⟩) 1 1]) (W2.alloc (.cells #[.slice A9 L9.length c9] 22)) = .ok vp' W3) := Lib.hid hr3
                                have HV3 := Lib.hid hV3
                                have HE3 := Lib.hid hE3
                                have HB3 := Lib.hid (HB2.out.trans hb3)
                                have HX3 : Hid (Ents W3 (· < W3.heap.size) (some ad) cx X) := Lib.hid (hV3.xok.mono fun k hk => hk.2.1)
                                have HL3 : Hid (Ents W3 (· < W3.heap.size) A9 c9 L9) := Lib.hid (hE3.mono fun k hk => hk.2.1)
                                have hl9c := hE3.len
                                have hl9m := hE3.cap
                                have hFine : L9.length ≠ 0 → Fine ⟨A9, c9, L9⟩ := fun h => by
                                  obtain ⟨hm2, -⟩ := allB_is hye
                                  rw [← HL9.out] at hm2
                                  obtain ⟨o1, -, o2⟩ := may_zero hm2
                                  rw [List.length_map] at o2
                                  exact ⟨fun h2 => h (by show L9.length = 0; rw [show L9 = [] from h2]; rfl), o2, fun d hd => o1 _ (List.mem_map.2 ⟨d, hd, rfl⟩)⟩
                                have HFN := Lib.hid hFine
                                have H4 : Hid (((allB Y).1 = [] ∨ dx.t ≠ ptr (lastT (allB Y).1) at' n2) → tallB bs = ([], [], 2)) := Lib.hid fun h => HERR.out _ (walk_e4 HW.out HNO.out (by rw [HN2.out, ← HY.out]; exact hye) (by rw [HN2.out, ← HY.out]; exact h))
                                have HGO : Hid (¬ ((allB Y).1 = [] ∨ dx.t ≠ ptr (lastT (allB Y).1) at' n2) → Left bs f0 (X.map D.t) (at' + n2) ((X.map D.t).drop (j + 1)) (Ps.map P.ts ++ [L9.map D.t])) := Lib.hid fun h => by
                                  have h2 := hleft.out.next (walk_go HW.out HNO.out (by rw [HN2.out, ← HY.out]; exact hye) (by rw [HN2.out, ← HY.out]; exact h))
                                  rw [HN2.out, ← HY.out, ← HL9.out] at h2
                                  exact h2
                                have ua3 : IntKind.i64.wrap ((at' : Int) + (n2 : Int)) = (at' : Int) + (n2 : Int) := IntWalk.i64_in _ (by omega)
                                clear hye hr3 hV3 hb3 hE3 hFine hale
                                unfold maxLen at hl9m
                                go_upto_region 34 with (at_builtin; refine wpList_append_run rfl _ _ 76 rfl rfl rfl HR3.out ?_)
                                clear q0 q1 q2 q3 hp hpb
                                refine wp_region_held_drew (S := fun w' => Hid (Below W3.heap.size W3 w')) (by kernel_rfl) (Lib.hid (Below.refl _ _).drew) (fun hS => ?_)
                                by_cases hl0 : L9.length = 0
                                · have nl : ((L9.length : Int) == 0) = true := by rw [beq_iff_eq]; omega
                                  have HE := Lib.hid (H4.out (.inl (by rw [← HL9.out, List.length_eq_zero_iff.1 hl0]; rfl)))
                                  have HNL := Lib.hid nl
                                  clear hl0 nl
                                  refine wpAnyH_take (i := 0) (v := ?_) rfl (by kernel_rfl) (by kernel_rfl) (by kernel_rfl) (fun _ _ _ h => h) (Or.inl ⟨by rfl, ?_⟩) hS ?_
                                  rotate_left
                                  · intro wi hw
                                    go_simp
                                    try with_reducible rfl
                                  try simp only [Act.put, List.getElem_toArray, List.getElem_cons_succ, List.getElem_cons_zero, List.setIfInBounds_toArray, List.set_cons_zero, List.set_cons_succ]
                                  refine wpAnyH_take (i := 1) (v := ?_) rfl (by kernel_rfl) (by kernel_rfl) (by kernel_rfl) (fun _ _ _ h => h) (Or.inl ⟨by rfl, ?_⟩) hS ?_
                                  rotate_left
                                  · intro wi hw
                                    go_simp
                                    try with_reducible rfl
                                  try simp only [Act.put, List.getElem_toArray, List.getElem_cons_succ, List.getElem_cons_zero, List.setIfInBounds_toArray, List.set_cons_zero, List.set_cons_succ]
                                  refine wpAnyH_take (i := 2) (v := ?_) rfl (by kernel_rfl) (by kernel_rfl) (by kernel_rfl) (fun _ _ _ h => h) (Or.inl ⟨by rfl, ?_⟩) hS ?_
                                  rotate_left
                                  · intro wi hw
                                    have nl := HNL.out
                                    go_simp
                                    try with_reducible rfl
                                  try simp only [Act.put, List.getElem_toArray, List.getElem_cons_succ, List.getElem_cons_zero, List.setIfInBounds_toArray, List.set_cons_zero, List.set_cons_succ]
                                  refine wpAnyH_take (i := 3) (v := ?_) rfl (by kernel_rfl) (by kernel_rfl) (by kernel_rfl) (fun _ _ _ h => h) (Or.inl ⟨by rfl, ?_⟩) hS ?_
                                  rotate_left
                                  · intro wi hw
                                    go_simp
                                    try with_reducible rfl
                                  try simp only [Act.put, List.getElem_toArray, List.getElem_cons_succ, List.getElem_cons_zero, List.setIfInBounds_toArray, List.set_cons_zero, List.set_cons_succ]
                                  refine wpAnyH_take (i := 4) (v := undef) rfl (by kernel_rfl) (by kernel_rfl) (by kernel_rfl) (fun _ _ _ h => h) (Or.inr ⟨by rfl, rfl⟩) hS ?_
                                  try simp only [Act.put, List.getElem_toArray, List.getElem_cons_succ, List.getElem_cons_zero, List.setIfInBounds_toArray, List.set_cons_zero, List.set_cons_succ]
                                  refine wpAnyH_take (i := 5) (v := undef) rfl (by kernel_rfl) (by kernel_rfl) (by kernel_rfl) (fun _ _ _ h => h) (Or.inr ⟨by rfl, rfl⟩) hS ?_
                                  try simp only [Act.put, List.getElem_toArray, List.getElem_cons_succ, List.getElem_cons_zero, List.setIfInBounds_toArray, List.set_cons_zero, List.set_cons_succ]
                                  refine wpAnyH_take (i := 6) (v := undef) rfl (by kernel_rfl) (by kernel_rfl) (by kernel_rfl) (fun _ _ _ h => h) (Or.inr ⟨by rfl, rfl⟩) hS ?_
                                  try simp only [Act.put, List.getElem_toArray, List.getElem_cons_succ, List.getElem_cons_zero, List.setIfInBounds_toArray, List.set_cons_zero, List.set_cons_succ]
                                  refine wpAnyH_take (i := 7) (v := undef) rfl (by kernel_rfl) (by kernel_rfl) (by kernel_rfl) (fun _ _ _ h => h) (Or.inr ⟨by rfl, rfl⟩) hS ?_
                                  try simp only [Act.put, List.getElem_toArray, List.getElem_cons_succ, List.getElem_cons_zero, List.setIfInBounds_toArray, List.set_cons_zero, List.set_cons_succ]
                                  refine wpAnyH_take (i := 8) (v := undef) rfl (by kernel_rfl) (by kernel_rfl) (by kernel_rfl) (fun _ _ _ h => h) (Or.inr ⟨by rfl, rfl⟩) hS ?_
                                  try simp only [Act.put, List.getElem_toArray, List.getElem_cons_succ, List.getElem_cons_zero, List.setIfInBounds_toArray, List.set_cons_zero, List.set_cons_succ]
                                  refine wpAnyH_take (i := 9) (v := undef) rfl (by kernel_rfl) (by kernel_rfl) (by kernel_rfl) (fun _ _ _ h => h) (Or.inr ⟨by rfl, rfl⟩) hS ?_
                                  try simp only [Act.put, List.getElem_toArray, List.getElem_cons_succ, List.getElem_cons_zero, List.setIfInBounds_toArray, List.set_cons_zero, List.set_cons_succ]
                                  refine wpAnyH_take (i := 10) (v := undef) rfl (by kernel_rfl) (by kernel_rfl) (by kernel_rfl) (fun _ _ _ h => h) (Or.inr ⟨by rfl, rfl⟩) hS ?_
                                  try simp only [Act.put, List.getElem_toArray, List.getElem_cons_succ, List.getElem_cons_zero, List.setIfInBounds_toArray, List.set_cons_zero, List.set_cons_succ]
                                  refine wpAnyH_take (i := 11) (v := undef) rfl (by kernel_rfl) (by kernel_rfl) (by kernel_rfl) (fun _ _ _ h => h) (Or.inr ⟨by rfl, rfl⟩) hS ?_
                                  try simp only [Act.put, List.getElem_toArray, List.getElem_cons_succ, List.getElem_cons_zero, List.setIfInBounds_toArray, List.set_cons_zero, List.set_cons_succ]
                                  refine wpAnyH_take (i := 12) (v := undef) rfl (by kernel_rfl) (by kernel_rfl) (by kernel_rfl) (fun _ _ _ h => h) (Or.inr ⟨by rfl, rfl⟩) hS ?_
                                  try simp only [Act.put, List.getElem_toArray, List.getElem_cons_succ, List.getElem_cons_zero, List.setIfInBounds_toArray, List.set_cons_zero, List.set_cons_succ]
                                  refine wpAnyH_take (i := 13) (v := undef) rfl (by kernel_rfl) (by kernel_rfl) (by kernel_rfl) (fun _ _ _ h => h) (Or.inr ⟨by rfl, rfl⟩) hS ?_
                                  try simp only [Act.put, List.getElem_toArray, List.getElem_cons_succ, List.getElem_cons_zero, List.setIfInBounds_toArray, List.set_cons_zero, List.set_cons_succ]
                                  refine wpAnyH_take (i := 14) (v := undef) rfl (by kernel_rfl) (by kernel_rfl) (by kernel_rfl) (fun _ _ _ h => h) (Or.inr ⟨by rfl, rfl⟩) hS ?_
                                  try simp only [Act.put, List.getElem_toArray, List.getElem_cons_succ, List.getElem_cons_zero, List.setIfInBounds_toArray, List.set_cons_zero, List.set_cons_succ]
                                  refine wpAnyH_take (i := 15) (v := undef) rfl (by kernel_rfl) (by kernel_rfl) (by kernel_rfl) (fun _ _ _ h => h) (Or.inr ⟨by rfl, rfl⟩) hS ?_
                                  try simp only [Act.put, List.getElem_toArray, List.getElem_cons_succ, List.getElem_cons_zero, List.setIfInBounds_toArray, List.set_cons_zero, List.set_cons_succ]
                                  refine wpAnyH_take (i := 16) (v := undef) rfl (by kernel_rfl) (by kernel_rfl) (by kernel_rfl) (fun _ _ _ h => h) (Or.inr ⟨by rfl, rfl⟩) hS ?_
                                  try simp only [Act.put, List.getElem_toArray, List.getElem_cons_succ, List.getElem_cons_zero, List.setIfInBounds_toArray, List.set_cons_zero, List.set_cons_succ]
                                  refine wpAnyH_take (i := 17) (v := undef) rfl (by kernel_rfl) (by kernel_rfl) (by kernel_rfl) (fun _ _ _ h => h) (Or.inr ⟨by rfl, rfl⟩) hS ?_
                                  try simp only [Act.put, List.getElem_toArray, List.getElem_cons_succ, List.getElem_cons_zero, List.setIfInBounds_toArray, List.set_cons_zero, List.set_cons_succ]
                                  refine wpAnyH_take (i := 18) (v := undef) rfl (by kernel_rfl) (by kernel_rfl) (by kernel_rfl) (fun _ _ _ h => h) (Or.inr ⟨by rfl, rfl⟩) hS ?_
                                  try simp only [Act.put, List.getElem_toArray, List.getElem_cons_succ, List.getElem_cons_zero, List.setIfInBounds_toArray, List.set_cons_zero, List.set_cons_succ]
                                  refine wpAnyH_take (i := 19) (v := undef) rfl (by kernel_rfl) (by kernel_rfl) (by kernel_rfl) (fun _ _ _ h => h) (Or.inr ⟨by rfl, rfl⟩) hS ?_
                                  try simp only [Act.put, List.getElem_toArray, List.getElem_cons_succ, List.getElem_cons_zero, List.setIfInBounds_toArray, List.set_cons_zero, List.set_cons_succ]
                                  refine wpAnyH_take (i := 20) (v := undef) rfl (by kernel_rfl) (by kernel_rfl) (by kernel_rfl) (fun _ _ _ h => h) (Or.inr ⟨by rfl, rfl⟩) hS ?_
                                  try simp only [Act.put, List.getElem_toArray, List.getElem_cons_succ, List.getElem_cons_zero, List.setIfInBounds_toArray, List.set_cons_zero, List.set_cons_succ]
                                  refine wpAnyH_take (i := 21) (v := undef) rfl (by kernel_rfl) (by kernel_rfl) (by kernel_rfl) (fun _ _ _ h => h) (Or.inr ⟨by rfl, rfl⟩) hS ?_
                                  try simp only [Act.put, List.getElem_toArray, List.getElem_cons_succ, List.getElem_cons_zero, List.setIfInBounds_toArray, List.set_cons_zero, List.set_cons_succ]
                                  refine wpAnyH_take (i := 22) (v := ?_) rfl (by kernel_rfl) (by kernel_rfl) (by kernel_rfl) (fun _ _ _ h => h) (Or.inl ⟨by rfl, ?_⟩) hS ?_
                                  rotate_left
                                  · intro wi hw
                                    go_simp
                                    try with_reducible rfl
                                  try simp only [Act.put, List.getElem_toArray, List.getElem_cons_succ, List.getElem_cons_zero, List.setIfInBounds_toArray, List.set_cons_zero, List.set_cons_succ]
                                  refine wpAnyH_done (by kernel_rfl) ?_ _
                                  have hbd := HB3.out.trans (hS.out.mono HB3.out.size)
                                  clear hS
                                  go_wp2_with fail
                                  go_returns
                                  exact tall_bad HE.out HB3.out.drew
                                · have nl : ((L9.length : Int) == 0) = false := by rw [beq_eq_false_iff_ne]; omega
                                  obtain ⟨q, hq⟩ : ∃ q, L9.length = q + 1 := ⟨L9.length - 1, by omega⟩
                                  obtain ⟨dl, hdl⟩ : ∃ dl, L9[q]? = some dl := ⟨_, List.getElem?_eq_getElem (by omega)⟩
                                  obtain ⟨ad2, p2, hA2, -, hp2, -, -, -, -⟩ := HL3.out.place hdl
                                  have HPA2 := Lib.hid hA2
                                  subst hA2
                                  have HP2 := Lib.hid hp2
                                  have HDL := Lib.hid hdl
                                  have hlt : lastT (allB Y).1 = dl.t := by
                                    rw [← HL9.out]
                                    have e : L9 = L9.take q ++ [dl] := by rw [← take_next hdl, ← hq, List.take_length]
                                    rw [e, List.map_append]
                                    exact lastT_snoc _ _
                                  have HLT := Lib.hid hlt
                                  have HNE : Hid ((allB Y).1 ≠ []) := Lib.hid (fun h => by rw [← HL9.out] at h; have := congrArg List.length h; rw [List.length_map] at this; exact hl0 this)
                                  have HFI := Lib.hid (HFN.out hl0)
                                  have HNL := Lib.hid nl
                                  have HQ := Lib.hid hq
                                  have hq1 : q ≤ 10000000 := by omega
                                  have HP1' := HP1.out
                                  subst HP1'
                                  clear hl0 nl hp2 hdl hlt hq
                                  refine wpAnyH_take (i := 0) (v := ?_) rfl (by kernel_rfl) (by kernel_rfl) (by kernel_rfl) (fun _ _ _ h => h) (Or.inl ⟨by rfl, ?_⟩) hS ?_
                                  rotate_left
                                  · intro wi hw
                                    go_simp
                                    try with_reducible rfl
                                  try simp only [Act.put, List.getElem_toArray, List.getElem_cons_succ, List.getElem_cons_zero, List.setIfInBounds_toArray, List.set_cons_zero, List.set_cons_succ]
                                  refine wpAnyH_take (i := 1) (v := ?_) rfl (by kernel_rfl) (by kernel_rfl) (by kernel_rfl) (fun _ _ _ h => h) (Or.inl ⟨by rfl, ?_⟩) hS ?_
                                  rotate_left
                                  · intro wi hw
                                    go_simp
                                    try with_reducible rfl
                                  try simp only [Act.put, List.getElem_toArray, List.getElem_cons_succ, List.getElem_cons_zero, List.setIfInBounds_toArray, List.set_cons_zero, List.set_cons_succ]
                                  refine wpAnyH_take (i := 2) (v := ?_) rfl (by kernel_rfl) (by kernel_rfl) (by kernel_rfl) (fun _ _ _ h => h) (Or.inl ⟨by rfl, ?_⟩) hS ?_
                                  rotate_left
                                  · intro wi hw
                                    have nl := HNL.out
                                    go_simp
                                    try with_reducible rfl
                                  try simp only [Act.put, List.getElem_toArray, List.getElem_cons_succ, List.getElem_cons_zero, List.setIfInBounds_toArray, List.set_cons_zero, List.set_cons_succ]
                                  refine wpAnyH_take (i := 3) (v := ?_) rfl (by kernel_rfl) (by kernel_rfl) (by kernel_rfl) (fun _ _ _ h => h) (Or.inl ⟨by rfl, ?_⟩) hS ?_
                                  rotate_left
                                  · intro wi hw
                                    go_simp
                                    try with_reducible rfl
                                  try simp only [Act.put, List.getElem_toArray, List.getElem_cons_succ, List.getElem_cons_zero, List.setIfInBounds_toArray, List.set_cons_zero, List.set_cons_succ]
                                  refine wpAnyH_take (i := 4) (v := ?_) rfl (by kernel_rfl) (by kernel_rfl) (by kernel_rfl) (fun _ _ _ h => h) (Or.inl ⟨by rfl, ?_⟩) hS ?_
                                  rotate_left
                                  · intro wi hw
                                    go_simp
                                    try with_reducible rfl
                                  try simp only [Act.put, List.getElem_toArray, List.getElem_cons_succ, List.getElem_cons_zero, List.setIfInBounds_toArray, List.set_cons_zero, List.set_cons_succ]
                                  refine wpAnyH_take (i := 5) (v := ?_) rfl (by kernel_rfl) (by kernel_rfl) (by kernel_rfl) (fun _ _ _ h => h) (Or.inl ⟨by rfl, ?_⟩) hS ?_
                                  rotate_left
                                  · intro wi hw
                                    go_simp
                                    try with_reducible rfl
                                  try simp only [Act.put, List.getElem_toArray, List.getElem_cons_succ, List.getElem_cons_zero, List.setIfInBounds_toArray, List.set_cons_zero, List.set_cons_succ]
                                  refine wpAnyH_take (i := 6) (v := ?_) rfl (by kernel_rfl) (by kernel_rfl) (by kernel_rfl) (fun _ _ _ h => h) (Or.inl ⟨by rfl, ?_⟩) hS ?_
                                  rotate_left
                                  · intro wi hw
                                    have hpd := HP.out
                                    go_simp
                                    try with_reducible rfl
                                  try simp only [Act.put, List.getElem_toArray, List.getElem_cons_succ, List.getElem_cons_zero, List.setIfInBounds_toArray, List.set_cons_zero, List.set_cons_succ]
                                  refine wpAnyH_take (i := 7) (v := ?_) rfl (by kernel_rfl) (by kernel_rfl) (by kernel_rfl) (fun _ _ _ h => h) (Or.inl ⟨by rfl, ?_⟩) hS ?_
                                  rotate_left
                                  · intro wi hw
                                    obtain ⟨ad', pi, hA', -, hpi, q0, q1, q2, q3⟩ := (HX3.out.below hw.out).place HDX.out
                                    injection hA' with hAA
                                    subst hAA
                                    obtain rfl : pi = p := hpi.symm.trans HP.out
                                    have hld := D.load q0 q1 q2 q3
                                    go_simp
                                    try with_reducible rfl
                                  try simp only [Act.put, List.getElem_toArray, List.getElem_cons_succ, List.getElem_cons_zero, List.setIfInBounds_toArray, List.set_cons_zero, List.set_cons_succ]
                                  refine wpAnyH_take (i := 8) (v := ?_) rfl (by kernel_rfl) (by kernel_rfl) (by kernel_rfl) (fun _ _ _ h => h) (Or.inl ⟨by rfl, ?_⟩) hS ?_
                                  rotate_left
                                  · intro wi hw
                                    go_simp
                                    try with_reducible rfl
                                  try simp only [Act.put, List.getElem_toArray, List.getElem_cons_succ, List.getElem_cons_zero, List.setIfInBounds_toArray, List.set_cons_zero, List.set_cons_succ]
                                  refine wpAnyH_take (i := 9) (v := ?_) rfl (by kernel_rfl) (by kernel_rfl) (by kernel_rfl) (fun _ _ _ h => h) (Or.inl ⟨by rfl, ?_⟩) hS ?_
                                  rotate_left
                                  · intro wi hw
                                    go_simp
                                    try with_reducible rfl
                                  try simp only [Act.put, List.getElem_toArray, List.getElem_cons_succ, List.getElem_cons_zero, List.setIfInBounds_toArray, List.set_cons_zero, List.set_cons_succ]
                                  refine wpAnyH_take (i := 10) (v := ?_) rfl (by kernel_rfl) (by kernel_rfl) (by kernel_rfl) (fun _ _ _ h => h) (Or.inl ⟨by rfl, ?_⟩) hS ?_
                                  rotate_left
                                  · intro wi hw
                                    go_simp
                                    try with_reducible rfl
                                  try simp only [Act.put, List.getElem_toArray, List.getElem_cons_succ, List.getElem_cons_zero, List.setIfInBounds_toArray, List.set_cons_zero, List.set_cons_succ]
                                  refine wpAnyH_take (i := 11) (v := ?_) rfl (by kernel_rfl) (by kernel_rfl) (by kernel_rfl) (fun _ _ _ h => h) (Or.inl ⟨by rfl, ?_⟩) hS ?_
                                  rotate_left
                                  · intro wi hw
                                    have em : (L9.length : Int) - 1 = (q : Int) := by have := HQ.out; omega
                                    have ew : IntKind.i64.wrap (q : Int) = (q : Int) := IntWalk.i64_in _ (by omega)
                                    go_simp
                                    try with_reducible rfl
                                  try simp only [Act.put, List.getElem_toArray, List.getElem_cons_succ, List.getElem_cons_zero, List.setIfInBounds_toArray, List.set_cons_zero, List.set_cons_succ]
                                  refine wpAnyH_take (i := 12) (v := ?_) rfl (by kernel_rfl) (by kernel_rfl) (by kernel_rfl) (fun _ _ _ h => h) (Or.inl ⟨by rfl, ?_⟩) hS ?_
                                  rotate_left
                                  · intro wi hw
                                    have hpd := HP2.out
                                    have hlq : q < L9.length := by have := HQ.out; omega
                                    go_simp
                                    try with_reducible rfl
                                  try simp only [Act.put, List.getElem_toArray, List.getElem_cons_succ, List.getElem_cons_zero, List.setIfInBounds_toArray, List.set_cons_zero, List.set_cons_succ]
                                  refine wpAnyH_take (i := 13) (v := ?_) rfl (by kernel_rfl) (by kernel_rfl) (by kernel_rfl) (fun _ _ _ h => h) (Or.inl ⟨by rfl, ?_⟩) hS ?_
                                  rotate_left
                                  · intro wi hw
                                    go_simp
                                    try with_reducible rfl
                                  try simp only [Act.put, List.getElem_toArray, List.getElem_cons_succ, List.getElem_cons_zero, List.setIfInBounds_toArray, List.set_cons_zero, List.set_cons_succ]
                                  refine wpAnyH_take (i := 14) (v := ?_) rfl (by kernel_rfl) (by kernel_rfl) (by kernel_rfl) (fun _ _ _ h => h) (Or.inl ⟨by rfl, ?_⟩) hS ?_
                                  rotate_left
                                  · intro wi hw
                                    obtain ⟨ad', pi, hA', -, hpi, q0, q1, q2, q3⟩ := (HL3.out.below hw.out).place HDL.out
                                    injection hA' with hAA
                                    subst hAA
                                    obtain rfl : pi = p2 := hpi.symm.trans HP2.out
                                    have hld := key_load q0 q1 q2
                                    go_simp
                                    try with_reducible rfl
                                  try simp only [Act.put, List.getElem_toArray, List.getElem_cons_succ, List.getElem_cons_zero, List.setIfInBounds_toArray, List.set_cons_zero, List.set_cons_succ]
                                  refine wpAnyH_take (i := 15) (v := ?_) rfl (by kernel_rfl) (by kernel_rfl) (by kernel_rfl) (fun _ _ _ h => h) (Or.inl ⟨by rfl, ?_⟩) hS ?_
                                  rotate_left
                                  · intro wi hw
                                    go_simp
                                    try with_reducible rfl
                                  try simp only [Act.put, List.getElem_toArray, List.getElem_cons_succ, List.getElem_cons_zero, List.setIfInBounds_toArray, List.set_cons_zero, List.set_cons_succ]
                                  refine wpAnyH_take (i := 16) (v := ?_) rfl (by kernel_rfl) (by kernel_rfl) (by kernel_rfl) (fun _ _ _ h => h) (Or.inl ⟨by rfl, ?_⟩) hS ?_
                                  rotate_left
                                  · intro wi hw
                                    have ew : IntKind.i64.wrap (p1 : Int) = (p1 : Int) := IntWalk.i64_in _ (by omega)
                                    go_simp
                                    try with_reducible rfl
                                  try simp only [Act.put, List.getElem_toArray, List.getElem_cons_succ, List.getElem_cons_zero, List.setIfInBounds_toArray, List.set_cons_zero, List.set_cons_succ]
                                  refine wpAnyH_take (i := 17) (v := ?_) rfl (by kernel_rfl) (by kernel_rfl) (by kernel_rfl) (fun _ _ _ h => h) (Or.inl ⟨by rfl, ?_⟩) hS ?_
                                  rotate_left
                                  · intro wi hw
                                    go_simp
                                    try with_reducible rfl
                                  try simp only [Act.put, List.getElem_toArray, List.getElem_cons_succ, List.getElem_cons_zero, List.setIfInBounds_toArray, List.set_cons_zero, List.set_cons_succ]
                                  refine wpAnyH_take (i := 18) (v := ?_) rfl (by kernel_rfl) (by kernel_rfl) (by kernel_rfl) (fun _ _ _ h => h) (Or.inl ⟨by rfl, ?_⟩) hS ?_
                                  rotate_left
                                  · intro wi hw
                                    have ew : IntKind.i64.wrap (n2 : Int) = (n2 : Int) := IntWalk.i64_in _ (by omega)
                                    go_simp
                                    try with_reducible rfl
                                  try simp only [Act.put, List.getElem_toArray, List.getElem_cons_succ, List.getElem_cons_zero, List.setIfInBounds_toArray, List.set_cons_zero, List.set_cons_succ]
                                  refine wpAnyH_ready (rs := [19]) (by kernel_rfl) (by simp) ?_
                                  refine AllReadyH.cons rfl (fun K hK => ?_) AllReadyH.nil
                                  go_simp
                                  have hb7 := hS.out
                                  refine (pointer_any dl p1 n2 W3.heap.size _ ((HL3.out.ok dl (List.mem_of_getElem? HDL.out)).below hb7) hb7.size (by omega) (by omega)).mono ?_
                                  rintro e W4 ⟨d', rfl, hdt, hdok, hb4⟩
                                  have HB4 := Lib.hid (hb7.trans (hb4.mono hb7.size))
                                  have HDO : Hid (d'.Ok W4 (· < W4.heap.size)) := Lib.hid (hdok.mono (fun k hk => by
                                    rcases hk with h | h
                                    · exact Nat.lt_of_lt_of_le h HB4.out.size
                                    · exact h.2.1))
                                  have HDT := Lib.hid hdt
                                  clear hdt hdok hb4 hb7
                                  go_wp2_with fail
                                  refine hK.out _ _ HB4 (fun _ => ?_)
                                  clear hK K hS
                                  refine wpAnyH_other (S' := fun w' => Hid (Below W4.heap.size W4 w')) (fun w hw => Lib.hid (HB4.out.trans (hw.out.mono HB4.out.size))) _ _ _ _ ?_
                                  have hS : Hid (Below W4.heap.size W4 W4) := Lib.hid (Below.refl _ _)
                                  try simp only [Act.put, List.getElem_toArray, List.getElem_cons_succ, List.getElem_cons_zero, List.setIfInBounds_toArray, List.set_cons_zero, List.set_cons_succ]
                                  refine wpAnyH_ready (rs := [20]) (by kernel_rfl) (by simp) ?_
                                  refine AllReadyH.cons rfl (fun K hK => ?_) AllReadyH.nil
                                  go_simp
                                  have hb7 := hS.out
                                  refine (same_entry dx d' _ ((HX3.out.ok dx (List.mem_of_getElem? HDX.out)).next (HB4.out.trans (hb7.mono HB4.out.size))) (HDO.out.next hb7)).mono ?_
                                  rintro e W5 ⟨rfl, hb5⟩
                                  have HB5 := Lib.hid (hb7.trans (hb5.mono hb7.size))
                                  have HB35 := Lib.hid (HB4.out.trans (HB5.out.mono HB4.out.size))
                                  clear hb5 hb7
                                  go_wp2_with fail
                                  refine hK.out _ _ HB5 (fun _ => ?_)
                                  clear hK K hS
                                  refine wpAnyH_other (S' := fun w' => Hid (Below W5.heap.size W5 w')) (fun w hw => Lib.hid (HB5.out.trans (hw.out.mono HB5.out.size))) _ _ _ _ ?_
                                  have hS : Hid (Below W5.heap.size W5 W5) := Lib.hid (Below.refl _ _)
                                  try simp only [Act.put, List.getElem_toArray, List.getElem_cons_succ, List.getElem_cons_zero, List.setIfInBounds_toArray, List.set_cons_zero, List.set_cons_succ]
                                  refine wpAnyH_take (i := 21) (v := ?_) rfl (by kernel_rfl) (by kernel_rfl) (by kernel_rfl) (fun _ _ _ h => h) (Or.inl ⟨by rfl, ?_⟩) hS ?_
                                  rotate_left
                                  · intro wi hw
                                    go_simp
                                    try with_reducible rfl
                                  try simp only [Act.put, List.getElem_toArray, List.getElem_cons_succ, List.getElem_cons_zero, List.setIfInBounds_toArray, List.set_cons_zero, List.set_cons_succ]
                                  refine wpAnyH_take (i := 22) (v := ?_) rfl (by kernel_rfl) (by kernel_rfl) (by kernel_rfl) (fun _ _ _ h => h) (Or.inl ⟨by rfl, ?_⟩) hS ?_
                                  rotate_left
                                  · intro wi hw
                                    go_simp
                                    try with_reducible rfl
                                  try simp only [Act.put, List.getElem_toArray, List.getElem_cons_succ, List.getElem_cons_zero, List.setIfInBounds_toArray, List.set_cons_zero, List.set_cons_succ]
                                  refine wpAnyH_done (by kernel_rfl) ?_ _
                                  have HSD : Hid (sameD dx d' = true ↔ dx.t = ptr dl.t p1 n2) := Lib.hid (by rw [sameD_iff, HDT.out])
                                  have HBW := Lib.hid (HB3.out.trans (HB35.out.mono HB3.out.size))
                                  clear hS
                                  cases hsd : sameD dx d' with
                                  | false =>
                                    have HE := Lib.hid (H4.out (.inr (fun h => by
                                      rw [HLT.out] at h
                                      have := HSD.out.2 h
                                      rw [hsd] at this
                                      cases this)))
                                    go_wp2_with fail
                                    go_returns
                                    exact tall_bad HE.out HBW.out
                                  | true =>
                                    have HLF := Lib.hid (HGO.out (by
                                      rintro (h | h)
                                      · exact HNE.out h
                                      · refine h ?_
                                        rw [HLT.out]
                                        exact HSD.out.1 hsd))
                                    obtain ⟨va', W6, hr6, hV6, hb6⟩ := (HV3.out.below HB35.out).more (A := some ad2) (c := c9) (L := L9) (HE3.out.later (fun k hk => HB35.out.block k hk.2.1) (Ra.below HB35.out)) (by omega)
                                    have HR6 := Lib.hid hr6
                                    have HV6 := Lib.hid hV6
                                    have HB6 := Lib.hid (HBW.out.trans hb6)
                                    have HALL : Hid ((La ++ L9).map D.t = ((Ps ++ [(⟨some ad2, c9, L9⟩ : P)]).map P.ts).flatten) := Lib.hid (by rw [List.map_append, hall.out, List.map_append, List.flatten_append]; simp)
                                    have HFA : Hid (∀ p, p ∈ Ps ++ [(⟨some ad2, c9, L9⟩ : P)] → Fine p) := Lib.hid fun p hp => by
                                      rcases List.mem_append.1 hp with h | h
                                      · exact hfine.out p h
                                      · simp at h
                                        subst h
                                        exact HFI.out
                                    have HLG : Hid (Left bs f0 (X.map D.t) (p1 + n2) ((X.map D.t).drop (j + 1)) ((Ps ++ [(⟨some ad2, c9, L9⟩ : P)]).map P.ts)) := Lib.hid (by rw [List.map_append]; exact HLF.out)
                                    have hlen1 : (La ++ L9).length ≤ p1 + n2 := by rw [List.length_append]; omega
                                    have hlen2 : (Ps ++ [(⟨some ad2, c9, L9⟩ : P)]).length ≤ j + 1 := by rw [List.length_append, List.length_singleton]; omega
                                    clear hr6 hV6 hb6
                                    go_wp2_with (at_builtin; refine wpList_append_run rfl _ _ 22 rfl rfl rfl HR6.out ?_)
                                    go_roundw
                                    case rel => exact ⟨j + 1, p1 + n2, La ++ L9, Ps ++ [(⟨some ad2, c9, L9⟩ : P)], by omega, by go_num, by go_num, by omega, hlen1, hlen2, HV6, HB6, HLG, HALL, HFA⟩
                                    case measure => simp [intOf]; omega
                              · have HE : Hid (tallB bs = ([], [], inner (allB Y).2)) := Lib.hid (HERR.out _ (by
                                  have h := walk_e3 HW.out HNO.out (X := (X.map D.t).drop (j + 1)) (by rw [HN2.out, ← HY.out]; exact hye)
                                  rw [HN2.out, ← HY.out] at h
                                  exact h))
                                have n3 : (((allB Y).2 : Int) != 0) = true := by rw [bne_iff_ne]; omega
                                have HIN := Lib.hid (inner_any (allB Y).2 W2)
                                clear hye
                                generalize (allB Y).2 = qq at *
                                go_wp2_with fail
                                refine HIN.out.mono ?_
                                rintro e w' ⟨rfl, rfl⟩
                                go_wp2_with fail
                                go_returns
                                exact tall_bad HE.out HB2.out
                          · have b3 : ((p1 : Int) != (at' : Int)) = true := by rw [bne_iff_ne]; omega
                            have HE := Lib.hid (HE2.out HG0'.out (.inr (.inr (.inl c3))))
                            clear c1 c2 c3 HE1 HE2 HW0 HW2
                            go_wp2_with fail
                            go_returns
                            exact tall_bad HE.out hb.out
                        · have b2 : ((e2 : Int) != (dx.val.length : Int)) = true := by rw [bne_iff_ne]; omega
                          have HE := Lib.hid (HE2.out HG0'.out (.inr (.inl c2)))
                          clear c1 c2 HE1 HE2 HW0 HW2
                          go_wp2_with fail
                          go_returns
                          exact tall_bad HE.out hb.out
                      · have b1 : ((g2 : Int) != 0) = true := by rw [bne_iff_ne]; omega
                        have HE := Lib.hid (HE2.out HG0'.out (.inl c1))
                        clear c1 HE1 HE2 HW0 HW2
                        go_wp2_with fail
                        go_returns
                        exact tall_bad HE.out hb.out
                    · have n3 : ((g1 : Int) != 0) = true := by rw [bne_iff_ne]; omega
                      have HE := Lib.hid (HE1.out hg1)
                      clear hg1 HE1 HE2 HW0 HG2
                      go_wp2_with fail
                      go_returns
                      exact tall_bad HE.out hb.out
                  · skip
                    obtain rfl : j = X.length := by omega
                    have hdrop : (X.map D.t).drop X.length = [] := List.drop_eq_nil_of_le (by rw [List.length_map]; exact Nat.le_refl _)
                    rw [hdrop] at hleft
                    obtain ⟨hwk, hfn⟩ := hleft.out.done
                    have HC : Hid (Ctx bs (X.map D.t) (Ps.map P.ts)) := Lib.hid ⟨H24.out, HSUM.out, HK1.out, HK2.out, Prod.ext HX.out.symm HXE0.out, by rw [HX.out]; exact HX0.out, by rw [HX.out]; exact HONE.out, by rw [← HF0.out]; exact hwk⟩
                    have HBAD : Hid (¬ Rest bs (X.map D.t) (Ps.map P.ts) → tallB bs = ([], [], 2)) := Lib.hid fun h => tallB_rest HC.out (fun h2 => h ((rest_iff H8.out HC.out).2 h2))
                    have HGOOD : Hid (Rest bs (X.map D.t) (Ps.map P.ts) → tallB bs = ((Ps.map P.ts).flatten, X.map D.t, 0)) := Lib.hid fun h => tallB_ctx HC.out ((rest_iff H8.out HC.out).1 h)
                    have HFN := Lib.hid hfn
                    have HV := hv
                    obtain ⟨A13, c13, hv13, a1, a2, -⟩ := own_parts hv.out.aown
                    subst hv13
                    obtain ⟨A14, c14, hv14, pp1, pp2, pp3⟩ := own_parts hv.out.pown
                    subst hv14
                    have hEA : Ents wr (· < wr.heap.size) A13 c13 La := ⟨(LiesP.of_own hv.out.aown).later (fun _ _ => rfl) (fun k hk => hk.2.1), a1, a2, fun d hd => (hv.out.aok d hd).mono fun k hk => hk.2.1⟩
                    have hPT : Pts wr A14 c14 Ps := ⟨pp3, pp1, pp2, fun p hp => (hv.out.pok p hp).mono fun k hk => hk.2.1⟩
                    have hEB : Ents wr (fun k => w.heap.size ≤ k ∧ k < wr.heap.size) A13 c13 La := ⟨(LiesP.of_own hv.out.aown).later (fun _ _ => rfl) (fun k hk => ⟨hk.1, hk.2.1⟩), a1, a2, fun d hd => (hv.out.aok d hd).mono fun k hk => ⟨hk.1, hk.2.1⟩⟩
                    have hEX : Ents wr (fun k => w.heap.size ≤ k ∧ k < wr.heap.size) Ax cx X := hv.out.xok.mono fun k hk => ⟨hk.1, hk.2.1⟩
                    have HEA := Lib.hid hEA
                    have HPT := Lib.hid hPT
                    have HEB := Lib.hid hEB
                    have HEX := Lib.hid hEX
                    have ua : IntKind.u64.wrap (at' : Int) = (at' : Int) := IntWalk.u64_in _ (by omega)
                    have ul : IntKind.u64.wrap (La.length : Int) = (La.length : Int) := IntWalk.u64_in _ (by omega)
                    unfold maxLen at a2 pp2
                    clear hdrop hwk hfn pp3 hEA hPT hEB hEX hv
                    by_cases c1 : at' = f0
                    · have n1 : ((at' : Int) != (f0 : Int)) = false := by rw [bne_eq_false_iff_eq]; omega
                      have HC1 := Lib.hid c1
                      clear c1
                      go_wp2_with fail
                      refine (may_any A13 c13 La wr HEA.out).mono ?_
                      rintro e W2 ⟨rfl, hb2⟩
                      have HB2 := Lib.hid hb2
                      have HW2 := Lib.hid (hb.out.trans (hb2.mono hb.out.size))
                      clear hb2
                      have hml := may_le (La.map D.t)
                      by_cases c2 : may (La.map D.t) = 0
                      · rw [c2]
                        have HC2 := Lib.hid c2
                        have hl10 : La.length ≤ 10000 := by have := (may_zero c2).2.2; rwa [List.length_map] at this
                        have HTW := Lib.hid (twins_any A13 c13 La W2 (HEA.out.next HB2.out) hl10)
                        clear c2 hml
                        go_wp2_with fail
                        refine HTW.out.mono ?_
                        rintro e W3 ⟨rfl, hb3⟩
                        have HB3 := Lib.hid (HB2.out.trans (hb3.mono HB2.out.size))
                        have HW3 := Lib.hid (HW2.out.trans (hb3.mono HW2.out.size))
                        clear hb3 HTW HB2 HW2
                        cases c3 : twins (La.map D.t) with
                        | true =>
                          have HE := Lib.hid (HBAD.out fun h => by
                            have := h.2.2.1
                            rw [← hall.out, c3] at this
                            cases this)
                          go_wp2_with fail
                          go_returns
                          exact tall_bad HE.out HW3.out
                        | false =>
                          have HC3 := Lib.hid c3
                          have HGG := Lib.hid (HG16.out W3 HW3.out)
                          clear c3
                          go_wp2_with fail
                          refine HGG.out.mono ?_
                          rintro e w' ⟨rfl, rfl⟩
                          clear HGG
                          by_cases c4 : f16 = La.length
                          · have n4 : ((f16 : Int) != (La.length : Int)) = false := by rw [bne_eq_false_iff_eq]; omega
                            have HC4 := Lib.hid c4
                            clear c4
                            have hpsl : Ps.length ≤ 10000 := by
                              have h1 := flat_len (Ps.map P.ts) (fun p hp => by
                                obtain ⟨q, hq, rfl⟩ := List.mem_map.1 hp
                                exact fun h => (hfine.out q hq).ne (List.length_eq_zero_iff.1 (by have := congrArg List.length h; rw [List.length_map] at this; exact this)))
                              rw [← hall.out, List.length_map, List.length_map] at h1
                              omega
                            obtain ⟨A17, hA17, hcut17⟩ := cut_mid64 A bs.length c f0 f4 (by have := HMM.out; omega) hc HM.out
                            have hcx7 := fun W => hcut17 W ((f0 : Int) + (f4 : Int)) rfl
                            have HCX := Lib.hid hcx7
                            have hfl : ((bs.drop f0).take f4).length = f4 := by rw [List.length_take, List.length_drop]; have := HMM.out; omega
                            have HLF : Hid (Lies w w.heap.size A17 (((bs.drop f0).take f4).map vb)) := Lib.hid (Lies.cut HL.out (fun h => hA17 (by rw [hfl] at h; exact h)) (List.take_prefix _ _))
                            have HFL := Lib.hid hfl
                            have HF8' : Hid (∀ x, x ∈ (bs.drop f0).take f4 → x < 256) := Lib.hid fun x hx => H8.out x (List.mem_of_mem_drop (List.mem_of_mem_take hx))
                            obtain ⟨Z, hZ⟩ : ∃ Z, Z = (bs.drop f0).take f4 := ⟨_, rfl⟩
                            rw [← hZ] at HLF HFL HF8'
                            have HZ := Lib.hid hZ
                            have hfb : f4 ≤ c - f0 := by have := HMM.out; omega
                            have HREST : Hid (lowS (Ps.map P.ts) 1 ≤ highS (Ps.map P.ts) 1048576 → (∃ every, 1 ≤ every ∧ every ≤ 100 ∧ data every (Ps.map P.ts) <+: bs) → (∃ bits, 1 ≤ bits ∧ bits ≤ 40 ∧ bloomB (users none (La.map D.t)) bits = Z) → Rest bs (X.map D.t) (Ps.map P.ts)) := Lib.hid fun h1 h2 h3 =>
                              ⟨by rw [HFN.out, HC1.out, HF0.out], by rw [← hall.out]; exact HC2.out, by rw [← hall.out]; exact HC3.out, by rw [← HF16.out, HC4.out, ← hall.out, List.length_map], h1, h2, by rw [← hall.out, ← HF0.out, ← HF4.out, ← HZ.out]; exact h3⟩
                            have HB5' : Hid (Rest bs (X.map D.t) (Ps.map P.ts) → lowS (Ps.map P.ts) 1 ≤ highS (Ps.map P.ts) 1048576 ∧ (∃ every, 1 ≤ every ∧ every ≤ 100 ∧ data every (Ps.map P.ts) <+: bs) ∧ ∃ bits, 1 ≤ bits ∧ bits ≤ 40 ∧ bloomB (users none (La.map D.t)) bits = Z) := Lib.hid fun h =>
                              ⟨h.2.2.2.2.1, h.2.2.2.2.2.1, by
                                have h9 := h.2.2.2.2.2.2
                                rw [← hall.out, ← HF0.out, ← HF4.out, ← HZ.out] at h9
                                exact h9⟩
                            clear hA17 hcut17 hcx7 hfl hZ
                            go_upto_region 39 with fail
                            refine wp_region_held_drew (S := fun w' => Hid (Below W3.heap.size W3 w')) (by kernel_rfl) (Lib.hid (Below.refl _ _).drew) (fun hS => ?_)
                            refine wpAnyH_take (i := 0) (v := ?_) rfl (by kernel_rfl) (by kernel_rfl) (by kernel_rfl) (fun _ _ _ h => h) (Or.inl ⟨by rfl, ?_⟩) hS ?_
                            rotate_left
                            · intro wi hw
                              go_simp
                              try with_reducible rfl
                            try simp only [Act.put, List.getElem_toArray, List.getElem_cons_succ, List.getElem_cons_zero, List.setIfInBounds_toArray, List.set_cons_zero, List.set_cons_succ]
                            refine wpAnyH_ready (rs := [1]) (by kernel_rfl) (by simp) ?_
                            refine AllReadyH.cons rfl (fun K hK => ?_) AllReadyH.nil
                            go_simp
                            have hb7 := hS.out
                            refine (sized_any A14 c14 Ps _ (HPT.out.next (HB3.out.trans (hb7.mono HB3.out.size))) hfine.out hpsl).mono ?_
                            rintro e W4 ⟨rfl, hb4⟩
                            have HB4 := Lib.hid (hb7.trans (hb4.mono hb7.size))
                            have HW4 := Lib.hid (HW3.out.trans (HB4.out.mono HW3.out.size))
                            have HR4 := Lib.hid (HB3.out.trans (HB4.out.mono HB3.out.size))
                            clear hb4 hb7
                            go_wp2_with fail
                            refine hK.out _ _ HB4 (fun _ => ?_)
                            clear hK K hS
                            refine wpAnyH_other (S' := fun w' => Hid (Below W4.heap.size W4 w')) (fun w hw => Lib.hid (HB4.out.trans (hw.out.mono HB4.out.size))) _ _ _ _ ?_
                            have hS : Hid (Below W4.heap.size W4 W4) := Lib.hid (Below.refl _ _)
                            try simp only [Act.put, List.getElem_toArray, List.getElem_cons_succ, List.getElem_cons_zero, List.setIfInBounds_toArray, List.set_cons_zero, List.set_cons_succ]
                            by_cases c5 : lowS (Ps.map P.ts) 1 ≤ highS (Ps.map P.ts) 1048576
                            · rw [decide_eq_true c5]
                              have HC5 := Lib.hid c5
                              clear c5
                              refine wpAnyH_take (i := 2) (v := ?_) rfl (by kernel_rfl) (by kernel_rfl) (by kernel_rfl) (fun _ _ _ h => h) (Or.inl ⟨by rfl, ?_⟩) hS ?_
                              rotate_left
                              · intro wi hw
                                go_simp
                                try with_reducible rfl
                              try simp only [Act.put, List.getElem_toArray, List.getElem_cons_succ, List.getElem_cons_zero, List.setIfInBounds_toArray, List.set_cons_zero, List.set_cons_succ]
                              refine wpAnyH_take (i := 3) (v := ?_) rfl (by kernel_rfl) (by kernel_rfl) (by kernel_rfl) (fun _ _ _ h => h) (Or.inl ⟨by rfl, ?_⟩) hS ?_
                              rotate_left
                              · intro wi hw
                                go_simp
                                try with_reducible rfl
                              try simp only [Act.put, List.getElem_toArray, List.getElem_cons_succ, List.getElem_cons_zero, List.setIfInBounds_toArray, List.set_cons_zero, List.set_cons_succ]
                              refine wpAnyH_take (i := 4) (v := ?_) rfl (by kernel_rfl) (by kernel_rfl) (by kernel_rfl) (fun _ _ _ h => h) (Or.inl ⟨by rfl, ?_⟩) hS ?_
                              rotate_left
                              · intro wi hw
                                go_simp
                                try with_reducible rfl
                              try simp only [Act.put, List.getElem_toArray, List.getElem_cons_succ, List.getElem_cons_zero, List.setIfInBounds_toArray, List.set_cons_zero, List.set_cons_succ]
                              refine wpAnyH_take (i := 5) (v := ?_) rfl (by kernel_rfl) (by kernel_rfl) (by kernel_rfl) (fun _ _ _ h => h) (Or.inl ⟨by rfl, ?_⟩) hS ?_
                              rotate_left
                              · intro wi hw
                                go_simp
                                try with_reducible rfl
                              try simp only [Act.put, List.getElem_toArray, List.getElem_cons_succ, List.getElem_cons_zero, List.setIfInBounds_toArray, List.set_cons_zero, List.set_cons_succ]
                              refine wpAnyH_ready (rs := [6]) (by kernel_rfl) (by simp) ?_
                              refine AllReadyH.cons rfl (fun K hK => ?_) AllReadyH.nil
                              go_simp
                              have hb7 := hS.out
                              refine (alike_any A14 A c14 c Ps bs _ (HPT.out.next (HR4.out.trans (hb7.mono HR4.out.size))) hfine.out hpsl ((HL.out.below (HW4.out.trans (hb7.mono HW4.out.size))).up (Nat.le_trans HW4.out.size hb7.size)) hc HM.out H8.out).mono ?_
                              rintro e W5 ⟨r6, rfl, hr6, hb5⟩
                              have HB5 := Lib.hid (hb7.trans (hb5.mono hb7.size))
                              have HW5 := Lib.hid (HW4.out.trans (HB5.out.mono HW4.out.size))
                              have HR5 := Lib.hid (HR4.out.trans (HB5.out.mono HR4.out.size))
                              have HR6 := Lib.hid hr6
                              clear hb5 hb7 hr6
                              go_wp2_with fail
                              refine hK.out _ _ HB5 (fun _ => ?_)
                              clear hK K hS
                              refine wpAnyH_other (S' := fun w' => Hid (Below W5.heap.size W5 w')) (fun w hw => Lib.hid (HB5.out.trans (hw.out.mono HB5.out.size))) _ _ _ _ ?_
                              have hS : Hid (Below W5.heap.size W5 W5) := Lib.hid (Below.refl _ _)
                              try simp only [Act.put, List.getElem_toArray, List.getElem_cons_succ, List.getElem_cons_zero, List.setIfInBounds_toArray, List.set_cons_zero, List.set_cons_succ]
                              cases r6 with
                              | true =>
                                have HC6 := Lib.hid (HR6.out.1 rfl)
                                refine wpAnyH_take (i := 7) (v := ?_) rfl (by kernel_rfl) (by kernel_rfl) (by kernel_rfl) (fun _ _ _ h => h) (Or.inl ⟨by rfl, ?_⟩) hS ?_
                                rotate_left
                                · intro wi hw
                                  go_simp
                                  try with_reducible rfl
                                try simp only [Act.put, List.getElem_toArray, List.getElem_cons_succ, List.getElem_cons_zero, List.setIfInBounds_toArray, List.set_cons_zero, List.set_cons_succ]
                                refine wpAnyH_take (i := 8) (v := ?_) rfl (by kernel_rfl) (by kernel_rfl) (by kernel_rfl) (fun _ _ _ h => h) (Or.inl ⟨by rfl, ?_⟩) hS ?_
                                rotate_left
                                · intro wi hw
                                  go_simp
                                  try with_reducible rfl
                                try simp only [Act.put, List.getElem_toArray, List.getElem_cons_succ, List.getElem_cons_zero, List.setIfInBounds_toArray, List.set_cons_zero, List.set_cons_succ]
                                refine wpAnyH_take (i := 9) (v := ?_) rfl (by kernel_rfl) (by kernel_rfl) (by kernel_rfl) (fun _ _ _ h => h) (Or.inl ⟨by rfl, ?_⟩) hS ?_
                                rotate_left
                                · intro wi hw
                                  go_simp
                                  try with_reducible rfl
                                try simp only [Act.put, List.getElem_toArray, List.getElem_cons_succ, List.getElem_cons_zero, List.setIfInBounds_toArray, List.set_cons_zero, List.set_cons_succ]
                                refine wpAnyH_take (i := 10) (v := ?_) rfl (by kernel_rfl) (by kernel_rfl) (by kernel_rfl) (fun _ _ _ h => h) (Or.inl ⟨by rfl, ?_⟩) hS ?_
                                rotate_left
                                · intro wi hw
                                  go_simp
                                  try with_reducible rfl
                                try simp only [Act.put, List.getElem_toArray, List.getElem_cons_succ, List.getElem_cons_zero, List.setIfInBounds_toArray, List.set_cons_zero, List.set_cons_succ]
                                refine wpAnyH_take (i := 12) (v := ?_) rfl (by kernel_rfl) (by kernel_rfl) (by kernel_rfl) (fun _ _ _ h => h) (Or.inl ⟨by rfl, ?_⟩) hS ?_
                                rotate_left
                                · intro wi hw
                                  go_simp
                                  try with_reducible rfl
                                try simp only [Act.put, List.getElem_toArray, List.getElem_cons_succ, List.getElem_cons_zero, List.setIfInBounds_toArray, List.set_cons_zero, List.set_cons_succ]
                                refine wpAnyH_take (i := 13) (v := ?_) rfl (by kernel_rfl) (by kernel_rfl) (by kernel_rfl) (fun _ _ _ h => h) (Or.inl ⟨by rfl, ?_⟩) hS ?_
                                rotate_left
                                · intro wi hw
                                  go_simp
                                  try with_reducible rfl
                                try simp only [Act.put, List.getElem_toArray, List.getElem_cons_succ, List.getElem_cons_zero, List.setIfInBounds_toArray, List.set_cons_zero, List.set_cons_succ]
                                refine wpAnyH_take (i := 14) (v := ?_) rfl (by kernel_rfl) (by kernel_rfl) (by kernel_rfl) (fun _ _ _ h => h) (Or.inl ⟨by rfl, ?_⟩) hS ?_
                                rotate_left
                                · intro wi hw
                                  go_simp
                                  try with_reducible rfl
                                try simp only [Act.put, List.getElem_toArray, List.getElem_cons_succ, List.getElem_cons_zero, List.setIfInBounds_toArray, List.set_cons_zero, List.set_cons_succ]
                                refine wpAnyH_take (i := 15) (v := ?_) rfl (by kernel_rfl) (by kernel_rfl) (by kernel_rfl) (fun _ _ _ h => h) (Or.inl ⟨by rfl, ?_⟩) hS ?_
                                rotate_left
                                · intro wi hw
                                  go_simp
                                  try with_reducible rfl
                                try simp only [Act.put, List.getElem_toArray, List.getElem_cons_succ, List.getElem_cons_zero, List.setIfInBounds_toArray, List.set_cons_zero, List.set_cons_succ]
                                refine wpAnyH_take (i := 16) (v := ?_) rfl (by kernel_rfl) (by kernel_rfl) (by kernel_rfl) (fun _ _ _ h => h) (Or.inl ⟨by rfl, ?_⟩) hS ?_
                                rotate_left
                                · intro wi hw
                                  have uw : IntKind.u64.wrap ((f0 : Int) + (f4 : Int)) = (f0 : Int) + (f4 : Int) := IntWalk.u64_in _ (by omega)
                                  go_simp
                                  try with_reducible rfl
                                try simp only [Act.put, List.getElem_toArray, List.getElem_cons_succ, List.getElem_cons_zero, List.setIfInBounds_toArray, List.set_cons_zero, List.set_cons_succ]
                                refine wpAnyH_take (i := 17) (v := ?_) rfl (by kernel_rfl) (by kernel_rfl) (by kernel_rfl) (fun _ _ _ h => h) (Or.inl ⟨by rfl, ?_⟩) hS ?_
                                rotate_left
                                · intro wi hw
                                  have hcx7 := HCX.out
                                  go_simp
                                  try with_reducible rfl
                                try simp only [Act.put, List.getElem_toArray, List.getElem_cons_succ, List.getElem_cons_zero, List.setIfInBounds_toArray, List.set_cons_zero, List.set_cons_succ]
                                refine wpAnyH_ready (rs := [11]) (by kernel_rfl) (by simp) ?_
                                refine AllReadyH.cons rfl (fun K hK => ?_) AllReadyH.nil
                                go_simp
                                have hb7 := hS.out
                                refine (users_any A13 c13 La _ (HEA.out.next (HR5.out.trans (hb7.mono HR5.out.size))) hl10).mono ?_
                                rintro e W6 ⟨Au, cu, Es, rfl, hEs, hSq, hb6⟩
                                have HB6 := Lib.hid (hb7.trans (hb6.mono hb7.size))
                                have HW6 := Lib.hid (HW5.out.trans (HB6.out.mono HW5.out.size))
                                have HR6' := Lib.hid (HR5.out.trans (HB6.out.mono HR5.out.size))
                                have HEs := Lib.hid hEs
                                have HSq := Lib.hid hSq
                                have hEl : Es.length ≤ 1000000 := by
                                  have h1 := congrArg List.length hEs
                                  rw [List.length_map] at h1
                                  have h2 := users_len (La.map D.t) none
                                  rw [List.length_map] at h2
                                  omega
                                clear hb6 hb7 hEs hSq
                                go_wp2_with fail
                                refine hK.out _ _ HB6 (fun _ => ?_)
                                clear hK K hS
                                refine wpAnyH_other (S' := fun w' => Hid (Below W6.heap.size W6 w')) (fun w hw => Lib.hid (HB6.out.trans (hw.out.mono HB6.out.size))) _ _ _ _ ?_
                                have hS : Hid (Below W6.heap.size W6 W6) := Lib.hid (Below.refl _ _)
                                try simp only [Act.put, List.getElem_toArray, List.getElem_cons_succ, List.getElem_cons_zero, List.setIfInBounds_toArray, List.set_cons_zero, List.set_cons_succ]
                                refine wpAnyH_ready (rs := [18]) (by kernel_rfl) (by simp) ?_
                                refine AllReadyH.cons rfl (fun K hK => ?_) AllReadyH.nil
                                go_simp
                                have hb7 := hS.out
                                have hft := filtered_any Au A17 cu (c - f0) Es Z _ ((HSq.out.below hb7).up hb7.size) hEl ((HLF.out.below (HW6.out.trans (hb7.mono HW6.out.size))).up (Nat.le_trans HW6.out.size hb7.size)) (by rw [HFL.out]; exact hfb) (Nat.le_trans (Nat.sub_le _ _) HM.out) HF8'.out
                                rw [HFL.out, HEs.out] at hft
                                refine hft.mono ?_
                                rintro e W7 ⟨r7, rfl, hr7, hb8⟩
                                have HB7 := Lib.hid (hb7.trans (hb8.mono hb7.size))
                                have HW7 := Lib.hid (HW6.out.trans (HB7.out.mono HW6.out.size))
                                have HR7 := Lib.hid (HR6'.out.trans (HB7.out.mono HR6'.out.size))
                                have HQ7 := Lib.hid hr7
                                clear hb8 hb7 hr7 hft
                                go_wp2_with fail
                                refine hK.out _ _ HB7 (fun _ => ?_)
                                clear hK K hS
                                refine wpAnyH_other (S' := fun w' => Hid (Below W7.heap.size W7 w')) (fun w hw => Lib.hid (HB7.out.trans (hw.out.mono HB7.out.size))) _ _ _ _ ?_
                                have hS : Hid (Below W7.heap.size W7 W7) := Lib.hid (Below.refl _ _)
                                try simp only [Act.put, List.getElem_toArray, List.getElem_cons_succ, List.getElem_cons_zero, List.setIfInBounds_toArray, List.set_cons_zero, List.set_cons_succ]
                                cases r7 with
                                | true =>
                                  have HG := Lib.hid (HGOOD.out (HREST.out HC5.out HC6.out (HQ7.out.1 rfl)))
                                  refine wpAnyH_take (i := 19) (v := ?_) rfl (by kernel_rfl) (by kernel_rfl) (by kernel_rfl) (fun _ _ _ h => h) (Or.inl ⟨by rfl, ?_⟩) hS ?_
                                  rotate_left
                                  · intro wi hw
                                    go_simp
                                    try with_reducible rfl
                                  try simp only [Act.put, List.getElem_toArray, List.getElem_cons_succ, List.getElem_cons_zero, List.setIfInBounds_toArray, List.set_cons_zero, List.set_cons_succ]
                                  refine wpAnyH_take (i := 20) (v := ?_) rfl (by kernel_rfl) (by kernel_rfl) (by kernel_rfl) (fun _ _ _ h => h) (Or.inl ⟨by rfl, ?_⟩) hS ?_
                                  rotate_left
                                  · intro wi hw
                                    go_simp
                                    try with_reducible rfl
                                  try simp only [Act.put, List.getElem_toArray, List.getElem_cons_succ, List.getElem_cons_zero, List.setIfInBounds_toArray, List.set_cons_zero, List.set_cons_succ]
                                  refine wpAnyH_done (by kernel_rfl) ?_ _
                                  clear hS
                                  go_wp2_with fail
                                  go_returns
                                  refine ⟨HW7.out, A13, c13, La, Ax, cx, X, by rw [HG.out]; rfl, by rw [HG.out]; exact hall.out, by rw [HG.out], HEB.out.later (fun k hk => HR7.out.block k hk.2) (fun k hk => ⟨hk.1, Nat.lt_of_lt_of_le hk.2 HR7.out.size⟩), HEX.out.later (fun k hk => HR7.out.block k hk.2) (fun k hk => ⟨hk.1, Nat.lt_of_lt_of_le hk.2 HR7.out.size⟩)⟩
                                | false =>
                                  have HE := Lib.hid (HBAD.out fun h => by
                                    have := HQ7.out.2 (HB5'.out h).2.2
                                    cases this)
                                  refine wpAnyH_take (i := 19) (v := ?_) rfl (by kernel_rfl) (by kernel_rfl) (by kernel_rfl) (fun _ _ _ h => h) (Or.inl ⟨by rfl, ?_⟩) hS ?_
                                  rotate_left
                                  · intro wi hw
                                    go_simp
                                    try with_reducible rfl
                                  try simp only [Act.put, List.getElem_toArray, List.getElem_cons_succ, List.getElem_cons_zero, List.setIfInBounds_toArray, List.set_cons_zero, List.set_cons_succ]
                                  refine wpAnyH_take (i := 20) (v := ?_) rfl (by kernel_rfl) (by kernel_rfl) (by kernel_rfl) (fun _ _ _ h => h) (Or.inl ⟨by rfl, ?_⟩) hS ?_
                                  rotate_left
                                  · intro wi hw
                                    go_simp
                                    try with_reducible rfl
                                  try simp only [Act.put, List.getElem_toArray, List.getElem_cons_succ, List.getElem_cons_zero, List.setIfInBounds_toArray, List.set_cons_zero, List.set_cons_succ]
                                  refine wpAnyH_done (by kernel_rfl) ?_ _
                                  clear hS
                                  go_wp2_with fail
                                  go_returns
                                  exact tall_bad HE.out HW7.out
                              | false =>
                                have HE := Lib.hid (HBAD.out fun h => by
                                  have := HR6.out.2 (HB5'.out h).2.1
                                  cases this)
                                refine wpAnyH_take (i := 7) (v := ?_) rfl (by kernel_rfl) (by kernel_rfl) (by kernel_rfl) (fun _ _ _ h => h) (Or.inl ⟨by rfl, ?_⟩) hS ?_
                                rotate_left
                                · intro wi hw
                                  go_simp
                                  try with_reducible rfl
                                try simp only [Act.put, List.getElem_toArray, List.getElem_cons_succ, List.getElem_cons_zero, List.setIfInBounds_toArray, List.set_cons_zero, List.set_cons_succ]
                                refine wpAnyH_take (i := 8) (v := ?_) rfl (by kernel_rfl) (by kernel_rfl) (by kernel_rfl) (fun _ _ _ h => h) (Or.inl ⟨by rfl, ?_⟩) hS ?_
                                rotate_left
                                · intro wi hw
                                  go_simp
                                  try with_reducible rfl
                                try simp only [Act.put, List.getElem_toArray, List.getElem_cons_succ, List.getElem_cons_zero, List.setIfInBounds_toArray, List.set_cons_zero, List.set_cons_succ]
                                refine wpAnyH_take (i := 9) (v := ?_) rfl (by kernel_rfl) (by kernel_rfl) (by kernel_rfl) (fun _ _ _ h => h) (Or.inl ⟨by rfl, ?_⟩) hS ?_
                                rotate_left
                                · intro wi hw
                                  go_simp
                                  try with_reducible rfl
                                try simp only [Act.put, List.getElem_toArray, List.getElem_cons_succ, List.getElem_cons_zero, List.setIfInBounds_toArray, List.set_cons_zero, List.set_cons_succ]
                                refine wpAnyH_take (i := 10) (v := undef) rfl (by kernel_rfl) (by kernel_rfl) (by kernel_rfl) (fun _ _ _ h => h) (Or.inr ⟨by rfl, rfl⟩) hS ?_
                                try simp only [Act.put, List.getElem_toArray, List.getElem_cons_succ, List.getElem_cons_zero, List.setIfInBounds_toArray, List.set_cons_zero, List.set_cons_succ]
                                refine wpAnyH_take (i := 11) (v := undef) rfl (by kernel_rfl) (by kernel_rfl) (by kernel_rfl) (fun _ _ _ h => h) (Or.inr ⟨by rfl, rfl⟩) hS ?_
                                try simp only [Act.put, List.getElem_toArray, List.getElem_cons_succ, List.getElem_cons_zero, List.setIfInBounds_toArray, List.set_cons_zero, List.set_cons_succ]
                                refine wpAnyH_take (i := 12) (v := undef) rfl (by kernel_rfl) (by kernel_rfl) (by kernel_rfl) (fun _ _ _ h => h) (Or.inr ⟨by rfl, rfl⟩) hS ?_
                                try simp only [Act.put, List.getElem_toArray, List.getElem_cons_succ, List.getElem_cons_zero, List.setIfInBounds_toArray, List.set_cons_zero, List.set_cons_succ]
                                refine wpAnyH_take (i := 13) (v := undef) rfl (by kernel_rfl) (by kernel_rfl) (by kernel_rfl) (fun _ _ _ h => h) (Or.inr ⟨by rfl, rfl⟩) hS ?_
                                try simp only [Act.put, List.getElem_toArray, List.getElem_cons_succ, List.getElem_cons_zero, List.setIfInBounds_toArray, List.set_cons_zero, List.set_cons_succ]
                                refine wpAnyH_take (i := 14) (v := undef) rfl (by kernel_rfl) (by kernel_rfl) (by kernel_rfl) (fun _ _ _ h => h) (Or.inr ⟨by rfl, rfl⟩) hS ?_
                                try simp only [Act.put, List.getElem_toArray, List.getElem_cons_succ, List.getElem_cons_zero, List.setIfInBounds_toArray, List.set_cons_zero, List.set_cons_succ]
                                refine wpAnyH_take (i := 15) (v := undef) rfl (by kernel_rfl) (by kernel_rfl) (by kernel_rfl) (fun _ _ _ h => h) (Or.inr ⟨by rfl, rfl⟩) hS ?_
                                try simp only [Act.put, List.getElem_toArray, List.getElem_cons_succ, List.getElem_cons_zero, List.setIfInBounds_toArray, List.set_cons_zero, List.set_cons_succ]
                                refine wpAnyH_take (i := 16) (v := undef) rfl (by kernel_rfl) (by kernel_rfl) (by kernel_rfl) (fun _ _ _ h => h) (Or.inr ⟨by rfl, rfl⟩) hS ?_
                                try simp only [Act.put, List.getElem_toArray, List.getElem_cons_succ, List.getElem_cons_zero, List.setIfInBounds_toArray, List.set_cons_zero, List.set_cons_succ]
                                refine wpAnyH_take (i := 17) (v := undef) rfl (by kernel_rfl) (by kernel_rfl) (by kernel_rfl) (fun _ _ _ h => h) (Or.inr ⟨by rfl, rfl⟩) hS ?_
                                try simp only [Act.put, List.getElem_toArray, List.getElem_cons_succ, List.getElem_cons_zero, List.setIfInBounds_toArray, List.set_cons_zero, List.set_cons_succ]
                                refine wpAnyH_take (i := 18) (v := undef) rfl (by kernel_rfl) (by kernel_rfl) (by kernel_rfl) (fun _ _ _ h => h) (Or.inr ⟨by rfl, rfl⟩) hS ?_
                                try simp only [Act.put, List.getElem_toArray, List.getElem_cons_succ, List.getElem_cons_zero, List.setIfInBounds_toArray, List.set_cons_zero, List.set_cons_succ]
                                refine wpAnyH_take (i := 19) (v := undef) rfl (by kernel_rfl) (by kernel_rfl) (by kernel_rfl) (fun _ _ _ h => h) (Or.inr ⟨by rfl, rfl⟩) hS ?_
                                try simp only [Act.put, List.getElem_toArray, List.getElem_cons_succ, List.getElem_cons_zero, List.setIfInBounds_toArray, List.set_cons_zero, List.set_cons_succ]
                                refine wpAnyH_take (i := 20) (v := ?_) rfl (by kernel_rfl) (by kernel_rfl) (by kernel_rfl) (fun _ _ _ h => h) (Or.inl ⟨by rfl, ?_⟩) hS ?_
                                rotate_left
                                · intro wi hw
                                  go_simp
                                  try with_reducible rfl
                                try simp only [Act.put, List.getElem_toArray, List.getElem_cons_succ, List.getElem_cons_zero, List.setIfInBounds_toArray, List.set_cons_zero, List.set_cons_succ]
                                refine wpAnyH_done (by kernel_rfl) ?_ _
                                clear hS
                                go_wp2_with fail
                                go_returns
                                exact tall_bad HE.out HW5.out
                            · rw [decide_eq_false c5]
                              have HE := Lib.hid (HBAD.out fun h => c5 (HB5'.out h).1)
                              clear c5
                              refine wpAnyH_take (i := 2) (v := ?_) rfl (by kernel_rfl) (by kernel_rfl) (by kernel_rfl) (fun _ _ _ h => h) (Or.inl ⟨by rfl, ?_⟩) hS ?_
                              rotate_left
                              · intro wi hw
                                go_simp
                                try with_reducible rfl
                              try simp only [Act.put, List.getElem_toArray, List.getElem_cons_succ, List.getElem_cons_zero, List.setIfInBounds_toArray, List.set_cons_zero, List.set_cons_succ]
                              refine wpAnyH_take (i := 3) (v := ?_) rfl (by kernel_rfl) (by kernel_rfl) (by kernel_rfl) (fun _ _ _ h => h) (Or.inl ⟨by rfl, ?_⟩) hS ?_
                              rotate_left
                              · intro wi hw
                                go_simp
                                try with_reducible rfl
                              try simp only [Act.put, List.getElem_toArray, List.getElem_cons_succ, List.getElem_cons_zero, List.setIfInBounds_toArray, List.set_cons_zero, List.set_cons_succ]
                              refine wpAnyH_take (i := 4) (v := undef) rfl (by kernel_rfl) (by kernel_rfl) (by kernel_rfl) (fun _ _ _ h => h) (Or.inr ⟨by rfl, rfl⟩) hS ?_
                              try simp only [Act.put, List.getElem_toArray, List.getElem_cons_succ, List.getElem_cons_zero, List.setIfInBounds_toArray, List.set_cons_zero, List.set_cons_succ]
                              refine wpAnyH_take (i := 5) (v := undef) rfl (by kernel_rfl) (by kernel_rfl) (by kernel_rfl) (fun _ _ _ h => h) (Or.inr ⟨by rfl, rfl⟩) hS ?_
                              try simp only [Act.put, List.getElem_toArray, List.getElem_cons_succ, List.getElem_cons_zero, List.setIfInBounds_toArray, List.set_cons_zero, List.set_cons_succ]
                              refine wpAnyH_take (i := 6) (v := undef) rfl (by kernel_rfl) (by kernel_rfl) (by kernel_rfl) (fun _ _ _ h => h) (Or.inr ⟨by rfl, rfl⟩) hS ?_
                              try simp only [Act.put, List.getElem_toArray, List.getElem_cons_succ, List.getElem_cons_zero, List.setIfInBounds_toArray, List.set_cons_zero, List.set_cons_succ]
                              refine wpAnyH_take (i := 7) (v := undef) rfl (by kernel_rfl) (by kernel_rfl) (by kernel_rfl) (fun _ _ _ h => h) (Or.inr ⟨by rfl, rfl⟩) hS ?_
                              try simp only [Act.put, List.getElem_toArray, List.getElem_cons_succ, List.getElem_cons_zero, List.setIfInBounds_toArray, List.set_cons_zero, List.set_cons_succ]
                              refine wpAnyH_take (i := 8) (v := ?_) rfl (by kernel_rfl) (by kernel_rfl) (by kernel_rfl) (fun _ _ _ h => h) (Or.inl ⟨by rfl, ?_⟩) hS ?_
                              rotate_left
                              · intro wi hw
                                go_simp
                                try with_reducible rfl
                              try simp only [Act.put, List.getElem_toArray, List.getElem_cons_succ, List.getElem_cons_zero, List.setIfInBounds_toArray, List.set_cons_zero, List.set_cons_succ]
                              refine wpAnyH_take (i := 9) (v := ?_) rfl (by kernel_rfl) (by kernel_rfl) (by kernel_rfl) (fun _ _ _ h => h) (Or.inl ⟨by rfl, ?_⟩) hS ?_
                              rotate_left
                              · intro wi hw
                                go_simp
                                try with_reducible rfl
                              try simp only [Act.put, List.getElem_toArray, List.getElem_cons_succ, List.getElem_cons_zero, List.setIfInBounds_toArray, List.set_cons_zero, List.set_cons_succ]
                              refine wpAnyH_take (i := 10) (v := undef) rfl (by kernel_rfl) (by kernel_rfl) (by kernel_rfl) (fun _ _ _ h => h) (Or.inr ⟨by rfl, rfl⟩) hS ?_
                              try simp only [Act.put, List.getElem_toArray, List.getElem_cons_succ, List.getElem_cons_zero, List.setIfInBounds_toArray, List.set_cons_zero, List.set_cons_succ]
                              refine wpAnyH_take (i := 11) (v := undef) rfl (by kernel_rfl) (by kernel_rfl) (by kernel_rfl) (fun _ _ _ h => h) (Or.inr ⟨by rfl, rfl⟩) hS ?_
                              try simp only [Act.put, List.getElem_toArray, List.getElem_cons_succ, List.getElem_cons_zero, List.setIfInBounds_toArray, List.set_cons_zero, List.set_cons_succ]
                              refine wpAnyH_take (i := 12) (v := undef) rfl (by kernel_rfl) (by kernel_rfl) (by kernel_rfl) (fun _ _ _ h => h) (Or.inr ⟨by rfl, rfl⟩) hS ?_
                              try simp only [Act.put, List.getElem_toArray, List.getElem_cons_succ, List.getElem_cons_zero, List.setIfInBounds_toArray, List.set_cons_zero, List.set_cons_succ]
                              refine wpAnyH_take (i := 13) (v := undef) rfl (by kernel_rfl) (by kernel_rfl) (by kernel_rfl) (fun _ _ _ h => h) (Or.inr ⟨by rfl, rfl⟩) hS ?_
                              try simp only [Act.put, List.getElem_toArray, List.getElem_cons_succ, List.getElem_cons_zero, List.setIfInBounds_toArray, List.set_cons_zero, List.set_cons_succ]
                              refine wpAnyH_take (i := 14) (v := undef) rfl (by kernel_rfl) (by kernel_rfl) (by kernel_rfl) (fun _ _ _ h => h) (Or.inr ⟨by rfl, rfl⟩) hS ?_
                              try simp only [Act.put, List.getElem_toArray, List.getElem_cons_succ, List.getElem_cons_zero, List.setIfInBounds_toArray, List.set_cons_zero, List.set_cons_succ]
                              refine wpAnyH_take (i := 15) (v := undef) rfl (by kernel_rfl) (by kernel_rfl) (by kernel_rfl) (fun _ _ _ h => h) (Or.inr ⟨by rfl, rfl⟩) hS ?_
                              try simp only [Act.put, List.getElem_toArray, List.getElem_cons_succ, List.getElem_cons_zero, List.setIfInBounds_toArray, List.set_cons_zero, List.set_cons_succ]
                              refine wpAnyH_take (i := 16) (v := undef) rfl (by kernel_rfl) (by kernel_rfl) (by kernel_rfl) (fun _ _ _ h => h) (Or.inr ⟨by rfl, rfl⟩) hS ?_
                              try simp only [Act.put, List.getElem_toArray, List.getElem_cons_succ, List.getElem_cons_zero, List.setIfInBounds_toArray, List.set_cons_zero, List.set_cons_succ]
                              refine wpAnyH_take (i := 17) (v := undef) rfl (by kernel_rfl) (by kernel_rfl) (by kernel_rfl) (fun _ _ _ h => h) (Or.inr ⟨by rfl, rfl⟩) hS ?_
                              try simp only [Act.put, List.getElem_toArray, List.getElem_cons_succ, List.getElem_cons_zero, List.setIfInBounds_toArray, List.set_cons_zero, List.set_cons_succ]
                              refine wpAnyH_take (i := 18) (v := undef) rfl (by kernel_rfl) (by kernel_rfl) (by kernel_rfl) (fun _ _ _ h => h) (Or.inr ⟨by rfl, rfl⟩) hS ?_
                              try simp only [Act.put, List.getElem_toArray, List.getElem_cons_succ, List.getElem_cons_zero, List.setIfInBounds_toArray, List.set_cons_zero, List.set_cons_succ]
                              refine wpAnyH_take (i := 19) (v := undef) rfl (by kernel_rfl) (by kernel_rfl) (by kernel_rfl) (fun _ _ _ h => h) (Or.inr ⟨by rfl, rfl⟩) hS ?_
                              try simp only [Act.put, List.getElem_toArray, List.getElem_cons_succ, List.getElem_cons_zero, List.setIfInBounds_toArray, List.set_cons_zero, List.set_cons_succ]
                              refine wpAnyH_take (i := 20) (v := ?_) rfl (by kernel_rfl) (by kernel_rfl) (by kernel_rfl) (fun _ _ _ h => h) (Or.inl ⟨by rfl, ?_⟩) hS ?_
                              rotate_left
                              · intro wi hw
                                go_simp
                                try with_reducible rfl
                              try simp only [Act.put, List.getElem_toArray, List.getElem_cons_succ, List.getElem_cons_zero, List.setIfInBounds_toArray, List.set_cons_zero, List.set_cons_succ]
                              refine wpAnyH_done (by kernel_rfl) ?_ _
                              clear hS
                              go_wp2_with fail
                              go_returns
                              exact tall_bad HE.out HW4.out
                          · have n4 : ((f16 : Int) != (La.length : Int)) = true := by rw [bne_iff_ne]; omega
                            have HE := Lib.hid (HBAD.out fun h => c4 (by
                              have := h.2.2.2.1
                              rw [← HF16.out, ← hall.out, List.length_map] at this
                              exact this))
                            clear c4
                            go_wp2_with fail
                            go_returns
                            exact tall_bad HE.out HW3.out
                      · have n2 : ((may (La.map D.t) : Int) != 0) = true := by rw [bne_iff_ne]; omega
                        have HE := Lib.hid (HBAD.out fun h => c2 (by rw [hall.out]; exact h.2.1))
                        clear c2
                        generalize may (La.map D.t) = mq at *
                        go_wp2_with fail
                        go_returns
                        exact tall_bad HE.out HW2.out
                    · have n1 : ((at' : Int) != (f0 : Int)) = true := by rw [bne_iff_ne]; omega
                      have HE := Lib.hid (HBAD.out fun h => c1 (by
                        have := h.1
                        rw [HFN.out, ← HF0.out] at this
                        exact this))
                      clear c1
                      go_wp2_with fail
                      go_returns
                      exact tall_bad HE.out hb.out
          · have HE : Hid (tallB bs = ([], [], inner (allB (ixb bs)).2)) := Lib.hid (tallB_ix H24.out HSUM.out HK1.out HK2.out hxe)
            have n3 : (((allB (ixb bs)).2 : Int) != 0) = true := by rw [bne_iff_ne]; omega
            have HIN := Lib.hid (inner_any (allB (ixb bs)).2 W9)
            clear hxe HEV
            generalize (allB (ixb bs)).2 = q at *
            go_wp2_with fail
            refine HIN.out.mono ?_
            rintro e w' ⟨rfl, rfl⟩
            go_wp2_with fail
            go_returns
            exact tall_bad HE.out HB9.out
        · have n1 : ((f0 : Int) + (f4 : Int) != (f8 : Int)) = false := by rw [bne_eq_false_iff_eq]; omega
          have n2 : ((f8 : Int) + (f12 : Int) != (m : Int)) = true := by rw [bne_iff_ne]; omega
          have HE : Hid (tallB bs = ([], [], 2)) := Lib.hid (tallB_foot H24.out HSUM.out (.inr (by rw [← HF8.out, ← HF12.out, HE24.out]; exact k2)))
          clear k2
          go_wp2_with fail
          go_returns
          exact tall_bad HE.out HB8.out
      · have n1 : ((f0 : Int) + (f4 : Int) != (f8 : Int)) = true := by rw [bne_iff_ne]; omega
        have HE : Hid (tallB bs = ([], [], 2)) := Lib.hid (tallB_foot H24.out HSUM.out (.inl (by rw [← HF0.out, ← HF4.out, ← HF8.out]; exact k1)))
        clear k1
        go_wp2_with fail
        go_returns
        exact tall_bad HE.out HB8.out
    · have HE : Hid (tallB bs = ([], [], 5)) := Lib.hid (tallB_sum H24.out (by rw [HE4.out, HE24.out, ← HSM.out]; exact hsum))
      have d3 : decide (bs.drop (m + 20) = sm) = false := decide_eq_false hsum
      rw [d3]
      clear hsum d3
      go_wp2_with fail
      go_returns
      exact tall_bad HE.out HB8.out
end Go.Proofs.YtobjiamdljjkjaaGreat.Tb
