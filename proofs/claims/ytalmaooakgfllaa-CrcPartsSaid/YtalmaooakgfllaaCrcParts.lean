/- For all bytes and every byte CrcParts returns true and leaves all memory as it was: no condition. -/
import Derived.Test.YtalmaooakgfllaaLaw3
import Derived.RowKit3
import Derived.WalkSmall
namespace Go.Proofs.Ytalmaooakgfllaa.crcParts
set_option linter.unusedVariables false
set_option linter.unusedSimpArgs false
open Go.ChangeShapes Go.WideShapes Go.ChangeAt Go.RowKit Lift Crc

theorem own : ownKnob Try.prog.godebug = none := by kernel_rfl

set_option maxRecDepth 100000 in
set_option maxHeartbeats 400000 in
theorem walk (A : Option Addr) (ca cc : Nat) (xs : List Nat) (W : World) (hl : Lies W W.heap.size A (xs.map vb)) (hca : xs.length ≤ ca) (x8 : ∀ x, x ∈ xs → x < 256) (h300 : xs.length ≤ 300) (hcc : cc < 256) :
    Calls Try.prog 7 #[.slice A xs.length ca, .int .u8 cc] W (Yes W) := by
  have HL := Lib.hid hl
  have X8 := Lib.hid x8
  clear hl x8
  go_enter Try.func7, Try.ntmps7
  go_wp2_with fail
  refine (alive_any _).mono ?_; rintro e W1 ⟨rfl, hb1⟩
  have HW1 := Lib.hid hb1
  clear hb1
  go_wp2_with fail
  refine (table_any _).mono ?_
  intro e W4 hmade
  obtain ⟨A1, c1, rfl, hc1, hmm1, hl1, hb4⟩ := hmade.parts
  clear hmade
  rw [tab_length] at hc1 ⊢
  have HW4 := Lib.hid (HW1.out.trans (hb4.mono HW1.out.size))
  have HL4 := Lib.hid ((HL.out.below HW4.out).up HW4.out.size)
  have HT := Lib.hid hl1
  obtain ⟨ad, rfl, hadb, hcells⟩ := hl1.place (by rw [List.length_map, tab_length]; decide)
  have HC := Lib.hid (cells_at hcells)
  have HAD := Lib.hid hadb
  clear hb4 hl1 hmm1 hcells hadb
  go_wp2_with fail
  refine (sum_by_tab (some ad) A c1 ca _ xs W4 hc1 HT.out HL4.out hca (by unfold maxLen; omega) X8.out).mono ?_; rintro e w' ⟨rfl, rfl⟩
  go_wp2_with fail
  have hr32 := reg_lt ent_ok xs (r := 4294967295) (by decide) X8.out
  obtain ⟨r, hr⟩ : ∃ r, r = reg ent 4294967295 xs := ⟨_, rfl⟩
  have eR : bits .xor .u32 IntKind.u32.max ((crc ent xs : Nat) : Int) = (r : Int) := by
    rw [not_int (crc_lt ent xs), hr]
    unfold crc
    omega
  rw [eR]
  rw [← hr] at hr32
  have HE := Lib.hid (show 4294967295 - turn ent r cc = crc ent (xs ++ [cc]) by rw [hr]; unfold crc; rw [reg_snoc])
  clear hr eR
  have hs := spot_lt (r := r) hcc
  have eS := spot_int (r := r) hcc
  rw [← IntKind.wrap_u8] at eS
  have hs0 : (0 : Int) ≤ (spot r cc : Nat) := Int.natCast_nonneg _
  have hs2 : ((spot r cc : Nat) : Int) < 256 := by omega
  have eV := tab_at _ hs
  have eT := turn_int (T := ent) (r := r) (c := cc) hr32 (ent_ok _ hs) rfl
  have eN := not_int (turn_lt32 (T := ent) (r := r) (c := cc) hr32 (ent_ok _ hs) rfl)
  rw [HE.out] at eN
  have hcell : ∀ w', Below W4.heap.size W4 w' → w'.cell? (ad.add (spot r cc)) = some (.int .u32 (ent (spot r cc) : Nat)) := fun w' hb => by
    rw [hb.cell (by unfold Addr.add; split <;> exact HAD.out)]
    exact HC.out _ _ eV
  have HCell := Lib.hid hcell
  clear hcell eV
  refine wp_region_held_drew (S := fun w' => Hid (Below W4.heap.size W4 w')) (by kernel_rfl) (Lib.hid (Below.refl _ _).drew) (fun hS => ?_)
  refine wpAnyH_take (i := 0) (v := ?_) rfl (by kernel_rfl) (by kernel_rfl) (by kernel_rfl) (fun _ _ _ h => h) (Or.inl ⟨by rfl, ?_⟩) hS ?_
  rotate_left
  · intro w hw
    go_simp
    try with_reducible rfl
  try simp only [Act.put, List.getElem_toArray, List.getElem_cons_succ, List.getElem_cons_zero, List.setIfInBounds_toArray, List.set_cons_zero, List.set_cons_succ]
  refine wpAnyH_take (i := 1) (v := ?_) rfl (by kernel_rfl) (by kernel_rfl) (by kernel_rfl) (fun _ _ _ h => h) (Or.inl ⟨by rfl, ?_⟩) hS ?_
  rotate_left
  · intro w hw
    go_simp
    try with_reducible rfl
  try simp only [Act.put, List.getElem_toArray, List.getElem_cons_succ, List.getElem_cons_zero, List.setIfInBounds_toArray, List.set_cons_zero, List.set_cons_succ]
  refine wpAnyH_take (i := 3) (v := ?_) rfl (by kernel_rfl) (by kernel_rfl) (by kernel_rfl) (fun _ _ _ h => h) (Or.inl ⟨by rfl, ?_⟩) hS ?_
  rotate_left
  · intro w hw
    go_simp
    try with_reducible rfl
  try simp only [Act.put, List.getElem_toArray, List.getElem_cons_succ, List.getElem_cons_zero, List.setIfInBounds_toArray, List.set_cons_zero, List.set_cons_succ]
  refine wpAnyH_take (i := 7) (v := ?_) rfl (by kernel_rfl) (by kernel_rfl) (by kernel_rfl) (fun _ _ _ h => h) (Or.inl ⟨by rfl, ?_⟩) hS ?_
  rotate_left
  · intro w hw
    go_simp
    try with_reducible rfl
  try simp only [Act.put, List.getElem_toArray, List.getElem_cons_succ, List.getElem_cons_zero, List.setIfInBounds_toArray, List.set_cons_zero, List.set_cons_succ]
  refine wpAnyH_take (i := 8) (v := ?_) rfl (by kernel_rfl) (by kernel_rfl) (by kernel_rfl) (fun _ _ _ h => h) (Or.inl ⟨by rfl, ?_⟩) hS ?_
  rotate_left
  · intro w hw
    go_simp
    try with_reducible rfl
  try simp only [Act.put, List.getElem_toArray, List.getElem_cons_succ, List.getElem_cons_zero, List.setIfInBounds_toArray, List.set_cons_zero, List.set_cons_succ]
  refine wpAnyH_take (i := 9) (v := ?_) rfl (by kernel_rfl) (by kernel_rfl) (by kernel_rfl) (fun _ _ _ h => h) (Or.inl ⟨by rfl, ?_⟩) hS ?_
  rotate_left
  · intro w hw
    go_simp
    try with_reducible rfl
  try simp only [Act.put, List.getElem_toArray, List.getElem_cons_succ, List.getElem_cons_zero, List.setIfInBounds_toArray, List.set_cons_zero, List.set_cons_succ]
  refine wpAnyH_take (i := 10) (v := ?_) rfl (by kernel_rfl) (by kernel_rfl) (by kernel_rfl) (fun _ _ _ h => h) (Or.inl ⟨by rfl, ?_⟩) hS ?_
  rotate_left
  · intro w hw
    go_simp
    try with_reducible rfl
  try simp only [Act.put, List.getElem_toArray, List.getElem_cons_succ, List.getElem_cons_zero, List.setIfInBounds_toArray, List.set_cons_zero, List.set_cons_succ]
  refine wpAnyH_take (i := 11) (v := ?_) rfl (by kernel_rfl) (by kernel_rfl) (by kernel_rfl) (fun _ _ _ h => h) (Or.inl ⟨by rfl, ?_⟩) hS ?_
  rotate_left
  · intro w hw
    go_simp
    try with_reducible rfl
  try simp only [Act.put, List.getElem_toArray, List.getElem_cons_succ, List.getElem_cons_zero, List.setIfInBounds_toArray, List.set_cons_zero, List.set_cons_succ]
  refine wpAnyH_take (i := 12) (v := ?_) rfl (by kernel_rfl) (by kernel_rfl) (by kernel_rfl) (fun _ _ _ h => h) (Or.inl ⟨by rfl, ?_⟩) hS ?_
  rotate_left
  · intro w hw
    go_simp
    try with_reducible rfl
  try simp only [Act.put, List.getElem_toArray, List.getElem_cons_succ, List.getElem_cons_zero, List.setIfInBounds_toArray, List.set_cons_zero, List.set_cons_succ]
  refine wpAnyH_take (i := 13) (v := ?_) rfl (by kernel_rfl) (by kernel_rfl) (by kernel_rfl) (fun _ _ _ h => h) (Or.inl ⟨by rfl, ?_⟩) hS ?_
  rotate_left
  · intro w hw
    go_simp
    try with_reducible rfl
  try simp only [Act.put, List.getElem_toArray, List.getElem_cons_succ, List.getElem_cons_zero, List.setIfInBounds_toArray, List.set_cons_zero, List.set_cons_succ]
  refine wpAnyH_take (i := 14) (v := ?_) rfl (by kernel_rfl) (by kernel_rfl) (by kernel_rfl) (fun _ _ _ h => h) (Or.inl ⟨by rfl, ?_⟩) hS ?_
  rotate_left
  · intro w hw
    go_simp
    try with_reducible rfl
  try simp only [Act.put, List.getElem_toArray, List.getElem_cons_succ, List.getElem_cons_zero, List.setIfInBounds_toArray, List.set_cons_zero, List.set_cons_succ]
  refine wpAnyH_take (i := 15) (v := ?_) rfl (by kernel_rfl) (by kernel_rfl) (by kernel_rfl) (fun _ _ _ h => h) (Or.inl ⟨by rfl, ?_⟩) hS ?_
  rotate_left
  · intro w hw
    have hc := HCell.out w hw.out
    go_simp
    try with_reducible rfl
  try simp only [Act.put, List.getElem_toArray, List.getElem_cons_succ, List.getElem_cons_zero, List.setIfInBounds_toArray, List.set_cons_zero, List.set_cons_succ]
  refine wpAnyH_take (i := 16) (v := ?_) rfl (by kernel_rfl) (by kernel_rfl) (by kernel_rfl) (fun _ _ _ h => h) (Or.inl ⟨by rfl, ?_⟩) hS ?_
  rotate_left
  · intro w hw
    go_simp
    try with_reducible rfl
  try simp only [Act.put, List.getElem_toArray, List.getElem_cons_succ, List.getElem_cons_zero, List.setIfInBounds_toArray, List.set_cons_zero, List.set_cons_succ]
  refine wpAnyH_take (i := 17) (v := ?_) rfl (by kernel_rfl) (by kernel_rfl) (by kernel_rfl) (fun _ _ _ h => h) (Or.inl ⟨by rfl, ?_⟩) hS ?_
  rotate_left
  · intro w hw
    go_simp
    try with_reducible rfl
  try simp only [Act.put, List.getElem_toArray, List.getElem_cons_succ, List.getElem_cons_zero, List.setIfInBounds_toArray, List.set_cons_zero, List.set_cons_succ]

  clear hs hs0 hs2 eS eT eN HCell HC
  have L0 := Lib.hid ((HL4.out.below hS.out).up hS.out.size)
  have T0 := Lib.hid ((HT.out.below hS.out).up hS.out.size)
  have HW0 := Lib.hid (HW4.out.trans (hS.out.mono HW4.out.size))
  generalize W4.drew = w0 at hS L0 T0 HW0 ⊢
  refine wpAnyH_ready (rs := [2, 4]) (by kernel_rfl) (by simp) ?_
  refine AllReadyH.cons rfl (fun K hK => ?_) (AllReadyH.cons rfl (fun K hK => ?_) AllReadyH.nil)
  · obtain ⟨A5, c5, W5, hr5, hown5, hb5⟩ := fresh_bytes A ca _ xs w0 L0.out (by omega)
    refine held_append rfl _ _ 23 rfl rfl rfl hr5 ?_
    refine hK.out _ _ (Lib.hid (hS.out.trans (hb5.mono hS.out.size))) (fun hS5 => ?_)
    try simp only [Act.put, List.getElem_toArray, List.getElem_cons_succ, List.getElem_cons_zero, List.setIfInBounds_toArray, List.set_cons_zero, List.set_cons_succ]
    clear hr5 hK K
    refine wpAnyH_ready (rs := [4]) (by kernel_rfl) (by simp) ?_
    refine AllReadyH.cons rfl (fun K hK => ?_) AllReadyH.nil
    go_simp
    refine hK.out _ _ (Lib.hid (hS5.out.trans ((((Below.refl _ _).alloc (Nat.le_refl _) _)).mono hS5.out.size))) (fun _ => ?_)
    clear hK K
    obtain ⟨v6, W6, hr6, hown6, hb6, hs6⟩ := run_append_one (P := Try.prog) (u := vb cc) 23 23 5 (.int .u8 0) 1 Try.underlying23 (by kernel_rfl) rfl rfl hown5 (by unfold maxLen; omega) (by omega) hb5.size
    have hb06 : Below w0.heap.size w0 W6 := hb5.trans hb6
    refine wpAnyH_ready (rs := [5]) (by kernel_rfl) (by simp) ?_
    refine AllReadyH.cons rfl (fun K hK => ?_) AllReadyH.nil
    refine held_append rfl _ _ 23 rfl rfl rfl hr6 ?_
    refine hK.out _ _ (Lib.hid (hS.out.trans (hb06.mono hS.out.size))) (fun hS6 => ?_)
    try simp only [Act.put, List.getElem_toArray, List.getElem_cons_succ, List.getElem_cons_zero, List.setIfInBounds_toArray, List.set_cons_zero, List.set_cons_succ]
    clear hr6 hK K
    rw [show xs.map vb ++ [vb cc] = (xs ++ [cc]).map vb by simp] at hown6
    obtain ⟨A6, c6, rfl, hc6, hm6, hl6⟩ := own_parts hown6
    have hs7 := sum_by_tab (some ad) A6 c1 c6 _ (xs ++ [cc]) W6 hc1 ((T0.out.below hb06).up hb06.size) hl6 (by simpa using hc6) (by simp; unfold maxLen; omega) (by
      intro y hy
      rcases List.mem_append.1 hy with h | h
      · exact X8.out y h
      · simp at h; omega)
    rw [show (xs ++ [cc]).length = xs.length + 1 by simp] at hs7
    have HS7 := Lib.hid hs7
    have HWE := Lib.hid (HW0.out.trans (hb06.mono HW0.out.size))
    clear hs7 hl6 hown6 hb6
    refine wpAnyH_ready (rs := [6]) (by kernel_rfl) (by simp) ?_
    refine AllReadyH.cons rfl (fun K hK => ?_) AllReadyH.nil
    go_simp
    refine HS7.out.mono ?_; rintro e w' ⟨rfl, rfl⟩
    refine hK.out _ _ hS6 (fun hS => ?_)
    clear hK K
    try simp only [Act.put, List.getElem_toArray, List.getElem_cons_succ, List.getElem_cons_zero, List.setIfInBounds_toArray, List.set_cons_zero, List.set_cons_succ]
    refine wpAnyH_take (i := 18) (v := ?_) rfl (by kernel_rfl) (by kernel_rfl) (by kernel_rfl) (fun _ _ _ h => h) (Or.inl ⟨by rfl, ?_⟩) hS ?_
    rotate_left
    · intro w hw
      go_simp
      try with_reducible rfl
    try simp only [Act.put, List.getElem_toArray, List.getElem_cons_succ, List.getElem_cons_zero, List.setIfInBounds_toArray, List.set_cons_zero, List.set_cons_succ]
    refine wpAnyH_take (i := 19) (v := ?_) rfl (by kernel_rfl) (by kernel_rfl) (by kernel_rfl) (fun _ _ _ h => h) (Or.inl ⟨by rfl, ?_⟩) hS ?_
    rotate_left
    · intro w hw
      go_simp
      try with_reducible rfl
    try simp only [Act.put, List.getElem_toArray, List.getElem_cons_succ, List.getElem_cons_zero, List.setIfInBounds_toArray, List.set_cons_zero, List.set_cons_succ]
    refine wpAnyH_done (by kernel_rfl) ?_ _
    go_wp2_with fail
    go_ret
    exact ⟨rfl, HWE.out⟩
  · go_simp
    have hba : Below w0.heap.size w0 (w0.alloc (.cells #[vb cc] 5)) := (Below.refl _ _).alloc (Nat.le_refl _) _
    have hcell : Lies (w0.alloc (.cells #[vb cc] 5)) (w0.alloc (.cells #[vb cc] 5)).heap.size (some ⟨w0.heap.size, 0, none⟩) [vb cc] :=
      .inr ⟨_, rfl, by simp, fun j u hj => by
        rcases j with _ | j
        · simp at hj; subst hj
          exact World.cell?_alloc_new w0 #[vb cc] _ 0
        · simp at hj⟩
    refine hK.out _ _ (Lib.hid (hS.out.trans (hba.mono hS.out.size))) (fun hS5 => ?_)
    clear hK K
    have L5 := Lib.hid ((L0.out.below hba).up hba.size)
    have HBA := Lib.hid hba
    have HC5 := Lib.hid hcell
    clear hba hcell
    have hg : w0.heap.size = (w0.alloc (.cells #[vb cc] 5)).heap.size - 1 := by simp
    generalize (w0.alloc (.cells #[vb cc] 5)) = w5 at hS5 L5 HBA HC5 hg ⊢
    have HG := Lib.hid hg
    clear hg
    refine wpAnyH_ready (rs := [2]) (by kernel_rfl) (by simp) ?_
    refine AllReadyH.cons rfl (fun K hK => ?_) AllReadyH.nil
    obtain ⟨A5, c5, W5, hr5, hown5, hb5⟩ := fresh_bytes A ca _ xs w5 L5.out (by omega)
    refine held_append rfl _ _ 23 rfl rfl rfl hr5 ?_
    refine hK.out _ _ (Lib.hid (hS5.out.trans (hb5.mono hS5.out.size))) (fun hS6 => ?_)
    try simp only [Act.put, List.getElem_toArray, List.getElem_cons_succ, List.getElem_cons_zero, List.setIfInBounds_toArray, List.set_cons_zero, List.set_cons_succ]
    clear hr5 hK K
    obtain ⟨v6, W6, hr6, hown6, hb6, hs6⟩ := run_append_lies (P := Try.prog) (m := 1) (c := 1) 23 23 5 (.int .u8 0) 1 1 Try.underlying23 (by kernel_rfl) rfl (by decide) (fun u hu => by simp at hu; subst hu; rfl) hown5 (HC5.out.below hb5) rfl (by unfold maxLen; omega) (by omega) hb5.size
    have hb06 : Below w0.heap.size w0 W6 := HBA.out.trans ((hb5.trans hb6).mono HBA.out.size)
    refine wpAnyH_ready (rs := [5]) (by kernel_rfl) (by simp) ?_
    refine AllReadyH.cons rfl (fun K hK => ?_) AllReadyH.nil
    refine held_append rfl _ _ 23 rfl rfl rfl hr6 ?_
    refine hK.out _ _ (Lib.hid (hS.out.trans (hb06.mono hS.out.size))) (fun hS6 => ?_)
    try simp only [Act.put, List.getElem_toArray, List.getElem_cons_succ, List.getElem_cons_zero, List.setIfInBounds_toArray, List.set_cons_zero, List.set_cons_succ]
    clear hr6 hK K
    rw [show xs.map vb ++ [vb cc] = (xs ++ [cc]).map vb by simp] at hown6
    obtain ⟨A6, c6, rfl, hc6, hm6, hl6⟩ := own_parts hown6
    have hs7 := sum_by_tab (some ad) A6 c1 c6 _ (xs ++ [cc]) W6 hc1 ((T0.out.below hb06).up hb06.size) hl6 (by simpa using hc6) (by simp; unfold maxLen; omega) (by
      intro y hy
      rcases List.mem_append.1 hy with h | h
      · exact X8.out y h
      · simp at h; omega)
    rw [show (xs ++ [cc]).length = xs.length + 1 by simp] at hs7
    have HS7 := Lib.hid hs7
    have HWE := Lib.hid (HW0.out.trans (hb06.mono HW0.out.size))
    clear hs7 hl6 hown6 hb6
    refine wpAnyH_ready (rs := [6]) (by kernel_rfl) (by simp) ?_
    refine AllReadyH.cons rfl (fun K hK => ?_) AllReadyH.nil
    go_simp
    refine HS7.out.mono ?_; rintro e w' ⟨rfl, rfl⟩
    refine hK.out _ _ hS6 (fun hS => ?_)
    clear hK K
    try simp only [Act.put, List.getElem_toArray, List.getElem_cons_succ, List.getElem_cons_zero, List.setIfInBounds_toArray, List.set_cons_zero, List.set_cons_succ]
    refine wpAnyH_take (i := 18) (v := ?_) rfl (by kernel_rfl) (by kernel_rfl) (by kernel_rfl) (fun _ _ _ h => h) (Or.inl ⟨by rfl, ?_⟩) hS ?_
    rotate_left
    · intro w hw
      go_simp
      try with_reducible rfl
    try simp only [Act.put, List.getElem_toArray, List.getElem_cons_succ, List.getElem_cons_zero, List.setIfInBounds_toArray, List.set_cons_zero, List.set_cons_succ]
    refine wpAnyH_take (i := 19) (v := ?_) rfl (by kernel_rfl) (by kernel_rfl) (by kernel_rfl) (fun _ _ _ h => h) (Or.inl ⟨by rfl, ?_⟩) hS ?_
    rotate_left
    · intro w hw
      go_simp
      try with_reducible rfl
    try simp only [Act.put, List.getElem_toArray, List.getElem_cons_succ, List.getElem_cons_zero, List.setIfInBounds_toArray, List.set_cons_zero, List.set_cons_succ]
    refine wpAnyH_done (by kernel_rfl) ?_ _
    go_wp2_with fail
    go_ret
    exact ⟨rfl, HWE.out⟩

theorem walk_out (A : Option Addr) (ca n : Nat) (c : Int) (W : World) (h : 300 < n) :
    Calls Try.prog 7 #[.slice A n ca, .int .u8 c] W (Yes W) := by
  go_enter Try.func7, Try.ntmps7
  go_wp2_with fail
  refine (alive_any _).mono ?_; rintro e W1 ⟨rfl, hb1⟩
  have HW1 := Lib.hid hb1
  clear hb1
  go_wp2_with fail
  go_ret
  exact ⟨rfl, HW1.out⟩

set_option maxRecDepth 100000 in
theorem lifted (os : Os) (started : os.Started) (H : Type) (enc : TypeId × Value → H) :
    ReturnsInHanded {} Try.checked os 7 .any (Rows.crcPartsSpec.pre6 enc Try.prog Try.f7 Rows.crcPartsRow.domain false) (Rows.crcPartsSpec.post enc Try.prog Try.f7 false true false false) := by
  refine lift_true (C := Try.checked) own started (by kernel_rfl) Try.func7
    (ChangeSpec.witness6 (enc := enc) (C := Try.checked) false ⟨#[], #[.slice none 0 0, .int .u8 0], []⟩ 8 (by kernel_rfl) (by kernel_rfl) (by kernel_rfl) (by kernel_rfl))
    (by kernel_rfl) (by kernel_rfl) (by kernel_rfl) Try.underlying4 rfl ?_ ?_
  · intro ds hds
    match ds, hds with
    | [d1, d2], _ => exact ⟨rfl, rfl, rfl⟩
  · intro W base args ds p hval0 hA0 hlt _
    have hval : ∀ (j : Nat) t v, Try.f7.params[j]? = some t → args[j]? = some v → Value.okWide Try.prog W .any base t v := hval0
    have hA : DataW.TrodAll enc Try.prog W 0 (fun _ => true) true Try.f7.params.toList args.toList ds p := hA0
    rw [Try.params7] at hA hval
    obtain ⟨v0, vs0, d0, ds0, p0, q0, hargs, rfl, rfl, h0, r0⟩ := trodAll_cons hA
    obtain ⟨v1, vs1, d1, ds1, p1, q1, rfl, rfl, rfl, h1, r1⟩ := trodAll_cons r0
    obtain ⟨rfl, rfl, rfl⟩ := trodAll_nil r1
    obtain rfl : args = #[v0, v1] := by cases args; simp_all
    obtain ⟨A0, c0, zs0, rfl, hc0, hm0, hl0, hw0⟩ := open_nums Try.underlying23 Try.underlying5 (by kernel_rfl) (hval 0 _ v0 rfl rfl) h0 (fun x hx => hlt x (by simp [hx]))
    obtain ⟨bs0, rfl, hz0⟩ := as_nat zs0 fun n hn => (u8_of (hw0 n hn)).1
    have hbs0 := fun b hb => (u8_of (hw0 _ (hz0 b hb))).2
    rw [List.length_map] at hc0 ⊢
    rw [List.map_map] at hl0
    obtain ⟨a1, rfl, rfl, rfl, w1⟩ := open_int Try.underlying5 (hval 1 _ v1 rfl rfl) h1
    have b1 := u8_of w1
    by_cases h : 300 < bs0.length
    · exact walk_out A0 c0 _ a1 W h
    · obtain ⟨c, rfl⟩ := Int.eq_ofNat_of_zero_le b1.1
      exact walk A0 c0 c bs0 W hl0 hc0 (fun x hx => by have := hbs0 x hx; omega) (by omega) (by omega)

theorem over : Rows.crcPartsRow.holds Try.pinned (OpenSpec.ofChange Rows.crcPartsSpec) :=
  OpenClaim.holds_of_wide 7 Try.f7 rfl rfl rfl rfl rfl rfl rfl ⟨rfl, rfl, rfl, rfl, rfl⟩ rfl rfl rfl rfl rfl (by kernel_rfl) Try.func7 (by kernel_rfl)
    (of_decide_eq_true (by kernel_rfl)) (by unfold Func.isWrapper; first | (rw [if_pos (by decide +kernel)]; kernel_rfl) | (rw [if_neg (by decide +kernel)]; exact ⟨rfl, rfl⟩))
    (fun os started H enc _ => lifted os started H enc)

theorem proved : Rows.CrcPartsSaid :=
  over
#print axioms proved
end Go.Proofs.Ytalmaooakgfllaa.crcParts
