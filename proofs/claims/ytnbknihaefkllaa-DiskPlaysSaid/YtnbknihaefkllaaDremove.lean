/- What Remove of package disk answers. -/
import Derived.Test.YtnbknihaefkllaaRmisc
namespace Go.Proofs.Ytnbknihaefkllaa.Dk
set_option linter.unusedVariables false
set_option linter.unusedSimpArgs false
open Go.RowKit Go.Maps Lift Ik

section
variable {w w' : World} {g : Nat} {S S' T : Nat → Prop} {m : MS} {fs : List Fi} {M : Option Nat} {A : Option Addr} {c : Nat}
set_option maxRecDepth 100000 in
set_option maxHeartbeats 1600000 in
theorem remove_any (nm : ByteArray) (h : At w g S m) (hf : m.failed ≤ 1000000) : Calls Try.prog (21) #[.pointer (some ⟨g, 0, none⟩), .string nm] w (Told w g S (Rk.removeM m nm)) := by
  obtain ⟨fs, M, A, c, h⟩ := h
  have HF := Lib.hid (find1 nm h hf)
  have HT := Lib.hid h.told
  have HS := Lib.hid h.sg
  clear h
  go_enter Try.func21, Try.ntmps21
  go_wp2_with fail
  refine HF.out.mono ?_
  rintro e W1 ⟨A1, c1, hk1, hL1, hc⟩
  have HK := Lib.hid hk1
  have HFS2 : Hid ((hit m).2.fs = m.fs) := Lib.hid (hit_fs m).1
  rcases hc with ⟨f, hlk, hb0, rfl⟩ | ⟨hne, rfl⟩
  · obtain ⟨hm, hnm⟩ := look_mem hlk
    have hfr : nm.size ≤ 40 := (bad_zero hb0).2 nm (by simp)
    have E : Hid (Rk.removeM m nm = (0, { (hit m).2 with fs := delM m.fs nm })) := Lib.hid (onFile_yes HT.out hb0 hlk)
    have hgt : Dk.get (hit m).2.fs nm = some f.m := by rw [HFS2.out, HT.out, look_get, hlk]; rfl
    have hud := used_del (nm := nm) (show (hit m).2.fs.Pairwise _ by rw [hL1.told]; exact names_apart hL1.files.sep)
    rw [hgt] at hud
    have HUM : Hid (used (delM (hit m).2.fs nm) + f.bs.length = used (hit m).2.fs) := Lib.hid hud
    obtain ⟨b, rfl, hsb, hown⟩ : ∃ b, M = some b ∧ S b ∧ W1.ownsMap Try.prog 9 ptrR b fs.length (.map (fs.map ent)) := by
      rcases hL1.files.map with ⟨_, h0⟩ | h1
      · rw [h0] at hm; simp at hm
      · exact h1
    have HGB : Hid (¬ g = b) := Lib.hid fun e => by
      obtain ⟨es, clock, hh, _⟩ := hown
      have h1 := hL1.box
      unfold Box at h1
      rw [e, hh] at h1
      cases h1
    have hmany : fs.length ≤ 1000 := by have := hL1.many; rw [hL1.told, List.length_map] at this; exact this
    have hok := hL1.files.ok f hm
    have n1 := (hL1.files.head_apart hL1.box f hm).1
    have rx := hok.box
    obtain ⟨Ar, cr, hv, _, _, _⟩ := own_parts hok.own
    have hrl := hok.len
    rw [hv] at rx
    obtain ⟨nr, hnr⟩ : ∃ nr, nr = f.bs.length := ⟨_, rfl⟩
    obtain ⟨br, hbr⟩ : ∃ br, br = f.blk := ⟨_, rfl⟩
    rw [← hnr] at rx HUM hrl
    rw [← hbr] at rx n1 ⊢
    have RX := Lib.hid rx
    have RG : Hid (¬ br = g) := Lib.hid fun e => n1 (.inl e)
    obtain ⟨R, hR⟩ : ∃ R, R = (hit m).2.room := ⟨_, rfl⟩
    obtain ⟨U, hU⟩ : ∃ U, U = used (hit m).2.fs := ⟨_, rfl⟩
    obtain ⟨q1, hq1⟩ : ∃ q1, q1 = (hit m).2.armed.length := ⟨_, rfl⟩
    obtain ⟨q2, hq2⟩ : ∃ q2, q2 = (hit m).2.failed := ⟨_, rfl⟩
    have BX1 : Hid (Box W1 g Ty.disk [.int .i64 (R : Int), .int .i64 (U : Int), .map (some b), .slice A1 q1 c1, .int .i64 (q2 : Int)]) := Lib.hid (by rw [hR, hU, hq1, hq2]; exact hL1.box)
    have hU2 : U ≤ 16777216000 := by rw [hU]; exact hL1.used_le
    have hnU : nr ≤ U := by have h1 := HUM.out; omega
    have hsub : (U : Int) - (nr : Int) = ((U - nr : Nat) : Int) := by omega
    have hsw : IntKind.i64.wrap ((U - nr : Nat) : Int) = ((U - nr : Nat) : Int) := by rw [IntKind.wrap_i64]; omega
    have hk12 : Keep (fun j => j = g) W1 ((W1.setCell ⟨g, 1, none⟩ (.int .i64 ((U - nr : Nat) : Int))).drew) := ((Keep.refl (fun j => j = g) W1).setCell (p := ⟨g, 1, none⟩) (.inr rfl) _).drew
    have bx2 : Box ((W1.setCell ⟨g, 1, none⟩ (.int .i64 ((U - nr : Nat) : Int))).drew) g Ty.disk [.int .i64 (R : Int), .int .i64 ((U - nr : Nat) : Int), .map (some b), .slice A1 q1 c1, .int .i64 (q2 : Int)] := Box.set (w := W1) (us := [.int .i64 (R : Int), .int .i64 (U : Int), .map (some b), .slice A1 q1 c1, .int .i64 (q2 : Int)]) BX1.out 1 _
    obtain ⟨W3, hr3, ho3, hk3⟩ := drop_run (ty := 0) (map_keep hown hk12 fun e => HGB.out e.symm) hfr
    have HL := Lib.hid hL1
    have HSB := Lib.hid hsb
    have HO3 := Lib.hid ho3
    have HK13 : Hid (Keep (Hd g (some b)) W1 W3) := Lib.hid ((hk12.mono (T := Hd g (some b)) fun k hk => .inl hk).trans (T := fun k => k = b) hk3 fun _ _ e => .inr (by rw [e]))
    have BX3 := Lib.hid (bx2.keep hk3 HGB.out)
    have s2 : ((W1.setCell ⟨g, 1, none⟩ (.int .i64 ((U - nr : Nat) : Int))).drew).cell? ⟨g, 2, none⟩ = some (.map (some b)) := bx2.cell 2
    have HRR := Lib.hid hR
    have HUU := Lib.hid hU
    have HQ1 := Lib.hid hq1
    have HQ2 := Lib.hid hq2
    clear hk1 hL1 HF hlk hb0 hm hnm hgt hud hown hok n1 rx hv hnr hbr hR hU hq1 hq2 hk12 bx2 ho3 hk3 hsb
    go_wp2_with fail
    refine wp_region_held_drew (S := fun w' => Hid (Keep (fun j => j = g) W1 w')) (by kernel_rfl) (Lib.hid (Keep.refl _ _).drew) (fun hS => ?_)
    refine wpAnyH_take (i := 0) (v := ?_) rfl (by kernel_rfl) (by kernel_rfl) (by kernel_rfl) (fun _ _ _ h => h) (Or.inl ⟨by rfl, ?_⟩) hS ?_
    rotate_left
    · intro w hw
      go_simp
      try with_reducible rfl
    try simp only [Act.put, List.getElem_toArray, List.getElem_cons_succ, List.getElem_cons_zero, List.setIfInBounds_toArray, List.set_cons_zero, List.set_cons_succ]
    refine wpAnyH_take (i := 1) (v := ?_) rfl (by kernel_rfl) (by kernel_rfl) (by kernel_rfl) (fun _ _ _ h => h) (Or.inl ⟨by rfl, ?_⟩) hS ?_
    rotate_left
    · intro w hw
      go_simp
      try with_reducible rfl
    try simp only [Act.put, List.getElem_toArray, List.getElem_cons_succ, List.getElem_cons_zero, List.setIfInBounds_toArray, List.set_cons_zero, List.set_cons_succ]
    refine wpAnyH_take (i := 2) (v := ?_) rfl (by kernel_rfl) (by kernel_rfl) (by kernel_rfl) (fun _ _ _ h => h) (Or.inl ⟨by rfl, ?_⟩) hS ?_
    rotate_left
    · intro w hw
      go_simp
      try with_reducible rfl
    try simp only [Act.put, List.getElem_toArray, List.getElem_cons_succ, List.getElem_cons_zero, List.setIfInBounds_toArray, List.set_cons_zero, List.set_cons_succ]
    refine wpAnyH_take (i := 4) (v := ?_) rfl (by kernel_rfl) (by kernel_rfl) (by kernel_rfl) (fun _ _ _ h => h) (Or.inl ⟨by rfl, ?_⟩) hS ?_
    rotate_left
    · intro w hw
      go_simp
      try with_reducible rfl
    try simp only [Act.put, List.getElem_toArray, List.getElem_cons_succ, List.getElem_cons_zero, List.setIfInBounds_toArray, List.set_cons_zero, List.set_cons_succ]
    refine wpAnyH_take (i := 5) (v := ?_) rfl (by kernel_rfl) (by kernel_rfl) (by kernel_rfl) (fun _ _ _ h => h) (Or.inl ⟨by rfl, ?_⟩) hS ?_
    rotate_left
    · intro w hw
      go_simp
      try with_reducible rfl
    try simp only [Act.put, List.getElem_toArray, List.getElem_cons_succ, List.getElem_cons_zero, List.setIfInBounds_toArray, List.set_cons_zero, List.set_cons_succ]
    refine wpAnyH_take (i := 6) (v := ?_) rfl (by kernel_rfl) (by kernel_rfl) (by kernel_rfl) (fun _ _ _ h => h) (Or.inl ⟨by rfl, ?_⟩) hS ?_
    rotate_left
    · intro w hw
      go_simp
      try with_reducible rfl
    try simp only [Act.put, List.getElem_toArray, List.getElem_cons_succ, List.getElem_cons_zero, List.setIfInBounds_toArray, List.set_cons_zero, List.set_cons_succ]
    refine wpAnyH_take (i := 7) (v := ?_) rfl (by kernel_rfl) (by kernel_rfl) (by kernel_rfl) (fun _ _ _ h => h) (Or.inl ⟨by rfl, ?_⟩) hS ?_
    rotate_left
    · intro w hw
      have q0 : w.cell? ⟨br, 0, none⟩ = some (.slice Ar nr cr) := (RX.out.keep hw.out RG.out).cell 0
      go_simp
      try with_reducible rfl
    try simp only [Act.put, List.getElem_toArray, List.getElem_cons_succ, List.getElem_cons_zero, List.setIfInBounds_toArray, List.set_cons_zero, List.set_cons_succ]
    refine wpAnyH_take (i := 8) (v := ?_) rfl (by kernel_rfl) (by kernel_rfl) (by kernel_rfl) (fun _ _ _ h => h) (Or.inl ⟨by rfl, ?_⟩) hS ?_
    rotate_left
    · intro w hw
      go_simp
      try with_reducible rfl
    try simp only [Act.put, List.getElem_toArray, List.getElem_cons_succ, List.getElem_cons_zero, List.setIfInBounds_toArray, List.set_cons_zero, List.set_cons_succ]
    refine wpAnyH_ready (rs := [3]) (by kernel_rfl) (by simp) ?_
    refine AllReadyH.cons rfl (fun K hK => ?_) AllReadyH.nil
    have q1 : W1.cell? ⟨g, 1, none⟩ = some (.int .i64 (U : Int)) := BX1.out.cell 1
    go_simp
    refine hK.out _ _ hS (fun hS => ?_)
    clear hK K q1
    try simp only [Act.put, List.getElem_toArray, List.getElem_cons_succ, List.getElem_cons_zero, List.setIfInBounds_toArray, List.set_cons_zero, List.set_cons_succ]
    refine wpAnyH_take (i := 9) (v := ?_) rfl (by kernel_rfl) (by kernel_rfl) (by kernel_rfl) (fun _ _ _ h => h) (Or.inl ⟨by rfl, ?_⟩) hS ?_
    rotate_left
    · intro w hw
      go_simp
      try with_reducible rfl
    try simp only [Act.put, List.getElem_toArray, List.getElem_cons_succ, List.getElem_cons_zero, List.setIfInBounds_toArray, List.set_cons_zero, List.set_cons_succ]
    refine wpAnyH_take (i := 10) (v := ?_) rfl (by kernel_rfl) (by kernel_rfl) (by kernel_rfl) (fun _ _ _ h => h) (Or.inl ⟨by rfl, ?_⟩) hS ?_
    rotate_left
    · intro w hw
      go_simp
      try with_reducible rfl
    try simp only [Act.put, List.getElem_toArray, List.getElem_cons_succ, List.getElem_cons_zero, List.setIfInBounds_toArray, List.set_cons_zero, List.set_cons_succ]
    refine wpAnyH_take (i := 11) (v := ?_) rfl (by kernel_rfl) (by kernel_rfl) (by kernel_rfl) (fun _ _ _ h => h) (Or.inl ⟨by rfl, ?_⟩) hS ?_
    rotate_left
    · intro w hw
      go_simp
      try with_reducible rfl
    try simp only [Act.put, List.getElem_toArray, List.getElem_cons_succ, List.getElem_cons_zero, List.setIfInBounds_toArray, List.set_cons_zero, List.set_cons_succ]
    refine wpAnyH_ready (rs := [12]) (by kernel_rfl) (by simp) ?_
    refine AllReadyH.cons rfl (fun K hK => ?_) AllReadyH.nil
    have z1 := BX1.out.free 1
    have q2 : W1.cell? ⟨g, 1, none⟩ = some (.int .i64 (U : Int)) := BX1.out.cell 1
    go_simp
    refine hK.out _ _ (Lib.hid ((Keep.refl (fun j => j = g) W1).drew.setCell (p := ⟨g, 1, none⟩) (.inr rfl) _)) (fun hS => ?_)
    clear hK K z1 q2
    try simp only [Act.put, List.getElem_toArray, List.getElem_cons_succ, List.getElem_cons_zero, List.setIfInBounds_toArray, List.set_cons_zero, List.set_cons_succ]
    refine wpAnyH_done (by kernel_rfl) ?_ _
    go_wp2_with fail
    go_ret
    have hu := HUM.out
    have hUU := HUU.out
    have e : delM (hit m).2.fs nm = (delF fs nm).map Fi.m := by rw [HL.out.told, delF_told]
    have hL3 := HL.out.head HK13.out (fs' := delF fs nm) (fun x hx => ⟨x, (delF_mem.1 hx).1, rfl, rfl, rfl, rfl, (HL.out.files.ok x (delF_mem.1 hx).1).nm⟩) (delF_pair HL.out.files.sep) HO3.out (by have := delF_le fs nm; omega) (by
        have h1 := BX3.out
        rw [← e, show used (delM (hit m).2.fs nm) = U - nr by omega, ← HRR.out, ← HQ1.out, ← HQ2.out]
        exact h1) (by rw [← e]; have := HL.out.fits; omega)
    refine ⟨S, by rw [E.out]; rfl, ?_, (HK.out.mono (T := S) fun k hk => by rw [hk]; exact HS.out).trans HK13.out fun k _ hk => ?_, fun k hk => .inl hk⟩
    · rw [E.out]
      have hA := hL3.toAt
      rw [← e, HFS2.out] at hA
      exact hA
    · rcases hk with e | e
      · rw [e]; exact HS.out
      · cases e; exact HSB.out
  · have E : Hid (Rk.removeM m nm = (gone m [nm] (look fs nm), (hit m).2)) := Lib.hid (onFile_no HT.out hne)
    have d1 : ((gone m [nm] (look fs nm) : Int) != 0) = true := by rw [bne_iff_ne]; omega
    have HL := Lib.hid hL1
    clear hk1 hL1 HF hne
    go_wp2_with fail
    go_ret
    exact ⟨S, by rw [E.out]; rfl, by rw [E.out]; exact HL.out.toAt, HK.out.mono fun k hk => by rw [hk]; exact HS.out, fun k hk => .inl hk⟩
end
end Go.Proofs.Ytnbknihaefkllaa.Dk
