/- What Rename of package disk answers. -/
import Derived.Test.YtnbknihaefkllaaDhead
import Derived.Test.YtnbknihaefkllaaDsync
namespace Go.Proofs.Ytnbknihaefkllaa.Dk
set_option linter.unusedVariables false
set_option linter.unusedSimpArgs false
open Go.RowKit Go.Maps Lift Ik

def moved (l : List FM) (fr to : ByteArray) (f : FM) : List FM := insM ⟨to, f.bs, f.syn⟩ (delM (delM l fr) to)
def renameM (m : MS) (fr to : ByteArray) : Nat × MS := onFile m [fr, to] fr (fun e => (e, (hit m).2)) fun f => (0, { (hit m).2 with fs := moved m.fs fr to f })
def movedF (l : List Fi) (fr to : ByteArray) (f : Fi) : List Fi := insF ⟨to, f.blk, f.v, f.bs, f.syn⟩ (delF (delF l fr) to)
theorem moved_told (l : List Fi) (fr to : ByteArray) (f : Fi) : (movedF l fr to f).map Fi.m = moved (l.map Fi.m) fr to f.m := by
  unfold movedF moved
  rw [insF_told, delF_told, delF_told]
  rfl
theorem insF_le (f : Fi) (l : List Fi) (n : Nat) (h : l.length + 1 ≤ n) : (insF f l).length ≤ n := by rw [insF_length]; exact h
section
variable {w w' : World} {g : Nat} {S S' T : Nat → Prop} {m : MS} {fs : List Fi} {M : Option Nat} {A : Option Addr} {c : Nat}
theorem Lay.took {b : Nat} {f : Fi} {fr to : ByteArray} (h : Lay w g S m fs (some b) A c) (hf : f ∈ fs) (hn : f.nm = fr) (hl : to.size ≤ 40) (hk : Keep (Hd g (some b)) w w')
    (hm : w'.ownsMap Try.prog 9 ptrR b (movedF fs fr to f).length (.map ((movedF fs fr to f).map ent)))
    (hb : Box w' g Ty.disk [.int .i64 (m.room : Int), .int .i64 (used (moved m.fs fr to f.m) : Int), .map (some b), .slice A m.armed.length c, .int .i64 (m.failed : Int)]) (hu : used (moved m.fs fr to f.m) ≤ m.room) :
    Lay w' g S { m with fs := moved m.fs fr to f.m } (movedF fs fr to f) (some b) A c := by
  have e : moved m.fs fr to f.m = (movedF fs fr to f).map Fi.m := by rw [moved_told, ← h.told]
  rw [e] at hb hu ⊢
  have hlt : (delF fs fr).length + 1 ≤ fs.length := by
    have : (delF fs fr).length < fs.length := by
      unfold delF
      exact List.length_filter_lt_length_iff_exists.2 ⟨f, hf, by simp [hn]⟩
    omega
  refine h.head hk (fun x hx => ?_) ?_ hm ?_ hb hu
  · rcases (insF_mem _ _ _).1 hx with rfl | hx
    · exact ⟨f, hf, rfl, rfl, rfl, rfl, hl⟩
    · have := (delF_mem.1 (delF_mem.1 hx).1).1
      exact ⟨x, this, rfl, rfl, rfl, rfl, (h.files.ok x this).nm⟩
  · refine insF_pair (delF_pair (delF_pair h.files.sep)) fun x hx => ?_
    obtain ⟨h1, h2⟩ := delF_mem.1 hx
    obtain ⟨h3, h4⟩ := delF_mem.1 h1
    obtain ⟨s1, _, s3⟩ := sep_of h.files.sep hf h3 (by rw [hn]; exact fun e => h4 e.symm)
    exact ⟨s1, fun e => h2 e.symm, s3⟩
  · have h1 := delF_le (delF fs fr) to
    have h2 := h.many
    rw [h.told, List.length_map] at h2
    exact insF_le _ _ _ (by omega)
theorem used_moved {l : List FM} {fr to : ByteArray} {f : FM} (hp : l.Pairwise fun a b => a.nm ≠ b.nm) (hf : Dk.get l fr = some f) : used (moved l fr to f) + szO (Dk.get (delM l fr) to) = used l := by
  have h1 := used_del (nm := fr) hp
  have h2 := used_del (l := delM l fr) (nm := to) (hp.filter _)
  rw [hf] at h1
  unfold moved
  rw [used_insM]
  have e : (⟨to, f.bs, f.syn⟩ : FM).bs.length = f.bs.length := rfl
  have h1' : used (delM l fr) + f.bs.length = used l := h1
  rw [e]
  omega

set_option maxRecDepth 100000 in
set_option maxHeartbeats 1600000 in
theorem rename_any (fr to : ByteArray) (h : At w g S m) (hf : m.failed ≤ 1000000) : Calls Try.prog (19) #[.pointer (some ⟨g, 0, none⟩), .string fr, .string to] w (Told w g S (renameM m fr to)) := by
  obtain ⟨fs, M, A, c, h⟩ := h
  have HF := Lib.hid (find2 fr to h hf)
  have HT := Lib.hid h.told
  have HS := Lib.hid h.sg
  clear h
  go_enter Try.func19, Try.ntmps19
  go_wp2_with fail
  refine HF.out.mono ?_
  rintro e W1 ⟨A1, c1, hk1, hL1, hc⟩
  have HK := Lib.hid hk1
  have HFS2 : Hid ((hit m).2.fs = m.fs) := Lib.hid (hit_fs m).1
  rcases hc with ⟨f, hlk, hb0, rfl⟩ | ⟨hne, rfl⟩
  · obtain ⟨hm, hnm⟩ := look_mem hlk
    have hfr : fr.size ≤ 40 := (bad_zero hb0).2 fr (by simp)
    have hto : to.size ≤ 40 := (bad_zero hb0).2 to (by simp)
    have E : Hid (renameM m fr to = (0, { (hit m).2 with fs := moved m.fs fr to f.m })) := Lib.hid (onFile_yes HT.out hb0 hlk)
    have hgt : Dk.get (hit m).2.fs fr = some f.m := by rw [HFS2.out, HT.out, look_get, hlk]; rfl
    have HUM : Hid (used (moved (hit m).2.fs fr to f.m) + szO (Dk.get (delM (hit m).2.fs fr) to) = used (hit m).2.fs) :=
      Lib.hid (used_moved (by rw [hL1.told]; exact names_apart hL1.files.sep) hgt)
    have hgd : Dk.get (delM (hit m).2.fs fr) to = (look (delF fs fr) to).map Fi.m := by rw [hL1.told, ← delF_told, look_get]
    obtain ⟨b, rfl, hsb, hown⟩ : ∃ b, M = some b ∧ S b ∧ W1.ownsMap Try.prog 9 ptrR b fs.length (.map (fs.map ent)) := by
      rcases hL1.files.map with ⟨_, h0⟩ | h1
      · rw [h0] at hm; simp at hm
      · exact h1
    have HGB : Hid (¬ g = b) := Lib.hid fun e => by
      obtain ⟨es, clock, hh, _⟩ := hown
      have h1 := hL1.box
      unfold Box at h1
      rw [e, hh] at h1
      cases h1
    obtain ⟨W2, hr2, ho2, hk2⟩ := drop_run (ty := 0) hown hfr
    have hlk2 := look_own ho2 to hto
    have hmany : fs.length ≤ 1000 := by have := hL1.many; rw [hL1.told, List.length_map] at this; exact this
    have hdl := delF_le fs fr
    obtain ⟨R, hR⟩ : ∃ R, R = (hit m).2.room := ⟨_, rfl⟩
    obtain ⟨U, hU⟩ : ∃ U, U = used (hit m).2.fs := ⟨_, rfl⟩
    obtain ⟨q1, hq1⟩ : ∃ q1, q1 = (hit m).2.armed.length := ⟨_, rfl⟩
    obtain ⟨q2, hq2⟩ : ∃ q2, q2 = (hit m).2.failed := ⟨_, rfl⟩
    have bx1 : Box W1 g Ty.disk [.int .i64 (R : Int), .int .i64 (U : Int), .map (some b), .slice A1 q1 c1, .int .i64 (q2 : Int)] := by rw [hR, hU, hq1, hq2]; exact hL1.box
    have bx2 := bx1.keep hk2 HGB.out
    have p2 : W1.cell? ⟨g, 2, none⟩ = some (.map (some b)) := bx1.cell 2
    have s2 : W2.cell? ⟨g, 2, none⟩ = some (.map (some b)) := bx2.cell 2
    have hU2 : U ≤ 16777216000 := by rw [hU]; exact hL1.used_le
    obtain ⟨b0, hb0e⟩ : ∃ b0, b0 = f.blk := ⟨_, rfl⟩
    rw [← hb0e]
    have HL := Lib.hid hL1
    have HM := Lib.hid hm
    have HNM := Lib.hid hnm
    have HSB := Lib.hid hsb
    have HO2 := Lib.hid ho2
    have HK2 := Lib.hid hk2
    have BX2 := Lib.hid bx2
    have HRR := Lib.hid hR
    have HUU := Lib.hid hU
    have HQ1 := Lib.hid hq1
    have HQ2 := Lib.hid hq2
    have HB0 := Lib.hid hb0e
    clear hk1 hL1 HF hlk hb0 hm hnm hgt hown ho2 hk2 bx1 bx2 hsb hR hU hq1 hq2 hb0e
    rcases hfo : look (delF fs fr) to with _ | r
    · rw [hfo] at hlk2 hgd
      have hlk3 : Sem.run Try.prog (Instr.lookup 42 (.map (some b)) (.string to) false) W2 = .ok (.pointer none) W2 := hlk2
      rw [hgd] at HUM
      have HUM : Hid (used (moved (hit m).2.fs fr to f.m) + 0 = used (hit m).2.fs) := HUM
      clear hlk2 hgd hfo
      have HK4 : Hid (Keep (Hd g (some b)) W1 W2) := Lib.hid (HK2.out.mono fun k hk => .inr (by rw [hk]))
      have HN4 : Hid ((delF fs fr).length ≤ 1000) := Lib.hid (by omega)
      go_wp2_with fail
      have BX4 := BX2
      have HO4 := HO2
      clear BX2 HO2 p2 s2 hlk3
      generalize W2 = W4 at BX4 HO4 HK4 ⊢
      refine wp_region_held_drew (S := fun w' => Hid (Keep (fun j => j = b) W4 w')) (by kernel_rfl) (Lib.hid (Keep.refl _ _).drew) (fun hS => ?_)
      refine wpAnyH_take (i := 0) (v := ?_) rfl (by kernel_rfl) (by kernel_rfl) (by kernel_rfl) (fun _ _ _ h => h) (Or.inl ⟨by rfl, ?_⟩) hS ?_
      rotate_left
      · intro w hw
        go_simp
        try with_reducible rfl
      try simp only [Act.put, List.getElem_toArray, List.getElem_cons_succ, List.getElem_cons_zero, List.setIfInBounds_toArray, List.set_cons_zero, List.set_cons_succ]
      refine wpAnyH_take (i := 1) (v := ?_) rfl (by kernel_rfl) (by kernel_rfl) (by kernel_rfl) (fun _ _ _ h => h) (Or.inl ⟨by rfl, ?_⟩) hS ?_
      rotate_left
      · intro w hw
        go_simp
        try with_reducible rfl
      try simp only [Act.put, List.getElem_toArray, List.getElem_cons_succ, List.getElem_cons_zero, List.setIfInBounds_toArray, List.set_cons_zero, List.set_cons_succ]
      refine wpAnyH_take (i := 2) (v := ?_) rfl (by kernel_rfl) (by kernel_rfl) (by kernel_rfl) (fun _ _ _ h => h) (Or.inl ⟨by rfl, ?_⟩) hS ?_
      rotate_left
      · intro w hw
        go_simp
        try with_reducible rfl
      try simp only [Act.put, List.getElem_toArray, List.getElem_cons_succ, List.getElem_cons_zero, List.setIfInBounds_toArray, List.set_cons_zero, List.set_cons_succ]
      refine wpAnyH_take (i := 3) (v := ?_) rfl (by kernel_rfl) (by kernel_rfl) (by kernel_rfl) (fun _ _ _ h => h) (Or.inl ⟨by rfl, ?_⟩) hS ?_
      rotate_left
      · intro w hw
        have q0 : w.cell? ⟨g, 2, none⟩ = some (.map (some b)) := (BX4.out.keep hw.out HGB.out).cell 2
        go_simp
        try with_reducible rfl
      try simp only [Act.put, List.getElem_toArray, List.getElem_cons_succ, List.getElem_cons_zero, List.setIfInBounds_toArray, List.set_cons_zero, List.set_cons_succ]
      refine wpAnyH_take (i := 4) (v := ?_) rfl (by kernel_rfl) (by kernel_rfl) (by kernel_rfl) (fun _ _ _ h => h) (Or.inl ⟨by rfl, ?_⟩) hS ?_
      rotate_left
      · intro w hw
        go_simp
        try with_reducible rfl
      try simp only [Act.put, List.getElem_toArray, List.getElem_cons_succ, List.getElem_cons_zero, List.setIfInBounds_toArray, List.set_cons_zero, List.set_cons_succ]
      refine wpAnyH_take (i := 6) (v := ?_) rfl (by kernel_rfl) (by kernel_rfl) (by kernel_rfl) (fun _ _ _ h => h) (Or.inl ⟨by rfl, ?_⟩) hS ?_
      rotate_left
      · intro w hw
        go_simp
        try with_reducible rfl
      try simp only [Act.put, List.getElem_toArray, List.getElem_cons_succ, List.getElem_cons_zero, List.setIfInBounds_toArray, List.set_cons_zero, List.set_cons_succ]
      refine wpAnyH_ready (rs := [5]) (by kernel_rfl) (by simp) ?_
      refine AllReadyH.cons rfl (fun K hK => ?_) AllReadyH.nil
      go_simp
      refine (sclone_any to (by omega) W4.drew).mono ?_
      rintro e W5 ⟨rfl, hb5⟩
      have H5 : Hid (Keep (fun j => j = b) W4 W5) := Lib.hid (hS.out.trans (T := fun _ => False) (below_keep hb5) fun _ _ h => h.elim)
      have HQ5 : Hid (Below W4.heap.size W4 W5) := Lib.hid ((Below.refl _ _).drew.trans hb5)
      obtain ⟨W6, hr6, ho6, hk6⟩ := store_run' (blk := b0) (map_keep (T := fun _ => False) HO4.out (below_keep HQ5.out) id) (by have := HN4.out; omega) hto f.v f.bs f.syn
      have H6 : Hid (Keep (fun j => j = b) W4 W6) := Lib.hid (H5.out.trans hk6 fun _ _ h => h)
      have HO6 := Lib.hid ho6
      clear hb5 ho6 hk6
      go_wp2_with fail
      refine hK.out _ _ H5 (fun hS => ?_)
      clear hK K
      try simp only [Act.put, List.getElem_toArray, List.getElem_cons_succ, List.getElem_cons_zero, List.setIfInBounds_toArray, List.set_cons_zero, List.set_cons_succ]
      refine wpAnyH_ready (rs := [7]) (by kernel_rfl) (by simp) ?_
      refine AllReadyH.cons rfl (fun K hK => ?_) AllReadyH.nil
      go_simp
      refine hK.out _ _ H6 (fun hS => ?_)
      clear hK K hr6
      try simp only [Act.put, List.getElem_toArray, List.getElem_cons_succ, List.getElem_cons_zero, List.setIfInBounds_toArray, List.set_cons_zero, List.set_cons_succ]
      refine wpAnyH_done (by kernel_rfl) ?_ _
      go_wp2_with fail
      go_ret
      have hkW : Keep (Hd g (some b)) W1 W6 := HK4.out.trans H6.out fun _ _ e => .inr (by rw [e])
      have hu := HUM.out
      have hUU := HUU.out
      have hL := HL.out.took HM.out HNM.out hto hkW (by
          have := HO6.out
          rw [HB0.out] at this
          exact this) (by
          have h1 := BX4.out.keep H6.out HGB.out
          rw [show used (moved (hit m).2.fs fr to f.m) = U by omega, ← HRR.out, ← HQ1.out, ← HQ2.out]
          exact h1) (by have := HL.out.fits; have := HUU.out; omega)
      refine ⟨S, by rw [E.out]; rfl, ?_, (HK.out.mono (T := S) fun k hk => by rw [hk]; exact HS.out).trans hkW fun k _ hk => ?_, fun k hk => .inl hk⟩
      · rw [E.out]
        have hA := hL.toAt
        rw [HFS2.out] at hA
        exact hA
      · rcases hk with e | e
        · rw [e]; exact HS.out
        · cases e; exact HSB.out
    · rw [hfo] at hlk2 hgd
      obtain ⟨hrm, hrn⟩ := look_mem hfo
      have hrf := (delF_mem.1 hrm).1
      have hok := HL.out.files.ok r hrf
      have hlk3 : Sem.run Try.prog (Instr.lookup 42 (.map (some b)) (.string to) false) W2 = .ok (.pointer (some ⟨r.blk, 0, none⟩)) W2 := hlk2
      rw [hgd] at HUM
      have HUM : Hid (used (moved (hit m).2.fs fr to f.m) + r.bs.length = used (hit m).2.fs) := HUM
      have n1 := (HL.out.files.head_apart HL.out.box r hrf).1
      have rx : Box W2 r.blk Ty.file [r.v, .int .i64 (r.syn : Int)] := hok.box.keep HK2.out fun e => n1 (.inr (by rw [e]))
      obtain ⟨Ar, cr, hv, _, _, _⟩ := own_parts hok.own
      have hrl := hok.len
      rw [hv] at rx
      obtain ⟨nr, hnr⟩ : ∃ nr, nr = r.bs.length := ⟨_, rfl⟩
      obtain ⟨br, hbr⟩ : ∃ br, br = r.blk := ⟨_, rfl⟩
      rw [← hnr] at rx HUM hrl
      rw [← hbr] at rx n1 hlk3
      have RX := Lib.hid rx
      have RG : Hid (¬ br = g) := Lib.hid fun e => n1 (.inl e)
      have hnU : nr ≤ U := by have h1 := HUM.out; have h2 := HUU.out; omega
      have hsub : (U : Int) - (nr : Int) = ((U - nr : Nat) : Int) := by omega
      have hsw : IntKind.i64.wrap ((U - nr : Nat) : Int) = ((U - nr : Nat) : Int) := by rw [IntKind.wrap_i64]; omega
      have HN4 : Hid ((delF fs fr).length ≤ 1000) := Lib.hid (by omega)
      clear hlk2 hgd hfo hrm hrn hrf hok hv hnr hbr rx n1
      go_wp2_with fail
      refine wp_region_held_drew (S := fun w' => Hid (Keep (fun j => j = g) W2 w')) (by kernel_rfl) (Lib.hid (Keep.refl _ _).drew) (fun hS => ?_)
      refine wpAnyH_take (i := 0) (v := ?_) rfl (by kernel_rfl) (by kernel_rfl) (by kernel_rfl) (fun _ _ _ h => h) (Or.inl ⟨by rfl, ?_⟩) hS ?_
      rotate_left
      · intro w hw
        go_simp
        try with_reducible rfl
      try simp only [Act.put, List.getElem_toArray, List.getElem_cons_succ, List.getElem_cons_zero, List.setIfInBounds_toArray, List.set_cons_zero, List.set_cons_succ]
      refine wpAnyH_take (i := 1) (v := ?_) rfl (by kernel_rfl) (by kernel_rfl) (by kernel_rfl) (fun _ _ _ h => h) (Or.inl ⟨by rfl, ?_⟩) hS ?_
      rotate_left
      · intro w hw
        go_simp
        try with_reducible rfl
      try simp only [Act.put, List.getElem_toArray, List.getElem_cons_succ, List.getElem_cons_zero, List.setIfInBounds_toArray, List.set_cons_zero, List.set_cons_succ]
      refine wpAnyH_take (i := 2) (v := ?_) rfl (by kernel_rfl) (by kernel_rfl) (by kernel_rfl) (fun _ _ _ h => h) (Or.inl ⟨by rfl, ?_⟩) hS ?_
      rotate_left
      · intro w hw
        go_simp
        try with_reducible rfl
      try simp only [Act.put, List.getElem_toArray, List.getElem_cons_succ, List.getElem_cons_zero, List.setIfInBounds_toArray, List.set_cons_zero, List.set_cons_succ]
      refine wpAnyH_take (i := 4) (v := ?_) rfl (by kernel_rfl) (by kernel_rfl) (by kernel_rfl) (fun _ _ _ h => h) (Or.inl ⟨by rfl, ?_⟩) hS ?_
      rotate_left
      · intro w hw
        go_simp
        try with_reducible rfl
      try simp only [Act.put, List.getElem_toArray, List.getElem_cons_succ, List.getElem_cons_zero, List.setIfInBounds_toArray, List.set_cons_zero, List.set_cons_succ]
      refine wpAnyH_take (i := 5) (v := ?_) rfl (by kernel_rfl) (by kernel_rfl) (by kernel_rfl) (fun _ _ _ h => h) (Or.inl ⟨by rfl, ?_⟩) hS ?_
      rotate_left
      · intro w hw
        go_simp
        try with_reducible rfl
      try simp only [Act.put, List.getElem_toArray, List.getElem_cons_succ, List.getElem_cons_zero, List.setIfInBounds_toArray, List.set_cons_zero, List.set_cons_succ]
      refine wpAnyH_take (i := 6) (v := ?_) rfl (by kernel_rfl) (by kernel_rfl) (by kernel_rfl) (fun _ _ _ h => h) (Or.inl ⟨by rfl, ?_⟩) hS ?_
      rotate_left
      · intro w hw
        go_simp
        try with_reducible rfl
      try simp only [Act.put, List.getElem_toArray, List.getElem_cons_succ, List.getElem_cons_zero, List.setIfInBounds_toArray, List.set_cons_zero, List.set_cons_succ]
      refine wpAnyH_take (i := 7) (v := ?_) rfl (by kernel_rfl) (by kernel_rfl) (by kernel_rfl) (fun _ _ _ h => h) (Or.inl ⟨by rfl, ?_⟩) hS ?_
      rotate_left
      · intro w hw
        have q0 : w.cell? ⟨br, 0, none⟩ = some (.slice Ar nr cr) := (RX.out.keep hw.out RG.out).cell 0
        go_simp
        try with_reducible rfl
      try simp only [Act.put, List.getElem_toArray, List.getElem_cons_succ, List.getElem_cons_zero, List.setIfInBounds_toArray, List.set_cons_zero, List.set_cons_succ]
      refine wpAnyH_take (i := 8) (v := ?_) rfl (by kernel_rfl) (by kernel_rfl) (by kernel_rfl) (fun _ _ _ h => h) (Or.inl ⟨by rfl, ?_⟩) hS ?_
      rotate_left
      · intro w hw
        go_simp
        try with_reducible rfl
      try simp only [Act.put, List.getElem_toArray, List.getElem_cons_succ, List.getElem_cons_zero, List.setIfInBounds_toArray, List.set_cons_zero, List.set_cons_succ]
      refine wpAnyH_ready (rs := [3]) (by kernel_rfl) (by simp) ?_
      refine AllReadyH.cons rfl (fun K hK => ?_) AllReadyH.nil
      have q1 : W2.cell? ⟨g, 1, none⟩ = some (.int .i64 (U : Int)) := BX2.out.cell 1
      go_simp
      refine hK.out _ _ hS (fun hS => ?_)
      clear hK K q1
      try simp only [Act.put, List.getElem_toArray, List.getElem_cons_succ, List.getElem_cons_zero, List.setIfInBounds_toArray, List.set_cons_zero, List.set_cons_succ]
      refine wpAnyH_take (i := 9) (v := ?_) rfl (by kernel_rfl) (by kernel_rfl) (by kernel_rfl) (fun _ _ _ h => h) (Or.inl ⟨by rfl, ?_⟩) hS ?_
      rotate_left
      · intro w hw
        go_simp
        try with_reducible rfl
      try simp only [Act.put, List.getElem_toArray, List.getElem_cons_succ, List.getElem_cons_zero, List.setIfInBounds_toArray, List.set_cons_zero, List.set_cons_succ]
      refine wpAnyH_take (i := 10) (v := ?_) rfl (by kernel_rfl) (by kernel_rfl) (by kernel_rfl) (fun _ _ _ h => h) (Or.inl ⟨by rfl, ?_⟩) hS ?_
      rotate_left
      · intro w hw
        go_simp
        try with_reducible rfl
      try simp only [Act.put, List.getElem_toArray, List.getElem_cons_succ, List.getElem_cons_zero, List.setIfInBounds_toArray, List.set_cons_zero, List.set_cons_succ]
      refine wpAnyH_take (i := 11) (v := ?_) rfl (by kernel_rfl) (by kernel_rfl) (by kernel_rfl) (fun _ _ _ h => h) (Or.inl ⟨by rfl, ?_⟩) hS ?_
      rotate_left
      · intro w hw
        go_simp
        try with_reducible rfl
      try simp only [Act.put, List.getElem_toArray, List.getElem_cons_succ, List.getElem_cons_zero, List.setIfInBounds_toArray, List.set_cons_zero, List.set_cons_succ]
      refine wpAnyH_ready (rs := [12]) (by kernel_rfl) (by simp) ?_
      refine AllReadyH.cons rfl (fun K hK => ?_) AllReadyH.nil
      have z1 := BX2.out.free 1
      have q2 : W2.cell? ⟨g, 1, none⟩ = some (.int .i64 (U : Int)) := BX2.out.cell 1
      go_simp
      refine hK.out _ _ (Lib.hid ((Keep.refl (fun j => j = g) W2).drew.setCell (p := ⟨g, 1, none⟩) (.inr rfl) _)) (fun hS => ?_)
      clear hK K z1 q2
      try simp only [Act.put, List.getElem_toArray, List.getElem_cons_succ, List.getElem_cons_zero, List.setIfInBounds_toArray, List.set_cons_zero, List.set_cons_succ]
      refine wpAnyH_done (by kernel_rfl) ?_ _
      go_wp2_with fail
      have HK4 : Hid (Keep (Hd g (some b)) W1 (W2.setCell ⟨g, 1, none⟩ (.int .i64 ((U - nr : Nat) : Int))).drew) := Lib.hid ((HK2.out.mono (T := Hd g (some b)) fun k hk => .inr (by rw [hk])).setCell (p := ⟨g, 1, none⟩) (.inr (.inl rfl)) _).drew
      have hk24 : Keep (fun j => j = g) W2 (W2.setCell ⟨g, 1, none⟩ (.int .i64 ((U - nr : Nat) : Int))).drew := ((Keep.refl (fun j => j = g) W2).setCell (p := ⟨g, 1, none⟩) (.inr rfl) _).drew
      have HO4 : Hid ((W2.setCell ⟨g, 1, none⟩ (.int .i64 ((U - nr : Nat) : Int))).drew.ownsMap Try.prog 9 ptrR b (delF fs fr).length (.map ((delF fs fr).map ent))) := Lib.hid (map_keep HO2.out hk24 fun e => HGB.out e.symm)
      have BX4 : Hid (Box (W2.setCell ⟨g, 1, none⟩ (.int .i64 ((U - nr : Nat) : Int))).drew g Ty.disk [.int .i64 (R : Int), .int .i64 ((U - nr : Nat) : Int), .map (some b), .slice A1 q1 c1, .int .i64 (q2 : Int)]) := Lib.hid (Box.set (w := W2) (us := [.int .i64 (R : Int), .int .i64 (U : Int), .map (some b), .slice A1 q1 c1, .int .i64 (q2 : Int)]) BX2.out 1 _)
      clear BX2 HO2 hk24 p2 s2 hlk3 hS
      generalize (W2.setCell ⟨g, 1, none⟩ (.int .i64 ((U - nr : Nat) : Int))).drew = W4 at BX4 HO4 HK4 ⊢
      refine wp_region_held_drew (S := fun w' => Hid (Keep (fun j => j = b) W4 w')) (by kernel_rfl) (Lib.hid (Keep.refl _ _).drew) (fun hS => ?_)
      refine wpAnyH_take (i := 0) (v := ?_) rfl (by kernel_rfl) (by kernel_rfl) (by kernel_rfl) (fun _ _ _ h => h) (Or.inl ⟨by rfl, ?_⟩) hS ?_
      rotate_left
      · intro w hw
        go_simp
        try with_reducible rfl
      try simp only [Act.put, List.getElem_toArray, List.getElem_cons_succ, List.getElem_cons_zero, List.setIfInBounds_toArray, List.set_cons_zero, List.set_cons_succ]
      refine wpAnyH_take (i := 1) (v := ?_) rfl (by kernel_rfl) (by kernel_rfl) (by kernel_rfl) (fun _ _ _ h => h) (Or.inl ⟨by rfl, ?_⟩) hS ?_
      rotate_left
      · intro w hw
        go_simp
        try with_reducible rfl
      try simp only [Act.put, List.getElem_toArray, List.getElem_cons_succ, List.getElem_cons_zero, List.setIfInBounds_toArray, List.set_cons_zero, List.set_cons_succ]
      refine wpAnyH_take (i := 2) (v := ?_) rfl (by kernel_rfl) (by kernel_rfl) (by kernel_rfl) (fun _ _ _ h => h) (Or.inl ⟨by rfl, ?_⟩) hS ?_
      rotate_left
      · intro w hw
        go_simp
        try with_reducible rfl
      try simp only [Act.put, List.getElem_toArray, List.getElem_cons_succ, List.getElem_cons_zero, List.setIfInBounds_toArray, List.set_cons_zero, List.set_cons_succ]
      refine wpAnyH_take (i := 3) (v := ?_) rfl (by kernel_rfl) (by kernel_rfl) (by kernel_rfl) (fun _ _ _ h => h) (Or.inl ⟨by rfl, ?_⟩) hS ?_
      rotate_left
      · intro w hw
        have q0 : w.cell? ⟨g, 2, none⟩ = some (.map (some b)) := (BX4.out.keep hw.out HGB.out).cell 2
        go_simp
        try with_reducible rfl
      try simp only [Act.put, List.getElem_toArray, List.getElem_cons_succ, List.getElem_cons_zero, List.setIfInBounds_toArray, List.set_cons_zero, List.set_cons_succ]
      refine wpAnyH_take (i := 4) (v := ?_) rfl (by kernel_rfl) (by kernel_rfl) (by kernel_rfl) (fun _ _ _ h => h) (Or.inl ⟨by rfl, ?_⟩) hS ?_
      rotate_left
      · intro w hw
        go_simp
        try with_reducible rfl
      try simp only [Act.put, List.getElem_toArray, List.getElem_cons_succ, List.getElem_cons_zero, List.setIfInBounds_toArray, List.set_cons_zero, List.set_cons_succ]
      refine wpAnyH_take (i := 6) (v := ?_) rfl (by kernel_rfl) (by kernel_rfl) (by kernel_rfl) (fun _ _ _ h => h) (Or.inl ⟨by rfl, ?_⟩) hS ?_
      rotate_left
      · intro w hw
        go_simp
        try with_reducible rfl
      try simp only [Act.put, List.getElem_toArray, List.getElem_cons_succ, List.getElem_cons_zero, List.setIfInBounds_toArray, List.set_cons_zero, List.set_cons_succ]
      refine wpAnyH_ready (rs := [5]) (by kernel_rfl) (by simp) ?_
      refine AllReadyH.cons rfl (fun K hK => ?_) AllReadyH.nil
      go_simp
      refine (sclone_any to (by omega) W4.drew).mono ?_
      rintro e W5 ⟨rfl, hb5⟩
      have H5 : Hid (Keep (fun j => j = b) W4 W5) := Lib.hid (hS.out.trans (T := fun _ => False) (below_keep hb5) fun _ _ h => h.elim)
      have HQ5 : Hid (Below W4.heap.size W4 W5) := Lib.hid ((Below.refl _ _).drew.trans hb5)
      obtain ⟨W6, hr6, ho6, hk6⟩ := store_run' (blk := b0) (map_keep (T := fun _ => False) HO4.out (below_keep HQ5.out) id) (by have := HN4.out; omega) hto f.v f.bs f.syn
      have H6 : Hid (Keep (fun j => j = b) W4 W6) := Lib.hid (H5.out.trans hk6 fun _ _ h => h)
      have HO6 := Lib.hid ho6
      clear hb5 ho6 hk6
      go_wp2_with fail
      refine hK.out _ _ H5 (fun hS => ?_)
      clear hK K
      try simp only [Act.put, List.getElem_toArray, List.getElem_cons_succ, List.getElem_cons_zero, List.setIfInBounds_toArray, List.set_cons_zero, List.set_cons_succ]
      refine wpAnyH_ready (rs := [7]) (by kernel_rfl) (by simp) ?_
      refine AllReadyH.cons rfl (fun K hK => ?_) AllReadyH.nil
      go_simp
      refine hK.out _ _ H6 (fun hS => ?_)
      clear hK K hr6
      try simp only [Act.put, List.getElem_toArray, List.getElem_cons_succ, List.getElem_cons_zero, List.setIfInBounds_toArray, List.set_cons_zero, List.set_cons_succ]
      refine wpAnyH_done (by kernel_rfl) ?_ _
      go_wp2_with fail
      go_ret
      have hkW : Keep (Hd g (some b)) W1 W6 := HK4.out.trans H6.out fun _ _ e => .inr (by rw [e])
      have hu := HUM.out
      have hUU := HUU.out
      have hL := HL.out.took HM.out HNM.out hto hkW (by
          have := HO6.out
          rw [HB0.out] at this
          exact this) (by
          have h1 := BX4.out.keep H6.out HGB.out
          rw [show used (moved (hit m).2.fs fr to f.m) = U - nr by omega, ← HRR.out, ← HQ1.out, ← HQ2.out]
          exact h1) (by have := HL.out.fits; have := HUU.out; omega)
      refine ⟨S, by rw [E.out]; rfl, ?_, (HK.out.mono (T := S) fun k hk => by rw [hk]; exact HS.out).trans hkW fun k _ hk => ?_, fun k hk => .inl hk⟩
      · rw [E.out]
        have hA := hL.toAt
        rw [HFS2.out] at hA
        exact hA
      · rcases hk with e | e
        · rw [e]; exact HS.out
        · cases e; exact HSB.out
  · have E : Hid (renameM m fr to = (gone m [fr, to] (look fs fr), (hit m).2)) := Lib.hid (onFile_no HT.out hne)
    have d1 : ((gone m [fr, to] (look fs fr) : Int) != 0) = true := by rw [bne_iff_ne]; omega
    have HL := Lib.hid hL1
    clear hk1 hL1 HF hne
    go_wp2_with fail
    go_ret
    exact ⟨S, by rw [E.out]; rfl, by rw [E.out]; exact HL.out.toAt, HK.out.mono fun k hk => by rw [hk]; exact HS.out, fun k hk => .inl hk⟩
end
end Go.Proofs.Ytnbknihaefkllaa.Dk
