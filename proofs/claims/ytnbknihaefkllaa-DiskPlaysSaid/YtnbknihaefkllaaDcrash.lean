/- What crash of a file answers. -/
import Derived.Test.YtnbknihaefkllaaDappend
namespace Go.Proofs.Ytnbknihaefkllaa.Dk
set_option linter.unusedVariables false
set_option linter.unusedSimpArgs false
open Go.RowKit Go.Maps Lift Ik

def crashed (f : Fi) (k : Nat) (v : Value) : Fi := ⟨f.nm, f.blk, v, f.bs.take (f.syn + k), (f.bs.take (f.syn + k)).length⟩
section
variable {w w' : World} {g : Nat} {S S' T : Nat → Prop}
set_option maxRecDepth 100000 in
set_option maxHeartbeats 1000000 in
theorem fcrash_any (f : Fi) (k : Nat) (hk : k ≤ 9223372036854775807) (h : f.ok w S) :
    Calls Try.prog (36) #[.pointer (some ⟨f.blk, 0, none⟩), .int .i64 (k : Int)] w fun e w' => ∃ v', e = .returned (.int .i64 ((f.bs.length - (f.syn + k) : Nat) : Int)) ∧
      (crashed f k v').ok w' (Gr S w w') ∧ Keep (· = f.blk) w w' ∧ ∀ j, v'.ownBlock = some j → f.v.ownBlock = some j ∨ w.heap.size ≤ j := by
  obtain ⟨f0, f1, z0, z1⟩ := h.box.facts2
  obtain ⟨Av, cv, hv, hcv, hcvm, hlies⟩ := own_parts h.own
  have hsyn := h.syn
  have hlen := h.len
  have H := Lib.hid h
  rw [hv] at f0
  obtain ⟨b, hb⟩ : ∃ b, b = f.blk := ⟨_, rfl⟩
  obtain ⟨n, hn⟩ : ∃ n, n = f.bs.length := ⟨_, rfl⟩
  obtain ⟨s, hs⟩ : ∃ s, s = f.syn := ⟨_, rfl⟩
  rw [← hn] at f0 hcv hsyn hlen
  rw [← hs] at f1 hsyn
  rw [← hb] at f0 f1 z0 z1 ⊢
  obtain ⟨l, hl⟩ : ∃ l, l = n - (s + k) := ⟨_, rfl⟩
  have hmax : max ((n : Int) - (s : Int) - (k : Int)) 0 = (l : Int) := by omega
  have HL := Lib.hid hl
  have HN := Lib.hid hn
  have HS := Lib.hid hs
  have HB := Lib.hid hb
  have HV := Lib.hid hv
  have hown := h.own
  rw [hv] at hown
  have hnone : Hid (Av = none → f.bs.length = 0 ∧ cv = 0) := Lib.hid fun e => by subst e; exact own_none hown
  have H0 := Lib.hid hlies
  clear h hv hlies hb hn hs hown
  by_cases k0 : l = 0
  · subst k0
    clear hl
    go_enter Try.func36, Try.ntmps36
    go_wp2_with fail
    go_quiet (fail)
    go_wp2_with fail
    go_ret
    have hb := HB.out
    have hn := HN.out
    have hs := HS.out
    have htk : f.bs.take (f.syn + k) = f.bs := List.take_of_length_le (by have := HL.out; omega)
    have key : ∀ nq : Nat, (crashed f k f.v).ok ((w.drewN nq).setCell ⟨b, 1, none⟩ (.int .i64 (n : Int))) (Gr S w ((w.drewN nq).setCell ⟨b, 1, none⟩ (.int .i64 (n : Int)))) ∧ Keep (· = f.blk) w ((w.drewN nq).setCell ⟨b, 1, none⟩ (.int .i64 (n : Int))) := by
      intro nq
      have hd := Joins.below_draws w.heap.size w nq
      have hk1 : Keep (· = f.blk) w ((w.drewN nq).setCell ⟨b, 1, none⟩ (.int .i64 (n : Int))) := (below_keep hd).setCell (p := ⟨b, 1, none⟩) (.inr hb) _
      refine ⟨?_, hk1⟩
      unfold crashed
      rw [htk]
      refine ⟨?_, own_keep H.out.own hk1 (fun j hj => syn_not (f := f) H.out j hj), .inl H.out.sb, fun j hj => .inl (H.out.sv j hj), Nat.le_refl _, H.out.len, H.out.byte, H.out.nm⟩
      rw [← hb, ← hn]
      exact (show Box (w.drewN nq) b Ty.file [f.v, .int .i64 (f.syn : Int)] by rw [hb]; exact H.out.box.at_block (by simp)).set 1 _
    exact ⟨f.v, by have := HL.out; rw [show f.bs.length - (f.syn + k) = 0 by omega]; rfl, (key _).1, (key _).2.mono fun i hi => hi.trans hb.symm, fun j hj => .inl hj⟩
  · have d1 : decide ((0 : Int) < (l : Int)) = true := by simp; omega
    clear hl
    go_enter Try.func36, Try.ntmps36
    go_wp2_with fail
    go_quiet (fail)
    rename_i nq
    have BX : Hid (Box (w.drewN nq) b Ty.file [.slice Av n cv, .int .i64 (s : Int)]) := Lib.hid ((show Box w b Ty.file [.slice Av n cv, .int .i64 (s : Int)] by rw [HB.out, HN.out, ← HV.out, HS.out]; exact H.out.box).at_block (by simp))
    have HLS : Hid (Lies (w.drewN nq) (w.drewN nq).heap.size Av (f.bs.map vb)) := Lib.hid ((H0.out.below (Joins.below_draws _ w nq)).up (by simp))
    have HD : Hid (Below w.heap.size w (w.drewN nq)) := Lib.hid (Joins.below_draws _ w nq)
    clear f0 f1 z0 z1
    generalize w.drewN nq = W at BX HLS HD ⊢
    obtain ⟨f0, f1, z0, z1⟩ := BX.out.facts2
    have hsl : l ≤ n := by have := HL.out; omega
    obtain ⟨q, hq⟩ : ∃ q, q = n - l := ⟨_, rfl⟩
    have hqi : (n : Int) - (l : Int) = (q : Int) := by omega
    have hqw : IntKind.i64.wrap (q : Int) = (q : Int) := by rw [IntKind.wrap_i64]; omega
    have hup := upto_at Av n cv q (by omega) hcv hcvm
    have hxl : (f.bs.take (f.syn + k)).length = q := by have := HL.out; have := HN.out; have := HS.out; rw [List.length_take]; omega
    have hcl := clone_at Av cv (f.bs.take (f.syn + k)) W.drew (HLS.out.front (by rw [List.map_take]; exact List.take_prefix _ _)) (by rw [hxl]; omega) (fun e => by have := hnone.out e; have := HN.out; omega)
    rw [hxl] at hcl
    have HCL := Lib.hid hcl
    have HXL := Lib.hid hxl
    have HQ := Lib.hid hq
    clear hcl hxl hq
    go_wp2_with fail
    refine wp_region_held_drew (S := fun w' => Hid (Keep (fun k => k = b) W w')) (by kernel_rfl) (Lib.hid (Keep.refl _ _).drew) (fun hS => ?_)
    refine wpAnyH_take (i := 0) (v := ?_) rfl (by kernel_rfl) (by kernel_rfl) (by kernel_rfl) (fun _ _ _ h => h) (Or.inl ⟨by rfl, ?_⟩) hS ?_
    rotate_left
    · intro w hw
      go_simp
      try with_reducible rfl
    try simp only [Act.put, List.getElem_toArray, List.getElem_cons_succ, List.getElem_cons_zero, List.setIfInBounds_toArray, List.set_cons_zero, List.set_cons_succ]
    refine wpAnyH_take (i := 1) (v := ?_) rfl (by kernel_rfl) (by kernel_rfl) (by kernel_rfl) (fun _ _ _ h => h) (Or.inl ⟨by rfl, ?_⟩) hS ?_
    rotate_left
    · intro w hw
      go_simp
      try with_reducible rfl
    try simp only [Act.put, List.getElem_toArray, List.getElem_cons_succ, List.getElem_cons_zero, List.setIfInBounds_toArray, List.set_cons_zero, List.set_cons_succ]
    refine wpAnyH_take (i := 2) (v := ?_) rfl (by kernel_rfl) (by kernel_rfl) (by kernel_rfl) (fun _ _ _ h => h) (Or.inl ⟨by rfl, ?_⟩) hS ?_
    rotate_left
    · intro w hw
      go_simp
      try with_reducible rfl
    try simp only [Act.put, List.getElem_toArray, List.getElem_cons_succ, List.getElem_cons_zero, List.setIfInBounds_toArray, List.set_cons_zero, List.set_cons_succ]
    refine wpAnyH_take (i := 3) (v := ?_) rfl (by kernel_rfl) (by kernel_rfl) (by kernel_rfl) (fun _ _ _ h => h) (Or.inl ⟨by rfl, ?_⟩) hS ?_
    rotate_left
    · intro w hw
      go_simp
      try with_reducible rfl
    try simp only [Act.put, List.getElem_toArray, List.getElem_cons_succ, List.getElem_cons_zero, List.setIfInBounds_toArray, List.set_cons_zero, List.set_cons_succ]
    refine wpAnyH_take (i := 5) (v := ?_) rfl (by kernel_rfl) (by kernel_rfl) (by kernel_rfl) (fun _ _ _ h => h) (Or.inl ⟨by rfl, ?_⟩) hS ?_
    rotate_left
    · intro w hw
      go_simp
      try with_reducible rfl
    try simp only [Act.put, List.getElem_toArray, List.getElem_cons_succ, List.getElem_cons_zero, List.setIfInBounds_toArray, List.set_cons_zero, List.set_cons_succ]
    refine wpAnyH_take (i := 6) (v := ?_) rfl (by kernel_rfl) (by kernel_rfl) (by kernel_rfl) (fun _ _ _ h => h) (Or.inl ⟨by rfl, ?_⟩) hS ?_
    rotate_left
    · intro w hw
      go_simp
      try with_reducible rfl
    try simp only [Act.put, List.getElem_toArray, List.getElem_cons_succ, List.getElem_cons_zero, List.setIfInBounds_toArray, List.set_cons_zero, List.set_cons_succ]
    refine wpAnyH_take (i := 7) (v := ?_) rfl (by kernel_rfl) (by kernel_rfl) (by kernel_rfl) (fun _ _ _ h => h) (Or.inl ⟨by rfl, ?_⟩) hS ?_
    rotate_left
    · intro w hw
      go_simp
      try with_reducible rfl
    try simp only [Act.put, List.getElem_toArray, List.getElem_cons_succ, List.getElem_cons_zero, List.setIfInBounds_toArray, List.set_cons_zero, List.set_cons_succ]
    refine wpAnyH_take (i := 10) (v := ?_) rfl (by kernel_rfl) (by kernel_rfl) (by kernel_rfl) (fun _ _ _ h => h) (Or.inl ⟨by rfl, ?_⟩) hS ?_
    rotate_left
    · intro w hw
      go_simp
      try with_reducible rfl
    try simp only [Act.put, List.getElem_toArray, List.getElem_cons_succ, List.getElem_cons_zero, List.setIfInBounds_toArray, List.set_cons_zero, List.set_cons_succ]
    refine wpAnyH_ready (rs := [4, 8]) (by kernel_rfl) (by simp) ?_
    refine AllReadyH.cons rfl (fun K hK => ?_) (AllReadyH.cons rfl (fun K hK => ?_) AllReadyH.nil)
    · go_simp
      refine hK.out _ _ hS (fun hS => ?_)
      clear hK K
      try simp only [Act.put, List.getElem_toArray, List.getElem_cons_succ, List.getElem_cons_zero, List.setIfInBounds_toArray, List.set_cons_zero, List.set_cons_succ]
      refine wpAnyH_ready (rs := [8]) (by kernel_rfl) (by simp) ?_
      refine AllReadyH.cons rfl (fun K hK => ?_) AllReadyH.nil
      go_simp
      refine hK.out _ _ hS (fun hS => ?_)
      clear hK K
      try simp only [Act.put, List.getElem_toArray, List.getElem_cons_succ, List.getElem_cons_zero, List.setIfInBounds_toArray, List.set_cons_zero, List.set_cons_succ]
      refine wpAnyH_take (i := 9) (v := ?_) rfl (by kernel_rfl) (by kernel_rfl) (by kernel_rfl) (fun _ _ _ h => h) (Or.inl ⟨by rfl, ?_⟩) hS ?_
      rotate_left
      · intro w hw
        go_simp
        try with_reducible rfl
      try simp only [Act.put, List.getElem_toArray, List.getElem_cons_succ, List.getElem_cons_zero, List.setIfInBounds_toArray, List.set_cons_zero, List.set_cons_succ]
      refine wpAnyH_take (i := 11) (v := ?_) rfl (by kernel_rfl) (by kernel_rfl) (by kernel_rfl) (fun _ _ _ h => h) (Or.inl ⟨by rfl, ?_⟩) hS ?_
      rotate_left
      · intro w hw
        go_simp
        try with_reducible rfl
      try simp only [Act.put, List.getElem_toArray, List.getElem_cons_succ, List.getElem_cons_zero, List.setIfInBounds_toArray, List.set_cons_zero, List.set_cons_succ]
      refine wpAnyH_take (i := 12) (v := ?_) rfl (by kernel_rfl) (by kernel_rfl) (by kernel_rfl) (fun _ _ _ h => h) (Or.inl ⟨by rfl, ?_⟩) hS ?_
      rotate_left
      · intro w hw
        go_simp
        try with_reducible rfl
      try simp only [Act.put, List.getElem_toArray, List.getElem_cons_succ, List.getElem_cons_zero, List.setIfInBounds_toArray, List.set_cons_zero, List.set_cons_succ]
      refine wpAnyH_ready (rs := [13]) (by kernel_rfl) (by simp) ?_
      refine AllReadyH.cons rfl (fun K hK => ?_) AllReadyH.nil
      go_simp
      refine (HCL.out).mono ?_
      intro e W2 hm2
      obtain ⟨v2, rfl, hown2, hb2⟩ := hm2
      have hp2 := hown2
      rw [HXL.out] at hp2
      obtain ⟨A2, c2, rfl, _, _, _⟩ := own_parts hp2
      obtain ⟨g0, g1, y0, y1⟩ := Box.facts2 ((show Box W.drew b Ty.file [.slice Av n cv, .int .i64 (s : Int)] from BX.out).below hb2 (by simpa using BX.out.lt))
      have H2 : Hid (Keep (fun k => k = b) W W2) := Lib.hid (hS.out.trans (T := fun _ => False) (below_keep hb2) fun _ _ h => h.elim)
      have HB2 : Hid (Below W.heap.size W W2) := Lib.hid ((Below.refl _ _).drew.trans hb2)
      have HO2 := Lib.hid hown2
      clear hown2 hb2
      go_wp2_with fail
      refine hK.out _ _ H2 (fun hS => ?_)
      clear hK K
      try simp only [Act.put, List.getElem_toArray, List.getElem_cons_succ, List.getElem_cons_zero, List.setIfInBounds_toArray, List.set_cons_zero, List.set_cons_succ]
      refine wpAnyH_take (i := 14) (v := ?_) rfl (by kernel_rfl) (by kernel_rfl) (by kernel_rfl) (fun _ _ _ h => h) (Or.inl ⟨by rfl, ?_⟩) hS ?_
      rotate_left
      · intro w hw
        go_simp
        try with_reducible rfl
      try simp only [Act.put, List.getElem_toArray, List.getElem_cons_succ, List.getElem_cons_zero, List.setIfInBounds_toArray, List.set_cons_zero, List.set_cons_succ]
      refine wpAnyH_take (i := 15) (v := ?_) rfl (by kernel_rfl) (by kernel_rfl) (by kernel_rfl) (fun _ _ _ h => h) (Or.inl ⟨by rfl, ?_⟩) hS ?_
      rotate_left
      · intro w hw
        go_simp
        try with_reducible rfl
      try simp only [Act.put, List.getElem_toArray, List.getElem_cons_succ, List.getElem_cons_zero, List.setIfInBounds_toArray, List.set_cons_zero, List.set_cons_succ]
      refine wpAnyH_ready (rs := [16]) (by kernel_rfl) (by simp) ?_
      refine AllReadyH.cons rfl (fun K hK => ?_) AllReadyH.nil
      go_simp
      refine hK.out _ _ (Lib.hid (H2.out.setCell (p := ⟨b, 0, none⟩) (.inr rfl) _)) (fun hS => ?_)
      clear hK K
      try simp only [Act.put, List.getElem_toArray, List.getElem_cons_succ, List.getElem_cons_zero, List.setIfInBounds_toArray, List.set_cons_zero, List.set_cons_succ]
      refine wpAnyH_done (by kernel_rfl) ?_ _
      go_wp2_with fail
      go_ret
      have hb := HB.out
      have hn := HN.out
      have hs := HS.out
      have hl := HL.out
      have hq := HQ.out
      have hxl := HXL.out
      have hd := HD.out
      have hb2 := HB2.out
      have ho2 := HO2.out
      have hbx : Box W2 b Ty.file [.slice Av n cv, .int .i64 (s : Int)] := BX.out.below hb2 BX.out.lt
      have hk2 : Keep (· = f.blk) W2 ((W2.setCell ⟨b, 0, none⟩ (.slice A2 q c2)).setCell ⟨b, 1, none⟩ (.int .i64 (q : Int))) := ((Keep.refl _ W2).setCell (p := ⟨b, 0, none⟩) (.inr hb) _).setCell (p := ⟨b, 1, none⟩) (.inr hb) _
      have hsz : ((W2.setCell ⟨b, 0, none⟩ (.slice A2 q c2)).setCell ⟨b, 1, none⟩ (.int .i64 (q : Int))).heap.size = W2.heap.size := by simp [World.setCell]
      have hpl : ∀ j, (Value.slice A2 q c2).ownBlock = some j → W.heap.size ≤ j ∧ j < W2.heap.size := fun j hj => ho2.lt j hj
      refine ⟨.slice A2 q c2, by rw [show f.bs.length - (f.syn + k) = l by omega]; rfl, ?_, (((below_keep (S := (· = f.blk)) hd).trans (T := fun _ => False) (below_keep hb2) fun _ _ h => h.elim).trans hk2 fun _ _ h => h).mono fun i hi => hi.trans hb.symm, fun j hj => .inr (Nat.le_trans hd.size (hpl j hj).1)⟩
      refine ⟨?_, ?_, .inl H.out.sb, fun j hj => .inr ⟨Nat.le_trans hd.size (hpl j hj).1, by rw [hsz]; exact (hpl j hj).2⟩, Nat.le_refl _, ?_, fun x hx => H.out.byte x (List.mem_of_mem_take hx), H.out.nm⟩
      · show Box _ f.blk _ [_, .int .i64 (((f.bs.take (f.syn + k)).length : Nat) : Int)]
        rw [hxl, ← hb]
        exact (hbx.set 0 _).set 1 _
      · refine own_keep (Joins.ownsRow_le ho2 (Nat.zero_le _)) hk2 fun j hj e => ?_
        have h1 := (hpl j hj).1
        have h2 := H.out.box.lt
        have h3 := hd.size
        omega
      · show (f.bs.take (f.syn + k)).length ≤ _
        rw [hxl]
        omega
    · go_simp
      refine hK.out _ _ hS (fun hS => ?_)
      clear hK K
      try simp only [Act.put, List.getElem_toArray, List.getElem_cons_succ, List.getElem_cons_zero, List.setIfInBounds_toArray, List.set_cons_zero, List.set_cons_succ]
      refine wpAnyH_take (i := 9) (v := ?_) rfl (by kernel_rfl) (by kernel_rfl) (by kernel_rfl) (fun _ _ _ h => h) (Or.inl ⟨by rfl, ?_⟩) hS ?_
      rotate_left
      · intro w hw
        go_simp
        try with_reducible rfl
      try simp only [Act.put, List.getElem_toArray, List.getElem_cons_succ, List.getElem_cons_zero, List.setIfInBounds_toArray, List.set_cons_zero, List.set_cons_succ]
      refine wpAnyH_take (i := 11) (v := ?_) rfl (by kernel_rfl) (by kernel_rfl) (by kernel_rfl) (fun _ _ _ h => h) (Or.inl ⟨by rfl, ?_⟩) hS ?_
      rotate_left
      · intro w hw
        go_simp
        try with_reducible rfl
      try simp only [Act.put, List.getElem_toArray, List.getElem_cons_succ, List.getElem_cons_zero, List.setIfInBounds_toArray, List.set_cons_zero, List.set_cons_succ]
      refine wpAnyH_ready (rs := [4]) (by kernel_rfl) (by simp) ?_
      refine AllReadyH.cons rfl (fun K hK => ?_) AllReadyH.nil
      go_simp
      refine hK.out _ _ hS (fun hS => ?_)
      clear hK K
      try simp only [Act.put, List.getElem_toArray, List.getElem_cons_succ, List.getElem_cons_zero, List.setIfInBounds_toArray, List.set_cons_zero, List.set_cons_succ]
      refine wpAnyH_take (i := 12) (v := ?_) rfl (by kernel_rfl) (by kernel_rfl) (by kernel_rfl) (fun _ _ _ h => h) (Or.inl ⟨by rfl, ?_⟩) hS ?_
      rotate_left
      · intro w hw
        go_simp
        try with_reducible rfl
      try simp only [Act.put, List.getElem_toArray, List.getElem_cons_succ, List.getElem_cons_zero, List.setIfInBounds_toArray, List.set_cons_zero, List.set_cons_succ]
      refine wpAnyH_ready (rs := [13]) (by kernel_rfl) (by simp) ?_
      refine AllReadyH.cons rfl (fun K hK => ?_) AllReadyH.nil
      go_simp
      refine (HCL.out).mono ?_
      intro e W2 hm2
      obtain ⟨v2, rfl, hown2, hb2⟩ := hm2
      have hp2 := hown2
      rw [HXL.out] at hp2
      obtain ⟨A2, c2, rfl, _, _, _⟩ := own_parts hp2
      obtain ⟨g0, g1, y0, y1⟩ := Box.facts2 ((show Box W.drew b Ty.file [.slice Av n cv, .int .i64 (s : Int)] from BX.out).below hb2 (by simpa using BX.out.lt))
      have H2 : Hid (Keep (fun k => k = b) W W2) := Lib.hid (hS.out.trans (T := fun _ => False) (below_keep hb2) fun _ _ h => h.elim)
      have HB2 : Hid (Below W.heap.size W W2) := Lib.hid ((Below.refl _ _).drew.trans hb2)
      have HO2 := Lib.hid hown2
      clear hown2 hb2
      go_wp2_with fail
      refine hK.out _ _ H2 (fun hS => ?_)
      clear hK K
      try simp only [Act.put, List.getElem_toArray, List.getElem_cons_succ, List.getElem_cons_zero, List.setIfInBounds_toArray, List.set_cons_zero, List.set_cons_succ]
      refine wpAnyH_take (i := 14) (v := ?_) rfl (by kernel_rfl) (by kernel_rfl) (by kernel_rfl) (fun _ _ _ h => h) (Or.inl ⟨by rfl, ?_⟩) hS ?_
      rotate_left
      · intro w hw
        go_simp
        try with_reducible rfl
      try simp only [Act.put, List.getElem_toArray, List.getElem_cons_succ, List.getElem_cons_zero, List.setIfInBounds_toArray, List.set_cons_zero, List.set_cons_succ]
      refine wpAnyH_take (i := 15) (v := ?_) rfl (by kernel_rfl) (by kernel_rfl) (by kernel_rfl) (fun _ _ _ h => h) (Or.inl ⟨by rfl, ?_⟩) hS ?_
      rotate_left
      · intro w hw
        go_simp
        try with_reducible rfl
      try simp only [Act.put, List.getElem_toArray, List.getElem_cons_succ, List.getElem_cons_zero, List.setIfInBounds_toArray, List.set_cons_zero, List.set_cons_succ]
      refine wpAnyH_ready (rs := [16]) (by kernel_rfl) (by simp) ?_
      refine AllReadyH.cons rfl (fun K hK => ?_) AllReadyH.nil
      go_simp
      refine hK.out _ _ (Lib.hid (H2.out.setCell (p := ⟨b, 0, none⟩) (.inr rfl) _)) (fun hS => ?_)
      clear hK K
      try simp only [Act.put, List.getElem_toArray, List.getElem_cons_succ, List.getElem_cons_zero, List.setIfInBounds_toArray, List.set_cons_zero, List.set_cons_succ]
      refine wpAnyH_done (by kernel_rfl) ?_ _
      go_wp2_with fail
      go_ret
      have hb := HB.out
      have hn := HN.out
      have hs := HS.out
      have hl := HL.out
      have hq := HQ.out
      have hxl := HXL.out
      have hd := HD.out
      have hb2 := HB2.out
      have ho2 := HO2.out
      have hbx : Box W2 b Ty.file [.slice Av n cv, .int .i64 (s : Int)] := BX.out.below hb2 BX.out.lt
      have hk2 : Keep (· = f.blk) W2 ((W2.setCell ⟨b, 0, none⟩ (.slice A2 q c2)).setCell ⟨b, 1, none⟩ (.int .i64 (q : Int))) := ((Keep.refl _ W2).setCell (p := ⟨b, 0, none⟩) (.inr hb) _).setCell (p := ⟨b, 1, none⟩) (.inr hb) _
      have hsz : ((W2.setCell ⟨b, 0, none⟩ (.slice A2 q c2)).setCell ⟨b, 1, none⟩ (.int .i64 (q : Int))).heap.size = W2.heap.size := by simp [World.setCell]
      have hpl : ∀ j, (Value.slice A2 q c2).ownBlock = some j → W.heap.size ≤ j ∧ j < W2.heap.size := fun j hj => ho2.lt j hj
      refine ⟨.slice A2 q c2, by rw [show f.bs.length - (f.syn + k) = l by omega]; rfl, ?_, (((below_keep (S := (· = f.blk)) hd).trans (T := fun _ => False) (below_keep hb2) fun _ _ h => h.elim).trans hk2 fun _ _ h => h).mono fun i hi => hi.trans hb.symm, fun j hj => .inr (Nat.le_trans hd.size (hpl j hj).1)⟩
      refine ⟨?_, ?_, .inl H.out.sb, fun j hj => .inr ⟨Nat.le_trans hd.size (hpl j hj).1, by rw [hsz]; exact (hpl j hj).2⟩, Nat.le_refl _, ?_, fun x hx => H.out.byte x (List.mem_of_mem_take hx), H.out.nm⟩
      · show Box _ f.blk _ [_, .int .i64 (((f.bs.take (f.syn + k)).length : Nat) : Int)]
        rw [hxl, ← hb]
        exact (hbx.set 0 _).set 1 _
      · refine own_keep (Joins.ownsRow_le ho2 (Nat.zero_le _)) hk2 fun j hj e => ?_
        have h1 := (hpl j hj).1
        have h2 := H.out.box.lt
        have h3 := hd.size
        omega
      · show (f.bs.take (f.syn + k)).length ≤ _
        rw [hxl]
        omega
end
end Go.Proofs.Ytnbknihaefkllaa.Dk
