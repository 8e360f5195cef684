/- Package skip: what Insert answers. -/
import Derived.Test.YtmnhklfljfglhaaSadd
import Derived.Deep.QuietTactic
import Derived.BigQuiet
import Derived.LoopTactic
namespace Go.Proofs.Ytmnhklfljfglhaa.Sk
set_option linter.unusedVariables false
set_option linter.unusedSimpArgs false
open Go.RowKit Lift Ik

section
variable {w : World} {g : Nat} {S : Nat → Prop} {fs : List Nat} {V : Value} {ns : List N} {L : List Q} {R : Row}
set_option maxRecDepth 1000000 in
set_option maxHeartbeats 8000000 in
theorem insert_any (d : D) (ht : Int) (h : SL w g S R) (hd : d.Ok w (· < w.heap.size)) (hw : (Lit.int .i64 ht).wf = true) (hn : R.length ≤ 150) :
    Calls Try.prog (13) #[.pointer (some ⟨g, 0, none⟩), d.v, .int .i64 ht] w (Insd w g S R d.t (hgt ht)) := by
  obtain ⟨fs, V, ns, L, hl, hR0, hok⟩ := h
  have HRR := Lib.hid hR0
  clear hR0
  have hb0 := below_box w d
  have hx0 : Bx (w.alloc (ebox d)) w.heap.size d := Bx.new w d
  have HL := Lib.hid hl
  have HE := Lib.hid hd
  have HB0 := Lib.hid hb0
  have HX0 := Lib.hid hx0
  have HR1 := Lib.hid (sright_any d (w.alloc (ebox d)) (hd.next hb0))
  have h8 := i64_of hw
  clear hl hd hb0 hx0
  go_enter (Try.func13), (Try.ntmps13)
  go_wp2_with fail
  refine HR1.out.mono ?_
  rintro e W1 ⟨rfl, hb1⟩
  have HB1 := Lib.hid (HB0.out.trans (hb1.mono HB0.out.size))
  have HX1 : Hid (Bx W1 w.heap.size d) := Lib.hid (HX0.out.below hb1 HX0.out.lt)
  clear hb1 HR1 HX0
  cases hko : okT d.t with
  | false =>
    have E := Lib.hid (show insE R d.t = 1 by simp [insE, hko])
    have E2 := Lib.hid (show insT R d.t (hgt ht) = R by unfold insT; rw [E.out]; rfl)
    have HFIN := Lib.hid (show SL W1 g S R from ⟨fs, V, ns, L, HL.out.below HB1.out, HRR.out, hok⟩)
    clear h8
    go_wp2_with fail
    go_ret
    exact ⟨S, by rw [E.out]; rfl, by rw [E2.out]; exact HFIN.out, below_keep HB1.out, fun k hk => .inl hk⟩
  | true =>
    have HSM := Lib.hid (small_of (d := d) rfl hko)
    obtain ⟨x0, x1, x2, x3, -, -, -, -⟩ := HX1.out.facts
    have HP := Lib.hid (path_any (HL.out.below HB1.out) ((HE.out.next HB1.out).at' fun k hk => hk))
    obtain ⟨arr, harr⟩ : ∃ arr, arr = (ints ((List.range 12).map (stop L d.k))).toArray := ⟨_, rfl⟩
    have HARR := Lib.hid harr
    rw [← harr] at HP
    clear harr
    have HSZ : Hid (arr.size = 12) := Lib.hid (by rw [HARR.out]; simp [ints])
    have HI : Hid ((Try.prog.info? 60).map (·.size) = some arr.size) := Lib.hid (by rw [HSZ.out]; kernel_rfl)
    have H1C : Hid (arr.all (·.oneCell') = true) := Lib.hid (by rw [HARR.out]; kernel_rfl)
    have HO : Hid ((ints zs12).toArray.size = arr.size) := Lib.hid (by rw [HSZ.out]; rfl)
    have HZb : Hid (∀ W : World, Lift.Box (W.alloc abox12) W.heap.size 60 (ints zs12)) := Lib.hid fun W => Lift.Box.new W 60 (ints zs12)
    go_wp2_with fail
    refine HP.out.mono ?_
    rintro e W2 ⟨rfl, hb2⟩
    have HB2 := Lib.hid (HB1.out.trans (hb2.mono HB1.out.size))
    have HX2 : Hid (Bx W2 w.heap.size d) := Lib.hid (HX1.out.below hb2 HX1.out.lt)
    clear hb2 HP x0 x1 x2 x3
    go_upto_region 4 with (refine wpList_store_row rfl _ _ _ rfl W2.heap.size arr rfl rfl _ (ints zs12).toArray (HZb.out W2) HI.out HO.out H1C.out ?_)
    change Code.wp _ _ _ _ ((W2.alloc abox12).setRow W2.heap.size arr)
    obtain ⟨P, hP⟩ : ∃ P, P = W2.heap.size := ⟨_, rfl⟩
    rw [← hP]
    obtain ⟨W3, hW3⟩ : ∃ W3, W3 = (W2.alloc abox12).setRow P arr := ⟨_, rfl⟩
    rw [← hW3]
    have hb23 : Below W2.heap.size W2 W3 := by rw [hW3, hP]; exact below_setRow (Joins.below_alloc1 W2 abox12) (Nat.le_refl _) _
    have hpb : Lift.Box W3 P 60 (ints ((List.range 12).map (stop L d.k))) := by
      have := setRow_heap (W2.alloc abox12) W2.heap.size (ints zs12).toArray arr 60 (0, 0) (HZb.out W2)
      rw [hW3, hP]
      unfold Lift.Box
      rw [this, HARR.out]
    have HP3 := Lib.hid hpb
    have HB3 := Lib.hid (HB2.out.trans (hb23.mono HB2.out.size))
    have HX3 : Hid (Bx W3 w.heap.size d) := Lib.hid (HX2.out.below hb23 HX2.out.lt)
    have HPW := Lib.hid (show w.heap.size < P ∧ w.heap.size < W3.heap.size by rw [hP]; exact ⟨HX2.out.lt, HX3.out.lt⟩)
    obtain ⟨st, hst⟩ : ∃ st, st = stop L d.k := ⟨_, rfl⟩
    rw [← hst] at hpb HP3
    have HST := Lib.hid hst
    have c0 : W3.cell? ⟨P, 0, none⟩ = some (.int .i64 ((st 0 : Nat) : Int)) := hpb.cell 0
    have hbeh := HL.out.behind d.k
    rw [← hst] at hbeh
    obtain ⟨hspot, hbh⟩ := hbeh
    have HBH := Lib.hid hbh
    have HN := Lib.hid (next_any (st 0) 0 (HL.out.lay.below HB3.out) (by omega) hspot)
    clear hP hW3 hb23 hpb hst hspot hbh HSZ HI H1C HO HZb HB2 HX2 HB1 HX1 HARR
    obtain ⟨tw, htw⟩ : ∃ tw : Bool, (tw = true ↔ twice R d.k) := by
      by_cases h : twice R d.k
      · exact ⟨true, by simp [h]⟩
      · exact ⟨false, by simp [h]⟩
    have HTW := Lib.hid htw
    clear htw
    generalize st 0 = a0 at HN c0 HBH
    go_wp2_with fail
    refine HN.out.mono ?_
    rintro e w' ⟨rfl, rfl⟩
    go_upto_region 5 with fail
    generalize nxt fs ns a0 0 = x at HBH ⊢
    clear c0 HN
    go_cut [35] (fun v35 wx => v35 = .bool tw ∧ Below W3.heap.size W3 wx)
    case first =>
      rcases HBH.out with ⟨h1, h2⟩ | ⟨q, v, n, h1, h2, h3, h4, h5, h6⟩
      · have E : Hid (tw = false) := Lib.hid (by
          cases tw with
          | false => rfl
          | true => exact absurd (HTW.out.1 rfl) (by rw [HRR.out]; exact twice_none h1))
        clear HBH
        subst h2
        go_quiet (fail)
        go_wp2_with fail
        go_meet
        exact ⟨by rw [E.out], Joins.below_draws _ _ _⟩
      · have htk := t_k h6
        have E : Hid (tw = (cmpK n.d.k d.k == 0)) := Lib.hid (by
          rw [Bool.eq_iff_iff, HTW.out, HRR.out, twice_some h1, htk, beq_iff_eq])
        have hx1 : 1 ≤ x := by rw [h3]; exact h4
        have hxn : ns[x - 1]? = some n := by rw [h3]; exact h5
        have d1 : ((x : Int) != 0) = true := by simp; omega
        have qF := field_key n.d
        clear HBH h1 h2 h3 h4 h5 h6 htk
        refine wp_region_held_drew (S := fun w' => Hid (Below W3.heap.size W3 w')) (by kernel_rfl) (Lib.hid (Below.refl _ _).drew) (fun hS => ?_)
        refine wpAnyH_take (i := 0) (v := ?_) rfl (by kernel_rfl) (by kernel_rfl) (by kernel_rfl) (fun _ _ _ h => h) (Or.inl ⟨by rfl, ?_⟩) hS ?_
        rotate_left
        · intro w hw
          go_simp
          try with_reducible rfl
        try simp only [Act.put, List.getElem_toArray, List.getElem_cons_succ, List.getElem_cons_zero, List.setIfInBounds_toArray, List.set_cons_zero, List.set_cons_succ]
        refine wpAnyH_take (i := 1) (v := ?_) rfl (by kernel_rfl) (by kernel_rfl) (by kernel_rfl) (fun _ _ _ h => h) (Or.inl ⟨by rfl, ?_⟩) hS ?_
        rotate_left
        · intro w hw
          go_simp
          try with_reducible rfl
        try simp only [Act.put, List.getElem_toArray, List.getElem_cons_succ, List.getElem_cons_zero, List.setIfInBounds_toArray, List.set_cons_zero, List.set_cons_succ]
        refine wpAnyH_take (i := 2) (v := ?_) rfl (by kernel_rfl) (by kernel_rfl) (by kernel_rfl) (fun _ _ _ h => h) (Or.inl ⟨by rfl, ?_⟩) hS ?_
        rotate_left
        · intro w hw
          go_simp
          try with_reducible rfl
        try simp only [Act.put, List.getElem_toArray, List.getElem_cons_succ, List.getElem_cons_zero, List.setIfInBounds_toArray, List.set_cons_zero, List.set_cons_succ]
        refine wpAnyH_take (i := 3) (v := ?_) rfl (by kernel_rfl) (by kernel_rfl) (by kernel_rfl) (fun _ _ _ h => h) (Or.inl ⟨by rfl, ?_⟩) hS ?_
        rotate_left
        · intro w hw
          go_simp
          try with_reducible rfl
        try simp only [Act.put, List.getElem_toArray, List.getElem_cons_succ, List.getElem_cons_zero, List.setIfInBounds_toArray, List.set_cons_zero, List.set_cons_succ]
        refine wpAnyH_take (i := 4) (v := ?_) rfl (by kernel_rfl) (by kernel_rfl) (by kernel_rfl) (fun _ _ _ h => h) (Or.inl ⟨by rfl, ?_⟩) hS ?_
        rotate_left
        · intro w hw
          go_simp
          try with_reducible rfl
        try simp only [Act.put, List.getElem_toArray, List.getElem_cons_succ, List.getElem_cons_zero, List.setIfInBounds_toArray, List.set_cons_zero, List.set_cons_succ]
        refine wpAnyH_take (i := 7) (v := ?_) rfl (by kernel_rfl) (by kernel_rfl) (by kernel_rfl) (fun _ _ _ h => h) (Or.inl ⟨by rfl, ?_⟩) hS ?_
        rotate_left
        · intro w hw
          go_simp
          try with_reducible rfl
        try simp only [Act.put, List.getElem_toArray, List.getElem_cons_succ, List.getElem_cons_zero, List.setIfInBounds_toArray, List.set_cons_zero, List.set_cons_succ]
        refine wpAnyH_take (i := 8) (v := ?_) rfl (by kernel_rfl) (by kernel_rfl) (by kernel_rfl) (fun _ _ _ h => h) (Or.inl ⟨by rfl, ?_⟩) hS ?_
        rotate_left
        · intro w hw
          obtain ⟨j0, j1, j2, j3, -, -, -, -⟩ := (show Bx w _ d from HX3.out.below hw.out HX3.out.lt).facts
          go_simp
          try with_reducible rfl
        try simp only [Act.put, List.getElem_toArray, List.getElem_cons_succ, List.getElem_cons_zero, List.setIfInBounds_toArray, List.set_cons_zero, List.set_cons_succ]
        refine wpAnyH_ready (rs := [5]) (by kernel_rfl) (by simp) ?_
        refine AllReadyH.cons rfl (fun K hK => ?_) AllReadyH.nil
        go_simp
        refine (entry_at x (HL.out.lay.below (HB3.out.trans (hS.out.mono HB3.out.size))) hx1 hxn).mono ?_
        rintro e W4 ⟨rfl, hb4⟩
        have HB4 := Lib.hid (hS.out.trans (hb4.mono hS.out.size))
        clear hb4
        go_wp2_with fail
        refine hK.out _ _ HB4 (fun _ => ?_)
        clear hK K hS
        refine wpAnyH_other (S' := fun w' => Hid (Below W4.heap.size W4 w')) (fun w hw => Lib.hid (HB4.out.trans (hw.out.mono HB4.out.size))) _ _ _ _ ?_
        have hS : Hid (Below W4.heap.size W4 W4) := Lib.hid (Below.refl _ _)
        try simp only [Act.put, List.getElem_toArray, List.getElem_cons_succ, List.getElem_cons_zero, List.setIfInBounds_toArray, List.set_cons_zero, List.set_cons_succ]
        refine wpAnyH_take (i := 6) (v := ?_) rfl (by kernel_rfl) (by kernel_rfl) (by kernel_rfl) (fun _ _ _ h => h) (Or.inl ⟨by rfl, ?_⟩) hS ?_
        rotate_left
        · intro w hw
          go_simp
          try with_reducible rfl
        try simp only [Act.put, List.getElem_toArray, List.getElem_cons_succ, List.getElem_cons_zero, List.setIfInBounds_toArray, List.set_cons_zero, List.set_cons_succ]
        refine wpAnyH_ready (rs := [9]) (by kernel_rfl) (by simp) ?_
        refine AllReadyH.cons rfl (fun K hK => ?_) AllReadyH.nil
        go_simp
        have hwa := HB3.out.trans (HB4.out.mono HB3.out.size)
        refine (cmp_any n.d.ka d.ka n.d.kc d.kc n.d.k d.k W4 ((HL.out.lay.below hwa).at_ hxn) ((HE.out.next hwa).at' fun k hk => hk)).mono ?_
        rintro e W5 ⟨rfl, hb5⟩
        have HB5 := Lib.hid hb5
        clear hb5 hwa
        go_wp2_with fail
        refine hK.out _ _ HB5 (fun _ => ?_)
        clear hK K hS
        refine wpAnyH_other (S' := fun w' => Hid (Below W5.heap.size W5 w')) (fun w hw => Lib.hid (HB5.out.trans (hw.out.mono HB5.out.size))) _ _ _ _ ?_
        have hS : Hid (Below W5.heap.size W5 W5) := Lib.hid (Below.refl _ _)
        try simp only [Act.put, List.getElem_toArray, List.getElem_cons_succ, List.getElem_cons_zero, List.setIfInBounds_toArray, List.set_cons_zero, List.set_cons_succ]
        refine wpAnyH_take (i := 10) (v := ?_) rfl (by kernel_rfl) (by kernel_rfl) (by kernel_rfl) (fun _ _ _ h => h) (Or.inl ⟨by rfl, ?_⟩) hS ?_
        rotate_left
        · intro w hw
          go_simp
          try with_reducible rfl
        try simp only [Act.put, List.getElem_toArray, List.getElem_cons_succ, List.getElem_cons_zero, List.setIfInBounds_toArray, List.set_cons_zero, List.set_cons_succ]
        refine wpAnyH_take (i := 11) (v := ?_) rfl (by kernel_rfl) (by kernel_rfl) (by kernel_rfl) (fun _ _ _ h => h) (Or.inl ⟨by rfl, ?_⟩) hS ?_
        rotate_left
        · intro w hw
          go_simp
          try with_reducible rfl
        try simp only [Act.put, List.getElem_toArray, List.getElem_cons_succ, List.getElem_cons_zero, List.setIfInBounds_toArray, List.set_cons_zero, List.set_cons_succ]
        refine wpAnyH_done (by kernel_rfl) ?_ _
        go_wp2_with fail
        go_meet
        exact ⟨by rw [E.out], HB4.out.trans (HB5.out.mono HB4.out.size)⟩
    case rest =>
    obtain ⟨rfl, hbc⟩ := hcut
    have HB6 := Lib.hid (HB3.out.trans (hbc.mono HB3.out.size))
    have HX6 : Hid (Bx wc w.heap.size d) := Lib.hid (HX3.out.below hbc HX3.out.lt)
    have HP6 : Hid (Lift.Box wc P 60 (ints ((List.range 12).map st))) := Lib.hid (HP3.out.below hbc HP3.out.lt)
    clear HBH hbc HB3 HX3 HP3
    obtain ⟨W6, hW6⟩ : ∃ W6, W6 = wc := ⟨_, rfl⟩
    rw [← hW6] at HB6 HX6 HP6 ⊢
    clear hW6
    cases tw with
    | true =>
      have htw := HTW.out.1 rfl
      have E := Lib.hid (show insE R d.t = 9 by unfold insE; rw [if_neg (by rw [hko]; decide), if_pos (show twice R d.t.k from htw)])
      have E2 := Lib.hid (show insT R d.t (hgt ht) = R by unfold insT; rw [E.out]; rfl)
      have HFIN := Lib.hid (show SL W6 g S R from ⟨fs, V, ns, L, HL.out.below HB6.out, HRR.out, hok⟩)
      clear htw h8
      go_wp2_with fail
      go_ret
      exact ⟨S, by rw [E.out]; rfl, by rw [E2.out]; exact HFIN.out, below_keep HB6.out, fun k hk => .inl hk⟩
    | false =>
      have htw : ¬ twice R d.k := fun h => by have := HTW.out.2 h; cases this
      have E := Lib.hid (show insE R d.t = 0 by unfold insE; rw [if_neg (by rw [hko]; decide), if_neg (show ¬ twice R d.t.k from htw)])
      have E2 := Lib.hid (show insT R d.t (hgt ht) = insR R d.t (hgt ht) by unfold insT; rw [if_pos E.out])
      have HNT := Lib.hid (twice_L (L := L) (k := d.k) (by rw [← HRR.out]; exact htw))
      have HHG := Lib.hid (hgt_le ht)
      obtain ⟨hh, hhd⟩ : ∃ hh, hh = hgt ht := ⟨_, rfl⟩
      rw [← hhd] at HHG
      have hmm : min (max ht 1) 12 = ((hh : Nat) : Int) := HHG.out.2.2.symm
      have hh12 : hh ≤ 12 := HHG.out.2.1
      have HHD := Lib.hid hhd
      have qM := make_ints hh (by omega)
      have HE6 := Lib.hid (HE.out.next HB6.out)
      clear htw hhd h8
      go_upto_region 8 with fail
      go_cut [9] (fun v9 wx => ∃ (X b : Nat) (d' : D), v9 = .pointer (some ⟨X, 0, none⟩) ∧ Added W6 d.t hh wx X b d')
      case first =>
        refine wp_region_held_drew (S := fun w' => Hid (Below W6.heap.size W6 w')) (by kernel_rfl) (Lib.hid (Below.refl _ _).drew) (fun hS => ?_)
        refine wpAnyH_take (i := 0) (v := ?_) rfl (by kernel_rfl) (by kernel_rfl) (by kernel_rfl) (fun _ _ _ h => h) (Or.inl ⟨by rfl, ?_⟩) hS ?_
        rotate_left
        · intro w hw
          obtain ⟨j0, j1, j2, j3, -, -, -, -⟩ := (show Bx w _ d from HX6.out.below hw.out HX6.out.lt).facts
          go_simp
          try with_reducible rfl
        try simp only [Act.put, List.getElem_toArray, List.getElem_cons_succ, List.getElem_cons_zero, List.setIfInBounds_toArray, List.set_cons_zero, List.set_cons_succ]
        refine wpAnyH_take (i := 2) (v := ?_) rfl (by kernel_rfl) (by kernel_rfl) (by kernel_rfl) (fun _ _ _ h => h) (Or.inl ⟨by rfl, ?_⟩) hS ?_
        rotate_left
        · intro w hw
          go_simp
          try with_reducible rfl
        try simp only [Act.put, List.getElem_toArray, List.getElem_cons_succ, List.getElem_cons_zero, List.setIfInBounds_toArray, List.set_cons_zero, List.set_cons_succ]
        obtain ⟨Wd, hWd⟩ : ∃ Wd, Wd = W6.drew := ⟨_, rfl⟩
        have HB : Hid (Below W6.heap.size W6 Wd) := Lib.hid (by rw [hWd]; exact (Below.refl _ _).drew)
        rw [← hWd]
        clear hWd
        refine wpAnyH_ready (rs := [1, 3, 5]) (by kernel_rfl) (by simp) ?_
        refine (AllReadyH.cons rfl (fun K hK => ?_) (AllReadyH.cons rfl (fun K hK => ?_) (AllReadyH.cons rfl (fun K hK => ?_) AllReadyH.nil)))
        · skip
          go_simp
          refine (sclone_any d Wd (HE6.out.next HB.out) HSM.out).mono ?_
          rintro e WwC ⟨d', rfl, hdt, hdo, hstep⟩
          go_wp2_with fail
          have hBold := HB.out
          have HB := Lib.hid (hBold.trans (hstep.mono hBold.size))
          have HD : Hid (d'.Ok WwC (Fresh W6.heap.size WwC)) := Lib.hid (hdo.mono fun k hk => Fresh.low hBold.size k hk)
          have HT := Lib.hid hdt
          clear hdt hdo
          refine hK.out _ _ (Lib.hid HB.out) (fun hS => ?_)
          clear hK K hstep hBold
          try simp only [Act.put, List.getElem_toArray, List.getElem_cons_succ, List.getElem_cons_zero, List.setIfInBounds_toArray, List.set_cons_zero, List.set_cons_succ]
          refine wpAnyH_ready (rs := [3, 5]) (by kernel_rfl) (by simp) ?_
          refine (AllReadyH.cons rfl (fun K hK => ?_) (AllReadyH.cons rfl (fun K hK => ?_) AllReadyH.nil))
          · skip
            go_simp
            obtain ⟨b, hbdef⟩ : ∃ b, b = WwC.heap.size := ⟨_, rfl⟩
            obtain ⟨WwCM, hW'⟩ : ∃ Wn, Wn = WwC.alloc (.cells (madeCells #[.int .i64 0] hh) 3) := ⟨_, rfl⟩
            have hnew : Lift.Box WwCM b Ty.int (ints (zeros' hh)) := by rw [hW', hbdef, made_ints]; exact Lift.Box.new _ _ _
            have hstep : Below WwC.heap.size WwC WwCM := by rw [hW']; exact Joins.below_alloc1 _ _
            rw [← hW', ← hbdef]
            have hBold := HB.out
            have HB := Lib.hid (hBold.trans (hstep.mono hBold.size))
            have HD := Lib.hid (HD.out.later (fun k hk => hstep.block k hk.2.1) fun k hk => Fresh.below hstep k hk)
            have HM := Lib.hid hnew
            have HBB : Hid (W6.heap.size ≤ b) := Lib.hid (by rw [hbdef]; exact hBold.size)
            clear hnew hbdef hW'
            refine hK.out _ _ (Lib.hid HB.out) (fun hS => ?_)
            clear hK K hstep hBold
            try simp only [Act.put, List.getElem_toArray, List.getElem_cons_succ, List.getElem_cons_zero, List.setIfInBounds_toArray, List.set_cons_zero, List.set_cons_succ]
            refine wpAnyH_take (i := 4) (v := ?_) rfl (by kernel_rfl) (by kernel_rfl) (by kernel_rfl) (fun _ _ _ h => h) (Or.inl ⟨by rfl, ?_⟩) hS ?_
            rotate_left
            · intro w hw
              go_simp
              try with_reducible rfl
            try simp only [Act.put, List.getElem_toArray, List.getElem_cons_succ, List.getElem_cons_zero, List.setIfInBounds_toArray, List.set_cons_zero, List.set_cons_succ]
            refine wpAnyH_ready (rs := [5]) (by kernel_rfl) (by simp) ?_
            refine (AllReadyH.cons rfl (fun K hK => ?_) AllReadyH.nil)
            go_simp
            obtain ⟨X, hXdef⟩ : ∃ X, X = WwCM.heap.size := ⟨_, rfl⟩
            obtain ⟨WwCMA, hW'⟩ : ∃ Wn, Wn = WwCM.alloc (.cells #[.slice none 0 0, .int .u64 0, .int .i64 0, .slice none 0 0, .slice none 0 0] 72) := ⟨_, rfl⟩
            have hnew : Lift.Box WwCMA X Ty.node zn := by rw [hW', hXdef]; exact Lift.Box.new _ _ _
            have hstep : Below WwCM.heap.size WwCM WwCMA := by rw [hW']; exact Joins.below_alloc1 _ _
            rw [← hW', ← hXdef]
            have hBold := HB.out
            have HB := Lib.hid (hBold.trans (hstep.mono hBold.size))
            have HD := Lib.hid (HD.out.later (fun k hk => hstep.block k hk.2.1) fun k hk => Fresh.below hstep k hk)
            have HM := Lib.hid (HM.out.below hstep HM.out.lt)
            have HA := Lib.hid hnew
            have HXB : Hid (W6.heap.size ≤ X) := Lib.hid (by rw [hXdef]; exact hBold.size)
            clear hnew hXdef hW'
            refine hK.out _ _ (Lib.hid HB.out) (fun hS => ?_)
            clear hK K hstep hBold
            try simp only [Act.put, List.getElem_toArray, List.getElem_cons_succ, List.getElem_cons_zero, List.setIfInBounds_toArray, List.set_cons_zero, List.set_cons_succ]
            have HADD := Lib.hid (added_mk HB.out HT.out HD.out HM.out HA.out HBB.out HXB.out)
            refine wpAnyH_ready (rs := [6]) (by kernel_rfl) (by simp) ?_
            refine (AllReadyH.cons rfl (fun K hK => ?_) AllReadyH.nil)
            refine held_store rfl _ _ _ rfl X (ncells d' b hh).toArray rfl rfl _ zn.toArray HA.out (by kernel_rfl) rfl (by kernel_rfl) ?_
            refine hK.out _ _ (Lib.hid HADD.out.below) (fun hS => ?_)
            clear hK K
            try simp only [Act.put, List.getElem_toArray, List.getElem_cons_succ, List.getElem_cons_zero, List.setIfInBounds_toArray, List.set_cons_zero, List.set_cons_succ]
            refine wpAnyH_done (by kernel_rfl) ?_ _
            go_wp2_with fail
            go_meet
            exact ⟨_, _, _, rfl, HADD.out⟩
          · skip
            go_simp
            obtain ⟨X, hXdef⟩ : ∃ X, X = WwC.heap.size := ⟨_, rfl⟩
            obtain ⟨WwCA, hW'⟩ : ∃ Wn, Wn = WwC.alloc (.cells #[.slice none 0 0, .int .u64 0, .int .i64 0, .slice none 0 0, .slice none 0 0] 72) := ⟨_, rfl⟩
            have hnew : Lift.Box WwCA X Ty.node zn := by rw [hW', hXdef]; exact Lift.Box.new _ _ _
            have hstep : Below WwC.heap.size WwC WwCA := by rw [hW']; exact Joins.below_alloc1 _ _
            rw [← hW', ← hXdef]
            have hBold := HB.out
            have HB := Lib.hid (hBold.trans (hstep.mono hBold.size))
            have HD := Lib.hid (HD.out.later (fun k hk => hstep.block k hk.2.1) fun k hk => Fresh.below hstep k hk)
            have HA := Lib.hid hnew
            have HXB : Hid (W6.heap.size ≤ X) := Lib.hid (by rw [hXdef]; exact hBold.size)
            clear hnew hXdef hW'
            refine hK.out _ _ (Lib.hid HB.out) (fun hS => ?_)
            clear hK K hstep hBold
            try simp only [Act.put, List.getElem_toArray, List.getElem_cons_succ, List.getElem_cons_zero, List.setIfInBounds_toArray, List.set_cons_zero, List.set_cons_succ]
            refine wpAnyH_ready (rs := [3]) (by kernel_rfl) (by simp) ?_
            refine (AllReadyH.cons rfl (fun K hK => ?_) AllReadyH.nil)
            go_simp
            obtain ⟨b, hbdef⟩ : ∃ b, b = WwCA.heap.size := ⟨_, rfl⟩
            obtain ⟨WwCAM, hW'⟩ : ∃ Wn, Wn = WwCA.alloc (.cells (madeCells #[.int .i64 0] hh) 3) := ⟨_, rfl⟩
            have hnew : Lift.Box WwCAM b Ty.int (ints (zeros' hh)) := by rw [hW', hbdef, made_ints]; exact Lift.Box.new _ _ _
            have hstep : Below WwCA.heap.size WwCA WwCAM := by rw [hW']; exact Joins.below_alloc1 _ _
            rw [← hW', ← hbdef]
            have hBold := HB.out
            have HB := Lib.hid (hBold.trans (hstep.mono hBold.size))
            have HD := Lib.hid (HD.out.later (fun k hk => hstep.block k hk.2.1) fun k hk => Fresh.below hstep k hk)
            have HA := Lib.hid (HA.out.below hstep HA.out.lt)
            have HM := Lib.hid hnew
            have HBB : Hid (W6.heap.size ≤ b) := Lib.hid (by rw [hbdef]; exact hBold.size)
            clear hnew hbdef hW'
            refine hK.out _ _ (Lib.hid HB.out) (fun hS => ?_)
            clear hK K hstep hBold
            try simp only [Act.put, List.getElem_toArray, List.getElem_cons_succ, List.getElem_cons_zero, List.setIfInBounds_toArray, List.set_cons_zero, List.set_cons_succ]
            refine wpAnyH_take (i := 4) (v := ?_) rfl (by kernel_rfl) (by kernel_rfl) (by kernel_rfl) (fun _ _ _ h => h) (Or.inl ⟨by rfl, ?_⟩) hS ?_
            rotate_left
            · intro w hw
              go_simp
              try with_reducible rfl
            try simp only [Act.put, List.getElem_toArray, List.getElem_cons_succ, List.getElem_cons_zero, List.setIfInBounds_toArray, List.set_cons_zero, List.set_cons_succ]
            have HADD := Lib.hid (added_mk HB.out HT.out HD.out HM.out HA.out HBB.out HXB.out)
            refine wpAnyH_ready (rs := [6]) (by kernel_rfl) (by simp) ?_
            refine (AllReadyH.cons rfl (fun K hK => ?_) AllReadyH.nil)
            refine held_store rfl _ _ _ rfl X (ncells d' b hh).toArray rfl rfl _ zn.toArray HA.out (by kernel_rfl) rfl (by kernel_rfl) ?_
            refine hK.out _ _ (Lib.hid HADD.out.below) (fun hS => ?_)
            clear hK K
            try simp only [Act.put, List.getElem_toArray, List.getElem_cons_succ, List.getElem_cons_zero, List.setIfInBounds_toArray, List.set_cons_zero, List.set_cons_succ]
            refine wpAnyH_done (by kernel_rfl) ?_ _
            go_wp2_with fail
            go_meet
            exact ⟨_, _, _, rfl, HADD.out⟩
        · skip
          go_simp
          obtain ⟨b, hbdef⟩ : ∃ b, b = Wd.heap.size := ⟨_, rfl⟩
          obtain ⟨WwM, hW'⟩ : ∃ Wn, Wn = Wd.alloc (.cells (madeCells #[.int .i64 0] hh) 3) := ⟨_, rfl⟩
          have hnew : Lift.Box WwM b Ty.int (ints (zeros' hh)) := by rw [hW', hbdef, made_ints]; exact Lift.Box.new _ _ _
          have hstep : Below Wd.heap.size Wd WwM := by rw [hW']; exact Joins.below_alloc1 _ _
          rw [← hW', ← hbdef]
          have hBold := HB.out
          have HB := Lib.hid (hBold.trans (hstep.mono hBold.size))
          have HM := Lib.hid hnew
          have HBB : Hid (W6.heap.size ≤ b) := Lib.hid (by rw [hbdef]; exact hBold.size)
          clear hnew hbdef hW'
          refine hK.out _ _ (Lib.hid HB.out) (fun hS => ?_)
          clear hK K hstep hBold
          try simp only [Act.put, List.getElem_toArray, List.getElem_cons_succ, List.getElem_cons_zero, List.setIfInBounds_toArray, List.set_cons_zero, List.set_cons_succ]
          refine wpAnyH_ready (rs := [1, 5]) (by kernel_rfl) (by simp) ?_
          refine (AllReadyH.cons rfl (fun K hK => ?_) (AllReadyH.cons rfl (fun K hK => ?_) AllReadyH.nil))
          · skip
            go_simp
            refine (sclone_any d WwM (HE6.out.next HB.out) HSM.out).mono ?_
            rintro e WwMC ⟨d', rfl, hdt, hdo, hstep⟩
            go_wp2_with fail
            have hBold := HB.out
            have HB := Lib.hid (hBold.trans (hstep.mono hBold.size))
            have HM := Lib.hid (HM.out.below hstep HM.out.lt)
            have HD : Hid (d'.Ok WwMC (Fresh W6.heap.size WwMC)) := Lib.hid (hdo.mono fun k hk => Fresh.low hBold.size k hk)
            have HT := Lib.hid hdt
            clear hdt hdo
            refine hK.out _ _ (Lib.hid HB.out) (fun hS => ?_)
            clear hK K hstep hBold
            try simp only [Act.put, List.getElem_toArray, List.getElem_cons_succ, List.getElem_cons_zero, List.setIfInBounds_toArray, List.set_cons_zero, List.set_cons_succ]
            refine wpAnyH_take (i := 4) (v := ?_) rfl (by kernel_rfl) (by kernel_rfl) (by kernel_rfl) (fun _ _ _ h => h) (Or.inl ⟨by rfl, ?_⟩) hS ?_
            rotate_left
            · intro w hw
              go_simp
              try with_reducible rfl
            try simp only [Act.put, List.getElem_toArray, List.getElem_cons_succ, List.getElem_cons_zero, List.setIfInBounds_toArray, List.set_cons_zero, List.set_cons_succ]
            refine wpAnyH_ready (rs := [5]) (by kernel_rfl) (by simp) ?_
            refine (AllReadyH.cons rfl (fun K hK => ?_) AllReadyH.nil)
            go_simp
            obtain ⟨X, hXdef⟩ : ∃ X, X = WwMC.heap.size := ⟨_, rfl⟩
            obtain ⟨WwMCA, hW'⟩ : ∃ Wn, Wn = WwMC.alloc (.cells #[.slice none 0 0, .int .u64 0, .int .i64 0, .slice none 0 0, .slice none 0 0] 72) := ⟨_, rfl⟩
            have hnew : Lift.Box WwMCA X Ty.node zn := by rw [hW', hXdef]; exact Lift.Box.new _ _ _
            have hstep : Below WwMC.heap.size WwMC WwMCA := by rw [hW']; exact Joins.below_alloc1 _ _
            rw [← hW', ← hXdef]
            have hBold := HB.out
            have HB := Lib.hid (hBold.trans (hstep.mono hBold.size))
            have HD := Lib.hid (HD.out.later (fun k hk => hstep.block k hk.2.1) fun k hk => Fresh.below hstep k hk)
            have HM := Lib.hid (HM.out.below hstep HM.out.lt)
            have HA := Lib.hid hnew
            have HXB : Hid (W6.heap.size ≤ X) := Lib.hid (by rw [hXdef]; exact hBold.size)
            clear hnew hXdef hW'
            refine hK.out _ _ (Lib.hid HB.out) (fun hS => ?_)
            clear hK K hstep hBold
            try simp only [Act.put, List.getElem_toArray, List.getElem_cons_succ, List.getElem_cons_zero, List.setIfInBounds_toArray, List.set_cons_zero, List.set_cons_succ]
            have HADD := Lib.hid (added_mk HB.out HT.out HD.out HM.out HA.out HBB.out HXB.out)
            refine wpAnyH_ready (rs := [6]) (by kernel_rfl) (by simp) ?_
            refine (AllReadyH.cons rfl (fun K hK => ?_) AllReadyH.nil)
            refine held_store rfl _ _ _ rfl X (ncells d' b hh).toArray rfl rfl _ zn.toArray HA.out (by kernel_rfl) rfl (by kernel_rfl) ?_
            refine hK.out _ _ (Lib.hid HADD.out.below) (fun hS => ?_)
            clear hK K
            try simp only [Act.put, List.getElem_toArray, List.getElem_cons_succ, List.getElem_cons_zero, List.setIfInBounds_toArray, List.set_cons_zero, List.set_cons_succ]
            refine wpAnyH_done (by kernel_rfl) ?_ _
            go_wp2_with fail
            go_meet
            exact ⟨_, _, _, rfl, HADD.out⟩
          · skip
            go_simp
            obtain ⟨X, hXdef⟩ : ∃ X, X = WwM.heap.size := ⟨_, rfl⟩
            obtain ⟨WwMA, hW'⟩ : ∃ Wn, Wn = WwM.alloc (.cells #[.slice none 0 0, .int .u64 0, .int .i64 0, .slice none 0 0, .slice none 0 0] 72) := ⟨_, rfl⟩
            have hnew : Lift.Box WwMA X Ty.node zn := by rw [hW', hXdef]; exact Lift.Box.new _ _ _
            have hstep : Below WwM.heap.size WwM WwMA := by rw [hW']; exact Joins.below_alloc1 _ _
            rw [← hW', ← hXdef]
            have hBold := HB.out
            have HB := Lib.hid (hBold.trans (hstep.mono hBold.size))
            have HM := Lib.hid (HM.out.below hstep HM.out.lt)
            have HA := Lib.hid hnew
            have HXB : Hid (W6.heap.size ≤ X) := Lib.hid (by rw [hXdef]; exact hBold.size)
            clear hnew hXdef hW'
            refine hK.out _ _ (Lib.hid HB.out) (fun hS => ?_)
            clear hK K hstep hBold
            try simp only [Act.put, List.getElem_toArray, List.getElem_cons_succ, List.getElem_cons_zero, List.setIfInBounds_toArray, List.set_cons_zero, List.set_cons_succ]
            refine wpAnyH_ready (rs := [1]) (by kernel_rfl) (by simp) ?_
            refine (AllReadyH.cons rfl (fun K hK => ?_) AllReadyH.nil)
            go_simp
            refine (sclone_any d WwMA (HE6.out.next HB.out) HSM.out).mono ?_
            rintro e WwMAC ⟨d', rfl, hdt, hdo, hstep⟩
            go_wp2_with fail
            have hBold := HB.out
            have HB := Lib.hid (hBold.trans (hstep.mono hBold.size))
            have HM := Lib.hid (HM.out.below hstep HM.out.lt)
            have HA := Lib.hid (HA.out.below hstep HA.out.lt)
            have HD : Hid (d'.Ok WwMAC (Fresh W6.heap.size WwMAC)) := Lib.hid (hdo.mono fun k hk => Fresh.low hBold.size k hk)
            have HT := Lib.hid hdt
            clear hdt hdo
            refine hK.out _ _ (Lib.hid HB.out) (fun hS => ?_)
            clear hK K hstep hBold
            try simp only [Act.put, List.getElem_toArray, List.getElem_cons_succ, List.getElem_cons_zero, List.setIfInBounds_toArray, List.set_cons_zero, List.set_cons_succ]
            refine wpAnyH_take (i := 4) (v := ?_) rfl (by kernel_rfl) (by kernel_rfl) (by kernel_rfl) (fun _ _ _ h => h) (Or.inl ⟨by rfl, ?_⟩) hS ?_
            rotate_left
            · intro w hw
              go_simp
              try with_reducible rfl
            try simp only [Act.put, List.getElem_toArray, List.getElem_cons_succ, List.getElem_cons_zero, List.setIfInBounds_toArray, List.set_cons_zero, List.set_cons_succ]
            have HADD := Lib.hid (added_mk HB.out HT.out HD.out HM.out HA.out HBB.out HXB.out)
            refine wpAnyH_ready (rs := [6]) (by kernel_rfl) (by simp) ?_
            refine (AllReadyH.cons rfl (fun K hK => ?_) AllReadyH.nil)
            refine held_store rfl _ _ _ rfl X (ncells d' b hh).toArray rfl rfl _ zn.toArray HA.out (by kernel_rfl) rfl (by kernel_rfl) ?_
            refine hK.out _ _ (Lib.hid HADD.out.below) (fun hS => ?_)
            clear hK K
            try simp only [Act.put, List.getElem_toArray, List.getElem_cons_succ, List.getElem_cons_zero, List.setIfInBounds_toArray, List.set_cons_zero, List.set_cons_succ]
            refine wpAnyH_done (by kernel_rfl) ?_ _
            go_wp2_with fail
            go_meet
            exact ⟨_, _, _, rfl, HADD.out⟩
        · skip
          go_simp
          obtain ⟨X, hXdef⟩ : ∃ X, X = Wd.heap.size := ⟨_, rfl⟩
          obtain ⟨WwA, hW'⟩ : ∃ Wn, Wn = Wd.alloc (.cells #[.slice none 0 0, .int .u64 0, .int .i64 0, .slice none 0 0, .slice none 0 0] 72) := ⟨_, rfl⟩
          have hnew : Lift.Box WwA X Ty.node zn := by rw [hW', hXdef]; exact Lift.Box.new _ _ _
          have hstep : Below Wd.heap.size Wd WwA := by rw [hW']; exact Joins.below_alloc1 _ _
          rw [← hW', ← hXdef]
          have hBold := HB.out
          have HB := Lib.hid (hBold.trans (hstep.mono hBold.size))
          have HA := Lib.hid hnew
          have HXB : Hid (W6.heap.size ≤ X) := Lib.hid (by rw [hXdef]; exact hBold.size)
          clear hnew hXdef hW'
          refine hK.out _ _ (Lib.hid HB.out) (fun hS => ?_)
          clear hK K hstep hBold
          try simp only [Act.put, List.getElem_toArray, List.getElem_cons_succ, List.getElem_cons_zero, List.setIfInBounds_toArray, List.set_cons_zero, List.set_cons_succ]
          refine wpAnyH_ready (rs := [1, 3]) (by kernel_rfl) (by simp) ?_
          refine (AllReadyH.cons rfl (fun K hK => ?_) (AllReadyH.cons rfl (fun K hK => ?_) AllReadyH.nil))
          · skip
            go_simp
            refine (sclone_any d WwA (HE6.out.next HB.out) HSM.out).mono ?_
            rintro e WwAC ⟨d', rfl, hdt, hdo, hstep⟩
            go_wp2_with fail
            have hBold := HB.out
            have HB := Lib.hid (hBold.trans (hstep.mono hBold.size))
            have HA := Lib.hid (HA.out.below hstep HA.out.lt)
            have HD : Hid (d'.Ok WwAC (Fresh W6.heap.size WwAC)) := Lib.hid (hdo.mono fun k hk => Fresh.low hBold.size k hk)
            have HT := Lib.hid hdt
            clear hdt hdo
            refine hK.out _ _ (Lib.hid HB.out) (fun hS => ?_)
            clear hK K hstep hBold
            try simp only [Act.put, List.getElem_toArray, List.getElem_cons_succ, List.getElem_cons_zero, List.setIfInBounds_toArray, List.set_cons_zero, List.set_cons_succ]
            refine wpAnyH_ready (rs := [3]) (by kernel_rfl) (by simp) ?_
            refine (AllReadyH.cons rfl (fun K hK => ?_) AllReadyH.nil)
            go_simp
            obtain ⟨b, hbdef⟩ : ∃ b, b = WwAC.heap.size := ⟨_, rfl⟩
            obtain ⟨WwACM, hW'⟩ : ∃ Wn, Wn = WwAC.alloc (.cells (madeCells #[.int .i64 0] hh) 3) := ⟨_, rfl⟩
            have hnew : Lift.Box WwACM b Ty.int (ints (zeros' hh)) := by rw [hW', hbdef, made_ints]; exact Lift.Box.new _ _ _
            have hstep : Below WwAC.heap.size WwAC WwACM := by rw [hW']; exact Joins.below_alloc1 _ _
            rw [← hW', ← hbdef]
            have hBold := HB.out
            have HB := Lib.hid (hBold.trans (hstep.mono hBold.size))
            have HD := Lib.hid (HD.out.later (fun k hk => hstep.block k hk.2.1) fun k hk => Fresh.below hstep k hk)
            have HA := Lib.hid (HA.out.below hstep HA.out.lt)
            have HM := Lib.hid hnew
            have HBB : Hid (W6.heap.size ≤ b) := Lib.hid (by rw [hbdef]; exact hBold.size)
            clear hnew hbdef hW'
            refine hK.out _ _ (Lib.hid HB.out) (fun hS => ?_)
            clear hK K hstep hBold
            try simp only [Act.put, List.getElem_toArray, List.getElem_cons_succ, List.getElem_cons_zero, List.setIfInBounds_toArray, List.set_cons_zero, List.set_cons_succ]
            refine wpAnyH_take (i := 4) (v := ?_) rfl (by kernel_rfl) (by kernel_rfl) (by kernel_rfl) (fun _ _ _ h => h) (Or.inl ⟨by rfl, ?_⟩) hS ?_
            rotate_left
            · intro w hw
              go_simp
              try with_reducible rfl
            try simp only [Act.put, List.getElem_toArray, List.getElem_cons_succ, List.getElem_cons_zero, List.setIfInBounds_toArray, List.set_cons_zero, List.set_cons_succ]
            have HADD := Lib.hid (added_mk HB.out HT.out HD.out HM.out HA.out HBB.out HXB.out)
            refine wpAnyH_ready (rs := [6]) (by kernel_rfl) (by simp) ?_
            refine (AllReadyH.cons rfl (fun K hK => ?_) AllReadyH.nil)
            refine held_store rfl _ _ _ rfl X (ncells d' b hh).toArray rfl rfl _ zn.toArray HA.out (by kernel_rfl) rfl (by kernel_rfl) ?_
            refine hK.out _ _ (Lib.hid HADD.out.below) (fun hS => ?_)
            clear hK K
            try simp only [Act.put, List.getElem_toArray, List.getElem_cons_succ, List.getElem_cons_zero, List.setIfInBounds_toArray, List.set_cons_zero, List.set_cons_succ]
            refine wpAnyH_done (by kernel_rfl) ?_ _
            go_wp2_with fail
            go_meet
            exact ⟨_, _, _, rfl, HADD.out⟩
          · skip
            go_simp
            obtain ⟨b, hbdef⟩ : ∃ b, b = WwA.heap.size := ⟨_, rfl⟩
            obtain ⟨WwAM, hW'⟩ : ∃ Wn, Wn = WwA.alloc (.cells (madeCells #[.int .i64 0] hh) 3) := ⟨_, rfl⟩
            have hnew : Lift.Box WwAM b Ty.int (ints (zeros' hh)) := by rw [hW', hbdef, made_ints]; exact Lift.Box.new _ _ _
            have hstep : Below WwA.heap.size WwA WwAM := by rw [hW']; exact Joins.below_alloc1 _ _
            rw [← hW', ← hbdef]
            have hBold := HB.out
            have HB := Lib.hid (hBold.trans (hstep.mono hBold.size))
            have HA := Lib.hid (HA.out.below hstep HA.out.lt)
            have HM := Lib.hid hnew
            have HBB : Hid (W6.heap.size ≤ b) := Lib.hid (by rw [hbdef]; exact hBold.size)
            clear hnew hbdef hW'
            refine hK.out _ _ (Lib.hid HB.out) (fun hS => ?_)
            clear hK K hstep hBold
            try simp only [Act.put, List.getElem_toArray, List.getElem_cons_succ, List.getElem_cons_zero, List.setIfInBounds_toArray, List.set_cons_zero, List.set_cons_succ]
            refine wpAnyH_ready (rs := [1]) (by kernel_rfl) (by simp) ?_
            refine (AllReadyH.cons rfl (fun K hK => ?_) AllReadyH.nil)
            go_simp
            refine (sclone_any d WwAM (HE6.out.next HB.out) HSM.out).mono ?_
            rintro e WwAMC ⟨d', rfl, hdt, hdo, hstep⟩
            go_wp2_with fail
            have hBold := HB.out
            have HB := Lib.hid (hBold.trans (hstep.mono hBold.size))
            have HM := Lib.hid (HM.out.below hstep HM.out.lt)
            have HA := Lib.hid (HA.out.below hstep HA.out.lt)
            have HD : Hid (d'.Ok WwAMC (Fresh W6.heap.size WwAMC)) := Lib.hid (hdo.mono fun k hk => Fresh.low hBold.size k hk)
            have HT := Lib.hid hdt
            clear hdt hdo
            refine hK.out _ _ (Lib.hid HB.out) (fun hS => ?_)
            clear hK K hstep hBold
            try simp only [Act.put, List.getElem_toArray, List.getElem_cons_succ, List.getElem_cons_zero, List.setIfInBounds_toArray, List.set_cons_zero, List.set_cons_succ]
            refine wpAnyH_take (i := 4) (v := ?_) rfl (by kernel_rfl) (by kernel_rfl) (by kernel_rfl) (fun _ _ _ h => h) (Or.inl ⟨by rfl, ?_⟩) hS ?_
            rotate_left
            · intro w hw
              go_simp
              try with_reducible rfl
            try simp only [Act.put, List.getElem_toArray, List.getElem_cons_succ, List.getElem_cons_zero, List.setIfInBounds_toArray, List.set_cons_zero, List.set_cons_succ]
            have HADD := Lib.hid (added_mk HB.out HT.out HD.out HM.out HA.out HBB.out HXB.out)
            refine wpAnyH_ready (rs := [6]) (by kernel_rfl) (by simp) ?_
            refine (AllReadyH.cons rfl (fun K hK => ?_) AllReadyH.nil)
            refine held_store rfl _ _ _ rfl X (ncells d' b hh).toArray rfl rfl _ zn.toArray HA.out (by kernel_rfl) rfl (by kernel_rfl) ?_
            refine hK.out _ _ (Lib.hid HADD.out.below) (fun hS => ?_)
            clear hK K
            try simp only [Act.put, List.getElem_toArray, List.getElem_cons_succ, List.getElem_cons_zero, List.setIfInBounds_toArray, List.set_cons_zero, List.set_cons_succ]
            refine wpAnyH_done (by kernel_rfl) ?_ _
            go_wp2_with fail
            go_meet
            exact ⟨_, _, _, rfl, HADD.out⟩
      case rest =>
      obtain ⟨X, b, d', rfl, hadd⟩ := hcut
      have HA := Lib.hid hadd
      have HT' := Lib.hid hadd.told
      have HB7 := Lib.hid (HB6.out.trans (hadd.below.mono HB6.out.size))
      have HX7 : Hid (Bx wc w.heap.size d) := Lib.hid (HX6.out.below hadd.below HX6.out.lt)
      have HP7 : Hid (Lift.Box wc P 60 (ints ((List.range 12).map st))) := Lib.hid (HP6.out.below hadd.below HP6.out.lt)
      have HPL := Lib.hid (show P < W6.heap.size ∧ w.heap.size < W6.heap.size from ⟨HP6.out.lt, HX6.out.lt⟩)
      have hl7 := HL.out.lay.below HB7.out
      have hlen : ns.length ≤ 150 := by
        have h1 := HL.out.len
        have h2 : R.length = L.length := by rw [HRR.out, List.length_map]
        omega
      obtain ⟨W7, hW7⟩ : ∃ W7, W7 = wc := ⟨_, rfl⟩
      rw [← hW7] at HA HB7 HX7 HP7 hl7 ⊢
      clear hW7 hadd qM HE6 HX6 HP6 HB6
      -- the append
      have hbd := (Joins.below_draws W7.heap.size W7 1)
      have hb78 : Below W7.heap.size W7 (W7.drew.alloc (.cells (ncells d' b hh).toArray Ty.node)) := (Below.refl _ _).drew.trans ((Joins.below_alloc1 W7.drew _).mono (Nat.le_refl _))
      have hl8 : Lies (W7.drew.alloc (.cells (ncells d' b hh).toArray Ty.node)) (W7.heap.size + 1) (some ⟨W7.heap.size, 0, none⟩) (ncells d' b hh) := lies_block (cs := (ncells d' b hh).toArray) (heap_alloc_new W7.drew _) (Nat.lt_succ_self _)
      obtain ⟨v8, W8, hr8, hown8, hon8⟩ := run_append_onto (P := Try.prog) (m := 1) (c := 1) 61 61 Ty.node (.agg #[.slice none 0 0, .int .u64 0, .int .i64 0, .slice none 0 0, .slice none 0 0]) 5 88 Try.underlying61 (by kernel_rfl) rfl (by decide)
        (fun u hu => by simp [ncells] at hu; rcases hu with rfl | rfl | rfl | rfl | rfl <;> rfl) (own_later hl7.own hb78) hl8 rfl (by unfold maxLen; omega) (by omega) (Nat.zero_le _)
      obtain ⟨A8, c8, rfl, hc8, hm8, -⟩ := own_parts hown8
      have hadds := Lay.add hl7 HA.out (fun k hk => Nat.lt_trans (HL.out.lay.lt k hk) HPL.out.2) HHG.out.1 hh12 (by omega) hb78 hon8 hown8 (S' := fun k => S k ∨ (W6.heap.size ≤ k ∧ k < W8.heap.size ∧ k ≠ X)) (fun k => Iff.rfl)
      obtain ⟨W9, hW9⟩ : ∃ W9, W9 = W8.setCell ⟨g, 12, none⟩ (.slice A8 (ns.length + 1) c8) := ⟨_, rfl⟩
      rw [← hW9] at hadds
      obtain ⟨hl9, hk9, hz9⟩ := hadds
      have hgv : ¬ V.ownBlock = some g := fun hv => by
        obtain ⟨cs2, fr2, h3⟩ := own_blk hl7.own hv
        exact box_ne hl7.box h3 (by decide) rfl
      have hbx8 : Lift.Box W8 g Ty.list (ints fs ++ [V, .int .i64 (bytesR R : Int)]) := by
        refine hl7.box.at_block ?_
        rw [hon8.keep.block g (Nat.lt_of_lt_of_le hl7.box.lt hb78.size) hgv, hb78.block g hl7.box.lt]
      have hc12 : W8.cell? ⟨g, 12, none⟩ = some V := by
        rw [hbx8.cell 12, List.getElem?_append_right (by simp [hl7.fl])]; simp [hl7.fl]
      have HC12 := Lib.hid (And.intro hc12 (hbx8.free 12))
      have hk78 : Keep (fun k => V.ownBlock = some k ∨ k = g) W7 (W7.drew.alloc (.cells (ncells d' b hh).toArray Ty.node)) := below_keep hb78
      have hk8 : Keep (fun k => V.ownBlock = some k ∨ k = g) W7 W8 := hk78.trans (hon8.keep.mono (T := fun k => V.ownBlock = some k ∨ k = g) fun k hk => .inl hk) fun _ _ h => h
      have HK9 : Hid (Keep (fun k => V.ownBlock = some k ∨ k = g) W7 (W8.setCell ⟨g, 12, none⟩ (.slice A8 (ns.length + 1) c8))) := Lib.hid (hk8.setCell (p := ⟨g, 12, none⟩) (.inr (.inr rfl)) _)
      have HK78 := Lib.hid hk78
      have HK8 := Lib.hid hk8
      have HC7 := Lib.hid (show W7.drew.cell? ⟨g, 12, none⟩ = some V from hl7.rows.1)
      have HC78 := Lib.hid (show (W7.alloc (.cells #[.slice d'.ka d'.k.key.length d'.kc, .int .u64 (d'.k.seq : Int), .int .i64 d'.k.kind, .slice d'.va d'.val.length d'.vc, .slice (some ⟨b, 0, none⟩) hh hh] 72)).cell? ⟨g, 12, none⟩ = some V from (hb78.cell (p := ⟨g, 12, none⟩) hl7.box.lt).trans hl7.rows.1)
      have HXO : Hid (¬ (V.ownBlock = some X ∨ X = g)) := Lib.hid fun h => by
        have h2 := HA.out.hX
        have h3 := HPL.out.2
        rcases h with h | h
        · have := HL.out.lay.lt X (HL.out.lay.sv X h); omega
        · have := HL.out.lay.lt g HL.out.lay.sg; omega
      have HR8 := Lib.hid hr8
      have HL9 := Lib.hid hl9
      have HK79 := Lib.hid hk9
      have HZ9 := Lib.hid hz9
      have HW9 := Lib.hid hW9
      clear hl9 hk9 hz9 hgv hbx8 hc12 hk78 hk8 hr8 hl7 hb78 hl8 hown8 hon8 hbd hW9
      obtain ⟨n1, hn1⟩ : ∃ n1, n1 = ns.length + 1 := ⟨_, rfl⟩
      rw [← hn1] at HR8 HK9 HW9 HL9
      have HN1 := Lib.hid hn1
      clear hn1
      go_upto_region 9 with fail
      go_cut [] (fun wx => wx = W8.setCell ⟨g, 12, none⟩ (.slice A8 n1 c8))
      case first =>
        refine wp_region_held_drew (S := fun w' => Hid (Keep (fun k => V.ownBlock = some k ∨ k = g) W7 w')) (by kernel_rfl) (Lib.hid (Keep.refl _ _).drew) (fun hS => ?_)
        refine wpAnyH_take (i := 0) (v := ?_) rfl (by kernel_rfl) (by kernel_rfl) (by kernel_rfl) (fun _ _ _ h => h) (Or.inl ⟨by rfl, ?_⟩) hS ?_
        rotate_left
        · intro w hw
          go_simp
          try with_reducible rfl
        try simp only [Act.put, List.getElem_toArray, List.getElem_cons_succ, List.getElem_cons_zero, List.setIfInBounds_toArray, List.set_cons_zero, List.set_cons_succ]
        refine wpAnyH_take (i := 1) (v := ?_) rfl (by kernel_rfl) (by kernel_rfl) (by kernel_rfl) (fun _ _ _ h => h) (Or.inl ⟨by rfl, ?_⟩) hS ?_
        rotate_left
        · intro w hw
          go_simp
          try with_reducible rfl
        try simp only [Act.put, List.getElem_toArray, List.getElem_cons_succ, List.getElem_cons_zero, List.setIfInBounds_toArray, List.set_cons_zero, List.set_cons_succ]
        refine wpAnyH_take (i := 2) (v := ?_) rfl (by kernel_rfl) (by kernel_rfl) (by kernel_rfl) (fun _ _ _ h => h) (Or.inl ⟨by rfl, ?_⟩) hS ?_
        rotate_left
        · intro w hw
          go_simp
          try with_reducible rfl
        try simp only [Act.put, List.getElem_toArray, List.getElem_cons_succ, List.getElem_cons_zero, List.setIfInBounds_toArray, List.set_cons_zero, List.set_cons_succ]
        refine wpAnyH_take (i := 3) (v := ?_) rfl (by kernel_rfl) (by kernel_rfl) (by kernel_rfl) (fun _ _ _ h => h) (Or.inl ⟨by rfl, ?_⟩) hS ?_
        rotate_left
        · intro w hw
          go_simp
          try with_reducible rfl
        try simp only [Act.put, List.getElem_toArray, List.getElem_cons_succ, List.getElem_cons_zero, List.setIfInBounds_toArray, List.set_cons_zero, List.set_cons_succ]
        refine wpAnyH_take (i := 5) (v := ?_) rfl (by kernel_rfl) (by kernel_rfl) (by kernel_rfl) (fun _ _ _ h => h) (Or.inl ⟨by rfl, ?_⟩) hS ?_
        rotate_left
        · intro w hw
          have xb := HA.out.xb.keep hw.out HXO.out
          obtain ⟨y0, y1, y2, y3, y4⟩ := (show _ ∧ _ ∧ _ ∧ _ ∧ _ from ⟨xb.cell 0, xb.cell 1, xb.cell 2, xb.cell 3, xb.cell 4⟩)
          simp only [ncells, List.getElem?_cons_succ, List.getElem?_cons_zero] at y0 y1 y2 y3 y4
          clear xb
          go_simp
          try with_reducible rfl
        try simp only [Act.put, List.getElem_toArray, List.getElem_cons_succ, List.getElem_cons_zero, List.setIfInBounds_toArray, List.set_cons_zero, List.set_cons_succ]
        refine wpAnyH_ready (rs := [4, 6]) (by kernel_rfl) (by simp) ?_
        refine (AllReadyH.cons rfl (fun K hK => ?_) (AllReadyH.cons rfl (fun K hK => ?_) AllReadyH.nil))
        · skip
          have p12 := HC7.out
          go_simp
          refine hK.out _ _ hS (fun hS => ?_)
          clear hK K p12
          try simp only [Act.put, List.getElem_toArray, List.getElem_cons_succ, List.getElem_cons_zero, List.setIfInBounds_toArray, List.set_cons_zero, List.set_cons_succ]
          refine wpAnyH_ready (rs := [6]) (by kernel_rfl) (by simp) ?_
          refine (AllReadyH.cons rfl (fun K hK => ?_) AllReadyH.nil)
          go_simp
          refine hK.out _ _ (Lib.hid HK78.out) (fun hS => ?_)
          clear hK K
          try simp only [Act.put, List.getElem_toArray, List.getElem_cons_succ, List.getElem_cons_zero, List.setIfInBounds_toArray, List.set_cons_zero, List.set_cons_succ]
          refine wpAnyH_ready (rs := [7]) (by kernel_rfl) (by simp) ?_
          refine (AllReadyH.cons rfl (fun K hK => ?_) AllReadyH.nil)
          refine held_append rfl _ _ 61 rfl rfl rfl HR8.out ?_
          refine hK.out _ _ (Lib.hid HK8.out) (fun hS => ?_)
          clear hK K
          try simp only [Act.put, List.getElem_toArray, List.getElem_cons_succ, List.getElem_cons_zero, List.setIfInBounds_toArray, List.set_cons_zero, List.set_cons_succ]
          refine wpAnyH_take (i := 8) (v := ?_) rfl (by kernel_rfl) (by kernel_rfl) (by kernel_rfl) (fun _ _ _ h => h) (Or.inl ⟨by rfl, ?_⟩) hS ?_
          rotate_left
          · intro w hw
            go_simp
            try with_reducible rfl
          try simp only [Act.put, List.getElem_toArray, List.getElem_cons_succ, List.getElem_cons_zero, List.setIfInBounds_toArray, List.set_cons_zero, List.set_cons_succ]
          refine wpAnyH_take (i := 9) (v := ?_) rfl (by kernel_rfl) (by kernel_rfl) (by kernel_rfl) (fun _ _ _ h => h) (Or.inl ⟨by rfl, ?_⟩) hS ?_
          rotate_left
          · intro w hw
            go_simp
            try with_reducible rfl
          try simp only [Act.put, List.getElem_toArray, List.getElem_cons_succ, List.getElem_cons_zero, List.setIfInBounds_toArray, List.set_cons_zero, List.set_cons_succ]
          refine wpAnyH_ready (rs := [10]) (by kernel_rfl) (by simp) ?_
          refine (AllReadyH.cons rfl (fun K hK => ?_) AllReadyH.nil)
          have p12 := HC12.out.1
          have z12 := HC12.out.2
          go_simp
          refine hK.out _ _ (Lib.hid HK9.out) (fun hS => ?_)
          clear hK K p12 z12
          try simp only [Act.put, List.getElem_toArray, List.getElem_cons_succ, List.getElem_cons_zero, List.setIfInBounds_toArray, List.set_cons_zero, List.set_cons_succ]
          refine wpAnyH_done (by kernel_rfl) ?_ _
          go_wp2_with fail
          go_meet
          rfl
        · skip
          go_simp
          refine hK.out _ _ (Lib.hid HK78.out) (fun hS => ?_)
          clear hK K
          try simp only [Act.put, List.getElem_toArray, List.getElem_cons_succ, List.getElem_cons_zero, List.setIfInBounds_toArray, List.set_cons_zero, List.set_cons_succ]
          refine wpAnyH_ready (rs := [4]) (by kernel_rfl) (by simp) ?_
          refine (AllReadyH.cons rfl (fun K hK => ?_) AllReadyH.nil)
          have p12 := HC78.out
          go_simp
          refine hK.out _ _ hS (fun hS => ?_)
          clear hK K p12
          try simp only [Act.put, List.getElem_toArray, List.getElem_cons_succ, List.getElem_cons_zero, List.setIfInBounds_toArray, List.set_cons_zero, List.set_cons_succ]
          refine wpAnyH_ready (rs := [7]) (by kernel_rfl) (by simp) ?_
          refine (AllReadyH.cons rfl (fun K hK => ?_) AllReadyH.nil)
          refine held_append rfl _ _ 61 rfl rfl rfl HR8.out ?_
          refine hK.out _ _ (Lib.hid HK8.out) (fun hS => ?_)
          clear hK K
          try simp only [Act.put, List.getElem_toArray, List.getElem_cons_succ, List.getElem_cons_zero, List.setIfInBounds_toArray, List.set_cons_zero, List.set_cons_succ]
          refine wpAnyH_take (i := 8) (v := ?_) rfl (by kernel_rfl) (by kernel_rfl) (by kernel_rfl) (fun _ _ _ h => h) (Or.inl ⟨by rfl, ?_⟩) hS ?_
          rotate_left
          · intro w hw
            go_simp
            try with_reducible rfl
          try simp only [Act.put, List.getElem_toArray, List.getElem_cons_succ, List.getElem_cons_zero, List.setIfInBounds_toArray, List.set_cons_zero, List.set_cons_succ]
          refine wpAnyH_take (i := 9) (v := ?_) rfl (by kernel_rfl) (by kernel_rfl) (by kernel_rfl) (fun _ _ _ h => h) (Or.inl ⟨by rfl, ?_⟩) hS ?_
          rotate_left
          · intro w hw
            go_simp
            try with_reducible rfl
          try simp only [Act.put, List.getElem_toArray, List.getElem_cons_succ, List.getElem_cons_zero, List.setIfInBounds_toArray, List.set_cons_zero, List.set_cons_succ]
          refine wpAnyH_ready (rs := [10]) (by kernel_rfl) (by simp) ?_
          refine (AllReadyH.cons rfl (fun K hK => ?_) AllReadyH.nil)
          have p12 := HC12.out.1
          have z12 := HC12.out.2
          go_simp
          refine hK.out _ _ (Lib.hid HK9.out) (fun hS => ?_)
          clear hK K p12 z12
          try simp only [Act.put, List.getElem_toArray, List.getElem_cons_succ, List.getElem_cons_zero, List.setIfInBounds_toArray, List.set_cons_zero, List.set_cons_succ]
          refine wpAnyH_done (by kernel_rfl) ?_ _
          go_wp2_with fail
          go_meet
          rfl
      case rest =>
      rw [hcut.trans HW9.out.symm]
      clear hcut HW9 HK9 HK8 HK78 HC7 HC78 HC12 HR8 HXO
      have HSW : Hid (∀ k, S k → k < w.heap.size) := Lib.hid fun k hk => HL.out.lay.lt k hk
      have HNP : Hid (¬ S P) := Lib.hid fun h => by have := HSW.out P h; have := HPW.out.1; omega
      have HNE : Hid (¬ S w.heap.size) := Lib.hid fun h => by have := HSW.out _ h; omega
      have HNXS : Hid (¬ S X) := Lib.hid fun h => by have := HSW.out _ h; have := HPL.out.2; have := HA.out.hX; omega
      have HP9 : Hid (Lift.Box W9 P 60 (ints ((List.range 12).map st))) := Lib.hid (HP7.out.keep HK79.out HNP.out)
      have HX9 : Hid (Bx W9 w.heap.size d) := Lib.hid (HX7.out.keep HK79.out HNE.out)
      have HB9 : Hid (Lift.Box W9 X Ty.node (ncells d' b hh)) := Lib.hid (HA.out.xb.keep HK79.out HNXS.out)
      obtain ⟨S9, hS9⟩ : ∃ S9 : Nat → Prop, S9 = fun k => S k ∨ (W6.heap.size ≤ k ∧ k < W8.heap.size ∧ k ≠ X) := ⟨_, rfl⟩
      rw [← hS9] at HL9
      have HS9 := Lib.hid hS9
      have HNP9 : Hid (¬ S9 P) := Lib.hid (by rw [HS9.out]; rintro (h | h); exact HNP.out h; have := HPL.out.1; omega)
      have HNE9 : Hid (¬ S9 w.heap.size) := Lib.hid (by rw [HS9.out]; rintro (h | h); exact HNE.out h; have := HPL.out.2; omega)
      have HNX : Hid (¬ S9 X) := Lib.hid (by rw [HS9.out]; rintro (h | h); exact HNXS.out h; exact h.2.2 rfl)
      clear hS9
      obtain ⟨n0, hn0⟩ : ∃ n0 : N, n0 = ⟨d', b, zeros' hh⟩ := ⟨_, rfl⟩
      rw [← hn0] at HL9
      have HN0 := Lib.hid hn0
      have HBR := Lib.hid (show bytesR R ≤ 1000000 by
        have h1 := bytesR_le (R := R) fun r hr => ⟨hok r hr, by
          rw [HRR.out] at hr
          obtain ⟨q, hq, rfl⟩ := List.mem_map.1 hr
          exact (HL.out.good.hs q hq).2⟩
        omega)
      obtain ⟨z, hz⟩ : ∃ z, z = bytesR R := ⟨_, rfl⟩
      rw [← hz] at HL9 HBR
      have HZ := Lib.hid hz
      clear hn0 hz HP7 HX7
      have p12 := HL9.out.rows.1
      have hn1n : n1 ≤ 160 := by rw [HN1.out]; omega
      have qS := slice_path P hh hh12
      go_wp2_with fail
      go_loopw [11, 12, 62] (fun lv bf i wr => ∃ (j : Nat) (fsj : List Nat) (nsj : List N), j ≤ hh ∧ i = .int .i64 j ∧ Hid (Lay wr g S9 fsj (.slice A8 n1 c8) nsj z ∧ St fs (ns ++ [n0]) n1 st j fsj nsj ∧ Keep S9 W9 wr ∧ wr.heap.size = W9.heap.size)) (fun _ _ i _ => 13 - (intOf i).toNat)
      case atStart => exact ⟨0, fs, ns ++ [n0], by omega, rfl, Lib.hid ⟨HL9.out, ⟨HL.out.lay.fl, rfl, fun y i hi => by rw [if_neg (by omega)]⟩, Keep.refl _ _, rfl⟩⟩
      case round =>
        clear p12
        obtain ⟨j, fsj, nsj, hj, rfl, hlj⟩ := hrel
        by_cases hlt : j < hh
        · have HXr : Hid (Lift.Box wr X Ty.node (ncells d' b hh)) := Lib.hid (HB9.out.keep hlj.out.2.2.1 HNX.out)
          have cP : wr.cell? ⟨P, j, none⟩ = some (.int .i64 ((st j : Nat) : Int)) := by
            have h1 := (HP9.out.keep hlj.out.2.2.1 HNP9.out).cell j
            rw [h1]
            simp [ints, List.getElem?_range, show j < 12 by omega]
          have hsp0 : Spot (ns ++ [n0]) (st j) j := by rw [HST.out]; exact HL.out.stop_spot d.k j n0
          have hspn : Spot (ns ++ [n0]) n1 j := .inr ⟨n0, by rw [HN1.out]; simp, by rw [HN0.out]; simp [zeros']; exact hlt, by rw [HN1.out]; omega⟩
          have hne : st j ≠ n1 := by rw [HST.out, HN1.out]; have := HL.out.stop_le d.k j; omega
          have hstep := hlj.out.2.1.step (by omega) (by rw [HN1.out]; omega) hspn hsp0 hne
          have HSPj := Lib.hid (spot_shape hlj.out.2.1.shape hsp0)
          obtain ⟨m, hm1, hm2, hm3, hm4⟩ := shape_at hlj.out.2.1.shape (show (ns ++ [n0])[n1 - 1]? = some n0 by rw [HN1.out]; simp)
          have hmb : m.b = b := by rw [hm3, HN0.out]
          have hml : m.nx.length = hh := by rw [hm4, HN0.out]; simp [zeros']
          obtain ⟨v, hv⟩ : ∃ v, v = nxt fsj nsj (st j) j := ⟨_, rfl⟩
          have hld : Lay wr.drew g S9 fsj (.slice A8 n1 c8) nsj z := hlj.out.1.keep (X := fun _ => False) (Keep.refl _ _).drew fun _ _ => id
          have hyb := hld.link hm1 (i := j) (by rw [hml]; exact hlt)
          rw [hmb] at hyb
          have eset : nsj.set (n1 - 1) { m with nx := m.nx.set j v } = setNs nsj n1 j v := by
            unfold setNs
            rw [if_neg (by rw [HN1.out]; omega), hm1]
          have hl1' : Lay (wr.drew.setCell ⟨b, j, none⟩ (.int .i64 (v : Int))) g S9 fsj (.slice A8 n1 c8) (setNs nsj n1 j v) z := by
            rw [← eset, ← hmb]
            have := hld.set1 (i := j) v hm1 (by rw [hml]; exact hlt)
            exact this
          have hsb : S9 b := by rw [← hmb]; exact hlj.out.1.sb m (List.mem_of_getElem? hm1)
          have HKb : Hid (Keep S9 wr (wr.drew.setCell ⟨b, j, none⟩ (.int .i64 (v : Int)))) := Lib.hid ((Keep.refl S9 wr).drew.setCell (p := ⟨b, j, none⟩) (.inr hsb) _)
          have HN14 : Hid (Calls Try.prog (41) #[.pointer (some ⟨g, 0, none⟩), .int .i64 ((st j : Nat) : Int), .int .i64 (j : Int)] wr.drew fun e w' => e = .returned (.int .i64 (v : Int)) ∧ wr.drew = w') := Lib.hid (by
            rw [hv]; exact next_any (st j) j hld (by omega) HSPj.out)
          generalize m.nx.getD j 0 = mv at hyb
          have HYB := Lib.hid hyb
          have sp1 : Spot (setNs nsj n1 j v) (st j) j := spot_shape ((shape_set _ _ _ _).trans hlj.out.2.1.shape) hsp0
          have HLK := Lib.hid (link_any (st j) j n1 hl1' (by omega) sp1)
          rw [← hv] at hstep
          have HSTEP := Lib.hid hstep
          clear hsp0 hspn hne hstep hm1 hm2 hm3 hm4 hmb hml hyb eset hl1' hsb sp1 hv hld HSPj
          generalize st j = sj at cP HLK HSTEP HN14
          go_wp2_with fail
          refine wp_region_held_drew (S := fun w' => Hid (Keep S9 wr w')) (by kernel_rfl) (Lib.hid (Keep.refl _ _).drew) (fun hS => ?_)
          refine wpAnyH_take (i := 0) (v := ?_) rfl (by kernel_rfl) (by kernel_rfl) (by kernel_rfl) (fun _ _ _ h => h) (Or.inl ⟨by rfl, ?_⟩) hS ?_
          rotate_left
          · intro w hw
            go_simp
            try with_reducible rfl
          try simp only [Act.put, List.getElem_toArray, List.getElem_cons_succ, List.getElem_cons_zero, List.setIfInBounds_toArray, List.set_cons_zero, List.set_cons_succ]
          refine wpAnyH_take (i := 1) (v := ?_) rfl (by kernel_rfl) (by kernel_rfl) (by kernel_rfl) (fun _ _ _ h => h) (Or.inl ⟨by rfl, ?_⟩) hS ?_
          rotate_left
          · intro w hw
            have xb := (HXr.out.keep hw.out HNX.out).cell 4
            simp only [ncells, List.getElem?_cons_succ, List.getElem?_cons_zero] at xb
            go_simp
            try with_reducible rfl
          try simp only [Act.put, List.getElem_toArray, List.getElem_cons_succ, List.getElem_cons_zero, List.setIfInBounds_toArray, List.set_cons_zero, List.set_cons_succ]
          refine wpAnyH_take (i := 2) (v := ?_) rfl (by kernel_rfl) (by kernel_rfl) (by kernel_rfl) (fun _ _ _ h => h) (Or.inl ⟨by rfl, ?_⟩) hS ?_
          rotate_left
          · intro w hw
            go_simp
            try with_reducible rfl
          try simp only [Act.put, List.getElem_toArray, List.getElem_cons_succ, List.getElem_cons_zero, List.setIfInBounds_toArray, List.set_cons_zero, List.set_cons_succ]
          refine wpAnyH_take (i := 3) (v := ?_) rfl (by kernel_rfl) (by kernel_rfl) (by kernel_rfl) (fun _ _ _ h => h) (Or.inl ⟨by rfl, ?_⟩) hS ?_
          rotate_left
          · intro w hw
            go_simp
            try with_reducible rfl
          try simp only [Act.put, List.getElem_toArray, List.getElem_cons_succ, List.getElem_cons_zero, List.setIfInBounds_toArray, List.set_cons_zero, List.set_cons_succ]
          refine wpAnyH_take (i := 4) (v := ?_) rfl (by kernel_rfl) (by kernel_rfl) (by kernel_rfl) (fun _ _ _ h => h) (Or.inl ⟨by rfl, ?_⟩) hS ?_
          rotate_left
          · intro w hw
            go_simp
            try with_reducible rfl
          try simp only [Act.put, List.getElem_toArray, List.getElem_cons_succ, List.getElem_cons_zero, List.setIfInBounds_toArray, List.set_cons_zero, List.set_cons_succ]
          refine wpAnyH_take (i := 5) (v := ?_) rfl (by kernel_rfl) (by kernel_rfl) (by kernel_rfl) (fun _ _ _ h => h) (Or.inl ⟨by rfl, ?_⟩) hS ?_
          rotate_left
          · intro w hw
            go_simp
            try with_reducible rfl
          try simp only [Act.put, List.getElem_toArray, List.getElem_cons_succ, List.getElem_cons_zero, List.setIfInBounds_toArray, List.set_cons_zero, List.set_cons_succ]
          refine wpAnyH_ready (rs := [6]) (by kernel_rfl) (by simp) ?_
          refine AllReadyH.cons rfl (fun K hK => ?_) AllReadyH.nil
          go_simp
          refine HN14.out.mono ?_
          rintro e w' ⟨rfl, rfl⟩
          go_wp2_with fail
          refine hK.out _ _ hS (fun hS => ?_)
          clear hK K
          try simp only [Act.put, List.getElem_toArray, List.getElem_cons_succ, List.getElem_cons_zero, List.setIfInBounds_toArray, List.set_cons_zero, List.set_cons_succ]
          refine wpAnyH_take (i := 7) (v := ?_) rfl (by kernel_rfl) (by kernel_rfl) (by kernel_rfl) (fun _ _ _ h => h) (Or.inl ⟨by rfl, ?_⟩) hS ?_
          rotate_left
          · intro w hw
            go_simp
            try with_reducible rfl
          try simp only [Act.put, List.getElem_toArray, List.getElem_cons_succ, List.getElem_cons_zero, List.setIfInBounds_toArray, List.set_cons_zero, List.set_cons_succ]
          refine wpAnyH_ready (rs := [8]) (by kernel_rfl) (by simp) ?_
          refine (AllReadyH.cons rfl (fun K hK => ?_) AllReadyH.nil)
          have y5 := HYB.out.1
          have z5 := HYB.out.2
          go_simp
          refine hK.out _ _ (Lib.hid HKb.out) (fun hS => ?_)
          clear hK K y5 z5
          try simp only [Act.put, List.getElem_toArray, List.getElem_cons_succ, List.getElem_cons_zero, List.setIfInBounds_toArray, List.set_cons_zero, List.set_cons_succ]
          refine wpAnyH_done (by kernel_rfl) ?_ _
          go_wp2_with fail
          refine HLK.out.mono ?_
          rintro e w2 ⟨rfl, hl2, hk2, hz2⟩
          have hszb : (wr.drew.setCell ⟨b, j, none⟩ (.int .i64 (v : Int))).heap.size = wr.heap.size := by first | (simp; done) | (simp; rfl) | rfl
          have HREL : Hid (Lay w2 g S9 (setFs fsj sj j n1) (.slice A8 n1 c8) (setNs (setNs nsj n1 j v) sj j n1) z ∧ St fs (ns ++ [n0]) n1 st (j + 1) (setFs fsj sj j n1) (setNs (setNs nsj n1 j v) sj j n1) ∧ Keep S9 W9 w2 ∧ w2.heap.size = W9.heap.size) :=
            Lib.hid ⟨hl2, HSTEP.out, hlj.out.2.2.1.trans (HKb.out.trans hk2 fun _ _ h => h) fun _ _ h => h, hz2.trans (hszb.trans hlj.out.2.2.2)⟩
          clear hl2 hk2 hz2
          go_wp2_with fail
          go_roundw
          case rel => exact ⟨j + 1, _, _, by omega, by go_num, HREL⟩
          case measure => simp [intOf]; omega
        · have hjh : j = hh := by omega
          rw [hjh] at hlj ⊢
          have HXe : Hid (Bx wr w.heap.size d) := Lib.hid (HX9.out.keep hlj.out.2.2.1 HNE9.out)
          have HNG : Hid (¬ w.heap.size = g) := Lib.hid fun h => by have := HSW.out g HL.out.lay.sg; omega
          have hld : Lay wr.drew g S9 fsj (.slice A8 n1 c8) nsj z := hlj.out.1.keep (X := fun _ => False) (Keep.refl _ _).drew fun _ _ => id
          have H13 := Lib.hid (And.intro hld.rows.2.1 hld.rows.2.2.2)
          have hk1 := HSM.out.1
          have hk2 := HSM.out.2
          have hzb := HBR.out
          have HWR : Hid (IntKind.i64.wrap ((d.k.key.length : Int) + (d.val.length : Int)) = (d.k.key.length : Int) + (d.val.length : Int) ∧ IntKind.i64.wrap ((d.k.key.length : Int) + (d.val.length : Int) + 16) = (d.k.key.length : Int) + (d.val.length : Int) + 16 ∧ IntKind.i64.wrap (8 * (hh : Int)) = 8 * (hh : Int) ∧
              IntKind.i64.wrap ((d.k.key.length : Int) + (d.val.length : Int) + 16 + 8 * (hh : Int)) = (d.k.key.length : Int) + (d.val.length : Int) + 16 + 8 * (hh : Int) ∧ IntKind.i64.wrap ((z : Int) + ((d.k.key.length : Int) + (d.val.length : Int) + 16 + 8 * (hh : Int))) = (z : Int) + ((d.k.key.length : Int) + (d.val.length : Int) + 16 + 8 * (hh : Int))) :=
            Lib.hid ⟨IntWalk.i64_in _ (by omega), IntWalk.i64_in _ (by omega), IntWalk.i64_in _ (by omega), IntWalk.i64_in _ (by omega), IntWalk.i64_in _ (by omega)⟩
          obtain ⟨z', hz'⟩ : ∃ z', z' = z + (d.k.key.length + d.val.length + 16 + 8 * hh) := ⟨_, rfl⟩
          have ez : ((z' : Nat) : Int) = (z : Int) + ((d.k.key.length : Int) + (d.val.length : Int) + 16 + 8 * (hh : Int)) := by omega
          have hlE := hld.setz z'
          rw [ez] at hlE
          have HK17 : Hid (Keep (· = g) wr (wr.drew.setCell ⟨g, 13, none⟩ (.int .i64 ((z : Int) + ((d.k.key.length : Int) + (d.val.length : Int) + 16 + 8 * (hh : Int)))))) := Lib.hid ((Keep.refl (· = g) wr).drew.setCell (p := ⟨g, 13, none⟩) (.inr rfl) _)
          have hkk : n0.d.t = d.t := by rw [HN0.out]; exact HT'.out
          have hkd : n0.d.k = d.k := t_k hkk
          have hli := HL.out.done (n0 := n0) (hh := hh) (by rw [HN0.out]; simp [zeros']) HHG.out.1 hh12 (by rw [hkd]; exact HNT.out) (by
            have := hlj.out.2.1
            rw [HST.out] at this
            rw [hkd, ← HN1.out]
            exact this) hlE
          rw [hkd, hkk] at hli
          have hS9w : ∀ k, S9 k → S k ∨ w.heap.size ≤ k := fun k hk => by
            rw [HS9.out] at hk
            rcases hk with h | h
            · exact .inl h
            · exact .inr (Nat.le_trans (Nat.le_of_lt HPL.out.2) h.1)
          have hsl : SL (wr.drew.setCell ⟨g, 13, none⟩ (.int .i64 ((z : Int) + ((d.k.key.length : Int) + (d.val.length : Int) + 16 + 8 * (hh : Int))))) g S9 (insR R d.t hh) := by
            refine ⟨fsj, .slice A8 n1 c8, nsj, bef qk L d.k ++ ⟨ns.length + 1, d.t, hh⟩ :: aft qk L d.k, ?_, ?_, fun r hr => ?_⟩
            · have : bytesR (insR R d.t hh) = z' := by
                rw [bytesR_ins, hz', HZ.out]
                rfl
              rw [this]
              exact hli
            · rw [HRR.out]
              exact insR_L
            · rcases insR_mem.1 hr with rfl | hr
              · exact hko
              · exact hok r hr
          have hkp : Keep S w (wr.drew.setCell ⟨g, 13, none⟩ (.int .i64 ((z : Int) + ((d.k.key.length : Int) + (d.val.length : Int) + 16 + 8 * (hh : Int))))) := by
            have k1 : Keep S w W9 := (below_keep (S := S) HB7.out).trans HK79.out fun _ _ h => h
            have k2 : Keep S w wr := k1.trans hlj.out.2.2.1 fun i hi hs => (hS9w i hs).elim id fun h => by omega
            exact k2.trans HK17.out fun i hi hs => by rw [hs]; exact HL.out.lay.sg
          have HFIN : Hid (Insd w g S R d.t (hgt ht) (.returned (.int .i64 0)) (wr.drew.setCell ⟨g, 13, none⟩ (.int .i64 ((z : Int) + ((d.k.key.length : Int) + (d.val.length : Int) + 16 + 8 * (hh : Int)))))) :=
            Lib.hid ⟨S9, by rw [E.out]; rfl, by rw [E2.out, ← HHD.out]; exact hsl, hkp, hS9w⟩
          clear hld hlE hkk hkd hli hS9w hsl hkp ez hz'
          go_wp2_with fail
          refine wp_region_held_drew (S := fun w' => Hid (Keep (· = g) wr w')) (by kernel_rfl) (Lib.hid (Keep.refl _ _).drew) (fun hS => ?_)
          refine wpAnyH_take (i := 0) (v := ?_) rfl (by kernel_rfl) (by kernel_rfl) (by kernel_rfl) (fun _ _ _ h => h) (Or.inl ⟨by rfl, ?_⟩) hS ?_
          rotate_left
          · intro w hw
            go_simp
            try with_reducible rfl
          try simp only [Act.put, List.getElem_toArray, List.getElem_cons_succ, List.getElem_cons_zero, List.setIfInBounds_toArray, List.set_cons_zero, List.set_cons_succ]
          refine wpAnyH_take (i := 1) (v := ?_) rfl (by kernel_rfl) (by kernel_rfl) (by kernel_rfl) (fun _ _ _ h => h) (Or.inl ⟨by rfl, ?_⟩) hS ?_
          rotate_left
          · intro w hw
            go_simp
            try with_reducible rfl
          try simp only [Act.put, List.getElem_toArray, List.getElem_cons_succ, List.getElem_cons_zero, List.setIfInBounds_toArray, List.set_cons_zero, List.set_cons_succ]
          refine wpAnyH_take (i := 2) (v := ?_) rfl (by kernel_rfl) (by kernel_rfl) (by kernel_rfl) (fun _ _ _ h => h) (Or.inl ⟨by rfl, ?_⟩) hS ?_
          rotate_left
          · intro w hw
            go_simp
            try with_reducible rfl
          try simp only [Act.put, List.getElem_toArray, List.getElem_cons_succ, List.getElem_cons_zero, List.setIfInBounds_toArray, List.set_cons_zero, List.set_cons_succ]
          refine wpAnyH_take (i := 4) (v := ?_) rfl (by kernel_rfl) (by kernel_rfl) (by kernel_rfl) (fun _ _ _ h => h) (Or.inl ⟨by rfl, ?_⟩) hS ?_
          rotate_left
          · intro w hw
            go_simp
            try with_reducible rfl
          try simp only [Act.put, List.getElem_toArray, List.getElem_cons_succ, List.getElem_cons_zero, List.setIfInBounds_toArray, List.set_cons_zero, List.set_cons_succ]
          refine wpAnyH_take (i := 5) (v := ?_) rfl (by kernel_rfl) (by kernel_rfl) (by kernel_rfl) (fun _ _ _ h => h) (Or.inl ⟨by rfl, ?_⟩) hS ?_
          rotate_left
          · intro w hw
            go_simp
            try with_reducible rfl
          try simp only [Act.put, List.getElem_toArray, List.getElem_cons_succ, List.getElem_cons_zero, List.setIfInBounds_toArray, List.set_cons_zero, List.set_cons_succ]
          refine wpAnyH_take (i := 6) (v := ?_) rfl (by kernel_rfl) (by kernel_rfl) (by kernel_rfl) (fun _ _ _ h => h) (Or.inl ⟨by rfl, ?_⟩) hS ?_
          rotate_left
          · intro w hw
            obtain ⟨j0, j1, j2, j3, -, -, -, -⟩ := (show Bx w _ d from HXe.out.keep hw.out HNG.out).facts
            go_simp
            try with_reducible rfl
          try simp only [Act.put, List.getElem_toArray, List.getElem_cons_succ, List.getElem_cons_zero, List.setIfInBounds_toArray, List.set_cons_zero, List.set_cons_succ]
          refine wpAnyH_take (i := 7) (v := ?_) rfl (by kernel_rfl) (by kernel_rfl) (by kernel_rfl) (fun _ _ _ h => h) (Or.inl ⟨by rfl, ?_⟩) hS ?_
          rotate_left
          · intro w hw
            go_simp
            try with_reducible rfl
          try simp only [Act.put, List.getElem_toArray, List.getElem_cons_succ, List.getElem_cons_zero, List.setIfInBounds_toArray, List.set_cons_zero, List.set_cons_succ]
          refine wpAnyH_take (i := 8) (v := ?_) rfl (by kernel_rfl) (by kernel_rfl) (by kernel_rfl) (fun _ _ _ h => h) (Or.inl ⟨by rfl, ?_⟩) hS ?_
          rotate_left
          · intro w hw
            go_simp
            try with_reducible rfl
          try simp only [Act.put, List.getElem_toArray, List.getElem_cons_succ, List.getElem_cons_zero, List.setIfInBounds_toArray, List.set_cons_zero, List.set_cons_succ]
          refine wpAnyH_take (i := 9) (v := ?_) rfl (by kernel_rfl) (by kernel_rfl) (by kernel_rfl) (fun _ _ _ h => h) (Or.inl ⟨by rfl, ?_⟩) hS ?_
          rotate_left
          · intro w hw
            obtain ⟨j0, j1, j2, j3, -, -, -, -⟩ := (show Bx w _ d from HXe.out.keep hw.out HNG.out).facts
            go_simp
            try with_reducible rfl
          try simp only [Act.put, List.getElem_toArray, List.getElem_cons_succ, List.getElem_cons_zero, List.setIfInBounds_toArray, List.set_cons_zero, List.set_cons_succ]
          refine wpAnyH_take (i := 10) (v := ?_) rfl (by kernel_rfl) (by kernel_rfl) (by kernel_rfl) (fun _ _ _ h => h) (Or.inl ⟨by rfl, ?_⟩) hS ?_
          rotate_left
          · intro w hw
            go_simp
            try with_reducible rfl
          try simp only [Act.put, List.getElem_toArray, List.getElem_cons_succ, List.getElem_cons_zero, List.setIfInBounds_toArray, List.set_cons_zero, List.set_cons_succ]
          refine wpAnyH_take (i := 11) (v := ?_) rfl (by kernel_rfl) (by kernel_rfl) (by kernel_rfl) (fun _ _ _ h => h) (Or.inl ⟨by rfl, ?_⟩) hS ?_
          rotate_left
          · intro w hw
            have ew := HWR.out.1
            go_simp
            try with_reducible rfl
          try simp only [Act.put, List.getElem_toArray, List.getElem_cons_succ, List.getElem_cons_zero, List.setIfInBounds_toArray, List.set_cons_zero, List.set_cons_succ]
          refine wpAnyH_take (i := 12) (v := ?_) rfl (by kernel_rfl) (by kernel_rfl) (by kernel_rfl) (fun _ _ _ h => h) (Or.inl ⟨by rfl, ?_⟩) hS ?_
          rotate_left
          · intro w hw
            have ew := HWR.out.2.1
            go_simp
            try with_reducible rfl
          try simp only [Act.put, List.getElem_toArray, List.getElem_cons_succ, List.getElem_cons_zero, List.setIfInBounds_toArray, List.set_cons_zero, List.set_cons_succ]
          refine wpAnyH_take (i := 13) (v := ?_) rfl (by kernel_rfl) (by kernel_rfl) (by kernel_rfl) (fun _ _ _ h => h) (Or.inl ⟨by rfl, ?_⟩) hS ?_
          rotate_left
          · intro w hw
            go_simp
            try with_reducible rfl
          try simp only [Act.put, List.getElem_toArray, List.getElem_cons_succ, List.getElem_cons_zero, List.setIfInBounds_toArray, List.set_cons_zero, List.set_cons_succ]
          refine wpAnyH_take (i := 14) (v := ?_) rfl (by kernel_rfl) (by kernel_rfl) (by kernel_rfl) (fun _ _ _ h => h) (Or.inl ⟨by rfl, ?_⟩) hS ?_
          rotate_left
          · intro w hw
            have ew := HWR.out.2.2.1
            go_simp
            try with_reducible rfl
          try simp only [Act.put, List.getElem_toArray, List.getElem_cons_succ, List.getElem_cons_zero, List.setIfInBounds_toArray, List.set_cons_zero, List.set_cons_succ]
          refine wpAnyH_take (i := 15) (v := ?_) rfl (by kernel_rfl) (by kernel_rfl) (by kernel_rfl) (fun _ _ _ h => h) (Or.inl ⟨by rfl, ?_⟩) hS ?_
          rotate_left
          · intro w hw
            have ew := HWR.out.2.2.2.1
            go_simp
            try with_reducible rfl
          try simp only [Act.put, List.getElem_toArray, List.getElem_cons_succ, List.getElem_cons_zero, List.setIfInBounds_toArray, List.set_cons_zero, List.set_cons_succ]
          refine wpAnyH_ready (rs := [3]) (by kernel_rfl) (by simp) ?_
          refine (AllReadyH.cons rfl (fun K hK => ?_) AllReadyH.nil)
          have y13 := H13.out.1
          go_simp
          refine hK.out _ _ hS (fun hS => ?_)
          clear hK K y13
          try simp only [Act.put, List.getElem_toArray, List.getElem_cons_succ, List.getElem_cons_zero, List.setIfInBounds_toArray, List.set_cons_zero, List.set_cons_succ]
          refine wpAnyH_take (i := 16) (v := ?_) rfl (by kernel_rfl) (by kernel_rfl) (by kernel_rfl) (fun _ _ _ h => h) (Or.inl ⟨by rfl, ?_⟩) hS ?_
          rotate_left
          · intro w hw
            have ew := HWR.out.2.2.2.2
            go_simp
            try with_reducible rfl
          try simp only [Act.put, List.getElem_toArray, List.getElem_cons_succ, List.getElem_cons_zero, List.setIfInBounds_toArray, List.set_cons_zero, List.set_cons_succ]
          refine wpAnyH_take (i := 17) (v := ?_) rfl (by kernel_rfl) (by kernel_rfl) (by kernel_rfl) (fun _ _ _ h => h) (Or.inl ⟨by rfl, ?_⟩) hS ?_
          rotate_left
          · intro w hw
            go_simp
            try with_reducible rfl
          try simp only [Act.put, List.getElem_toArray, List.getElem_cons_succ, List.getElem_cons_zero, List.setIfInBounds_toArray, List.set_cons_zero, List.set_cons_succ]
          refine wpAnyH_take (i := 18) (v := ?_) rfl (by kernel_rfl) (by kernel_rfl) (by kernel_rfl) (fun _ _ _ h => h) (Or.inl ⟨by rfl, ?_⟩) hS ?_
          rotate_left
          · intro w hw
            go_simp
            try with_reducible rfl
          try simp only [Act.put, List.getElem_toArray, List.getElem_cons_succ, List.getElem_cons_zero, List.setIfInBounds_toArray, List.set_cons_zero, List.set_cons_succ]
          refine wpAnyH_ready (rs := [19]) (by kernel_rfl) (by simp) ?_
          refine (AllReadyH.cons rfl (fun K hK => ?_) AllReadyH.nil)
          have y13 := H13.out.1
          have z13 := H13.out.2
          go_simp
          refine hK.out _ _ (Lib.hid HK17.out) (fun hS => ?_)
          clear hK K y13 z13
          try simp only [Act.put, List.getElem_toArray, List.getElem_cons_succ, List.getElem_cons_zero, List.setIfInBounds_toArray, List.set_cons_zero, List.set_cons_succ]
          refine wpAnyH_done (by kernel_rfl) ?_ _
          go_wp2_with fail
          go_ret
          exact HFIN.out
end
end Go.Proofs.Ytmnhklfljfglhaa.Sk
