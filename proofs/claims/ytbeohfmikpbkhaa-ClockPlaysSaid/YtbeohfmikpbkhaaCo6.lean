/- The project's cache: a slot goes (remove). -/
import Derived.Test.YtbeohfmikpbkhaaCo5
import Derived.LaidEqlPtr
import Derived.StillTailTactics
import Derived.Deep.DeepCutAuto
namespace Go.Proofs.Ytbeohfmikpbkhaa.Ck
set_option linter.unusedVariables false
set_option linter.unusedSimpArgs false
open Go.RowKit Go.Maps Lift Ik
section
variable {w w' : World} {g room hand : Nat} {Z : Nat → Prop} {L : List E} {M : Option Nat} {pv nx : Nat → Nat}
theorem load_pair {p : Addr} {f a : Int} (h0 : w.cell? p = some (.int .i64 f)) (h1 : w.cell? ⟨p.block, p.off + 1, none⟩ = some (.int .i64 a)) :
    Sem.run Try.prog (loadVar 51 p) w = .ok (keyV f a) w := by
  have hl := run_loadCells_list (P := Try.prog) w p [.int .i64 f, .int .i64 a] (fun j v hj => by
    rcases j with _ | _ | j
    · simp at hj; subst hj; exact h0
    · simp at hj; subst hj; exact h1
    · simp at hj)
  have hagg : Sem.run Try.prog (isAgg 51) w = .ok true w := by
    unfold isAgg
    rw [Sem.run_bind, run_underlying Try.underlying51 w]
    simp
  obtain ⟨i, hi, hs⟩ : ∃ i, Try.prog.info? 51 = some i ∧ i.size = 2 := by
    have : (Try.prog.info? 51).map (·.size) = some 2 := by kernel_rfl
    cases hq : Try.prog.info? 51 with
    | none => rw [hq] at this; cases this
    | some i => rw [hq] at this; exact ⟨i, rfl, by simpa using this⟩
  have hl3 : Sem.run Try.prog (loadCells p 2) w = .ok #[.int .i64 f, .int .i64 a] w := hl
  simp [loadVar, Sem.run_bind, hagg, sizeOf, typeInfo, hi, hs, hl3]
theorem ptr_size : ∃ j : TypeInfo, Try.prog.info? Ty.node = some j ∧ j.size ≠ 0 := by
  have : (Try.prog.info? Ty.node).map (·.size) = some 7 := by kernel_rfl
  cases hq : Try.prog.info? Ty.node with
  | none => rw [hq] at this; cases this
  | some i => rw [hq] at this; exact ⟨i, rfl, by have : i.size = 7 := by simpa using this
                                                 omega⟩
theorem ptr_eql {a b : Nat} {us vs : List Value} (ha : Lift.Box w a Ty.node us) (hb : Lift.Box w b Ty.node vs) : Sem.run Try.prog (binOp .eql 44 (pt a) (pt b)) w = .ok (.bool (decide (a = b))) w := by
  obtain ⟨j, hj, hs⟩ := ptr_size
  by_cases h : a = b
  · subst h
    rw [decide_eq_true rfl]
    exact run_eql_ptr_same w ⟨a, 0, none⟩ Try.underlying44 hj
  · rw [decide_eq_false h]
    exact run_eql_ptr_other w Try.underlying44 hj hs (fun e => h (by injection e)) ha hb
theorem erase_map {α β : Type} (f : α → β) (L : List α) (i : Nat) : (L.eraseIdx i).map f = (L.map f).eraseIdx i := by
  induction L generalizing i with
  | nil => simp
  | cons d L ih => cases i with
    | zero => rfl
    | succ i => simp [ih]
theorem blkAt_erase {L : List E} {i j k y : Nat} (hk : k = if j < i then j else j + 1) (h : (L.map E.blk)[k]? = some y) : ptO (blkAt (L.eraseIdx i) (some j)) = pt y := by
  have e : ((L.eraseIdx i).map E.blk)[j]? = some y := by
    rw [erase_map, List.getElem?_eraseIdx]
    rw [hk] at h
    split
    · rename_i h1; rw [if_pos h1] at h; exact h
    · rename_i h1; rw [if_neg h1] at h; exact h
  have : blkAt (L.eraseIdx i) (some j) = some y := by
    show ((L.eraseIdx i)[j]?).map E.blk = some y
    rw [← List.getElem?_map]; exact e
  rw [this]
  rfl
theorem first_erase {L : List E} {pv nx : Nat → Nat} {i : Nat} {x x0 : E} (hr : Ring (L.map E.blk) pv nx) (hn : (L.map E.blk).Nodup) (hx : L[i]? = some x) (h0 : L[0]? = some x0) (h1 : 1 < L.length) :
    ptO (blkAt (L.eraseIdx i) (some 0)) = pt (if x0.blk = x.blk then nx x.blk else x0.blk) := by
  have gx : (L.map E.blk)[i]? = some x.blk := by rw [List.getElem?_map, hx]; rfl
  have g0 : (L.map E.blk)[0]? = some x0.blk := by rw [List.getElem?_map, h0]; rfl
  have hl : (L.map E.blk).length = L.length := List.length_map ..
  by_cases hc : x0.blk = x.blk
  · rw [if_pos hc]
    rw [hc] at g0
    have hi := nodup_at hn gx g0
    subst hi
    have gn := hr.next gx
    rw [hl] at gn
    refine blkAt_erase (k := nxi L.length 0) ?_ gn
    unfold nxi
    rw [if_neg (by omega), if_neg (by omega)]
  · rw [if_neg hc]
    have hi : i ≠ 0 := fun e => by
      rw [e, g0] at gx
      exact hc (Option.some.inj gx)
    exact blkAt_erase (k := 0) (by rw [if_pos (by omega)]) g0
theorem hand_erase {L : List E} {pv nx : Nat → Nat} {i hand : Nat} {x xh : E} (hr : Ring (L.map E.blk) pv nx) (hn : (L.map E.blk).Nodup) (hx : L[i]? = some x) (hh : L[hand]? = some xh) (h1 : 1 < L.length) :
    ptO (blkAt (L.eraseIdx i) (some (out (L.map E.s, hand) i).2)) = pt (if xh.blk = x.blk then nx x.blk else xh.blk) := by
  have gx : (L.map E.blk)[i]? = some x.blk := by rw [List.getElem?_map, hx]; rfl
  have gh : (L.map E.blk)[hand]? = some xh.blk := by rw [List.getElem?_map, hh]; rfl
  have hl : (L.map E.blk).length = L.length := List.length_map ..
  have hls : (L.map E.s).length = L.length := List.length_map ..
  have hil := (List.getElem?_eq_some_iff.1 hx).1
  have hhl := (List.getElem?_eq_some_iff.1 hh).1
  rw [out_hand (by rw [hls]; exact hil) (by rw [hls]; exact hhl), hls]
  by_cases hc : xh.blk = x.blk
  · rw [if_pos hc]
    rw [hc] at gh
    have hi := nodup_at hn gh gx
    rw [if_pos hi]
    have gn := hr.next gx
    rw [hl] at gn
    refine blkAt_erase (k := nxi L.length i) ?_ gn
    unfold nxi
    repeat' split
    all_goals omega
  · rw [if_neg hc]
    have hi : hand ≠ i := fun e => by
      rw [e, gx] at gh
      exact hc (Option.some.inj gh).symm
    rw [if_neg hi]
    refine blkAt_erase (k := hand) ?_ gh
    repeat' split
    all_goals omega
theorem used_erase {l : List S} {i : Nat} {s : S} (h : l[i]? = some s) : used l = used (l.eraseIdx i) + s.b.length := by
  induction l generalizing i with
  | nil => simp at h
  | cons d l ih =>
    cases i with
    | zero =>
      have e : d = s := by simpa using h
      subst e
      show d.b.length + used l = used l + _
      omega
    | succ i =>
      have := ih (i := i) (by simpa using h)
      show d.b.length + used l = (d.b.length + used (l.eraseIdx i)) + _
      omega
theorem box_ne {g k : Nat} {us vs : List Value} (hb : Lift.Box w g Ty.cache us) (hn : Lift.Box w k Ty.node vs) : g ≠ k := fun e => by
  subst e
  unfold Lift.Box at hb hn
  rw [hb] at hn
  injection hn with hn
  injection hn with _ hn _
  exact absurd hn (by decide)
theorem map_ne {g b n : Nat} {T : TypeId} {us : List Value} {D : DataW Unit} (hb : Lift.Box w g T us) (hm : w.ownsMap Try.prog 51 ptrR b n D) : g ≠ b := fun e => by
  subst e
  obtain ⟨es, clock, h, _⟩ := hm
  unfold Lift.Box at hb
  rw [hb] at h
  cases h
theorem map_keep {b n : Nat} {D : DataW Unit} {T : Nat → Prop} (h : w.ownsMap Try.prog 51 ptrR b n D) (hk : Keep T w w') (hT : ¬ T b) : w'.ownsMap Try.prog 51 ptrR b n D := by
  have hlt := h.lt
  obtain ⟨es, clock, hb, r⟩ := h
  exact ⟨es, clock, (hk.block b hlt hT).trans hb, r⟩
set_option maxRecDepth 100000 in
set_option maxHeartbeats 3200000 in
theorem remove_any {i : Nat} {x : E} (h : OLay w g Z room hand M L pv nx) (hx : L[i]? = some x) :
    Calls Try.prog (30) #[pt g, pt x.blk] w fun e w' => e = .returned (.tuple #[]) ∧
      OLay w' g Z room (out (L.map E.s, hand) i).2 M (L.eraseIdx i) (upd pv (nx x.blk) (pv x.blk)) (upd nx (pv x.blk) (nx x.blk)) ∧ Keep Z w w' := by
  have hil : i < L.length := (List.getElem?_eq_some_iff.1 hx).1
  have hxm := List.mem_of_getElem? hx
  have hmany := h.many
  have hhl : hand < L.length := by
    rcases h.inv.fine with hf | ⟨hf, _⟩
    · simpa using hf
    · have : L.length = 0 := by simpa using congrArg List.length hf
      omega
  obtain ⟨b, D0, rfl, hzb, hmap, htell⟩ : ∃ b D, M = some b ∧ Z b ∧ w.ownsMap Try.prog 51 ptrR b (Maps.size D) D ∧ Tell D L := by
    rcases h.map with ⟨_, h0⟩ | h0
    · rw [h0] at hil; simp at hil
    · exact h0
  obtain ⟨xh, hxh⟩ : ∃ xh, L[hand]? = some xh := ⟨_, List.getElem?_eq_getElem hhl⟩
  obtain ⟨x0, hx0⟩ : ∃ x0, L[0]? = some x0 := ⟨_, List.getElem?_eq_getElem (by omega)⟩
  have hBx : (L.map E.blk)[i]? = some x.blk := by rw [List.getElem?_map, hx]; rfl
  have hBl : (L.map E.blk).length = L.length := List.length_map ..
  have hnx := h.ring.next hBx
  have hpv := h.ring.prev hBx
  obtain ⟨xn, hxn, exn⟩ : ∃ xn, L[nxi L.length i]? = some xn ∧ xn.blk = nx x.blk := by
    rw [hBl, List.getElem?_map] at hnx
    cases hq : L[nxi L.length i]? with
    | none => rw [hq] at hnx; cases hnx
    | some e => rw [hq] at hnx; exact ⟨e, rfl, by simpa using hnx⟩
  obtain ⟨xp, hxp, exp⟩ : ∃ xp, L[pvi L.length i]? = some xp ∧ xp.blk = pv x.blk := by
    rw [hBl, List.getElem?_map] at hpv
    cases hq : L[pvi L.length i]? with
    | none => rw [hq] at hpv; cases hpv
    | some e => rw [hq] at hpv; exact ⟨e, rfl, by simpa using hpv⟩
  have hnm := List.mem_of_getElem? hxn
  have hpm := List.mem_of_getElem? hxp
  have hbox := h.box
  have e3 : ptO (blkAt L (some 0)) = pt x0.blk := by unfold blkAt; simp [hx0, ptO]
  have e4 : ptO (blkAt L (some hand)) = pt xh.blk := by unfold blkAt; simp [hxh, ptO]
  rw [e3, e4] at hbox
  have hub := h.used_le
  have hue : used (L.map E.s) = used ((L.eraseIdx i).map E.s) + x.s.b.length := by
    rw [erase_map]
    exact used_erase (by rw [List.getElem?_map, hx]; rfl)
  have q4 := ptr_eql (h.mem.node xh (List.mem_of_getElem? hxh)) (h.mem.node x hxm)
  obtain ⟨t4, ht4⟩ : ∃ t4, t4 = decide (xh.blk = x.blk) := ⟨_, rfl⟩
  rw [← ht4] at q4
  have HT4 := Lib.hid ht4
  clear ht4
  have HL := Lib.hid h
  have HM := Lib.hid hmap
  have HT := Lib.hid htell
  have Hx := Lib.hid hx
  have HXm := Lib.hid hxm
  have HXn := Lib.hid hnm
  have HXp := Lib.hid hpm
  have HEn := Lib.hid exn
  have HEp := Lib.hid exp
  have HX0 := Lib.hid hx0
  have HXh := Lib.hid hxh
  have c6 := (h.mem.facts hxm).2.2.2.2.2.2.1
  have f4 := hbox.cell 4
  have z4 := hbox.free 4
  simp only [List.getElem?_cons_succ, List.getElem?_cons_zero] at f4
  have hfewx := (h.mem.ok x hxm).few
  rw [hue] at hbox hub
  obtain ⟨V, hV⟩ : ∃ V, V = used ((L.eraseIdx i).map E.s) := ⟨_, rfl⟩
  rw [← hV] at hbox hub hue
  have HBX := Lib.hid hbox
  have HV := Lib.hid hV
  have HUE := Lib.hid hue
  clear hue hV
  clear e3 e4 h hx hxm hnm hpm exn exp hx0 hxh hxn hxp hnx hpv hBx hBl hmap htell hbox
  go_enter (Try.func30), (Try.ntmps30)
  go_upto_if 9 with fail
  go_cut [] (fun wx => Lift.Box wx g Ty.cache [vi room, vi (V + x.s.b.length : Nat), .map (some b), pt x0.blk, pt (if xh.blk = x.blk then nx x.blk else xh.blk)] ∧ Keep (· = g) w wx)
  case first =>
    cases t4
    · have hc : ¬ xh.blk = x.blk := of_decide_eq_false HT4.out.symm
      have HQ : Hid (Lift.Box w g Ty.cache [vi room, vi (V + x.s.b.length : Nat), .map (some b), pt x0.blk, pt (if xh.blk = x.blk then nx x.blk else xh.blk)]) := Lib.hid (by rw [if_neg hc]; exact HBX.out)
      clear hc
      go_wp2_with fail
      go_meet
      exact ⟨HQ.out, Keep.refl _ _⟩
    · have hc : xh.blk = x.blk := of_decide_eq_true HT4.out.symm
      have hb4 := HBX.out.set 4 (pt (nx x.blk))
      have HQ : Hid (Lift.Box (w.setCell ⟨g, 4, none⟩ (pt (nx x.blk))) g Ty.cache [vi room, vi (V + x.s.b.length : Nat), .map (some b), pt x0.blk, pt (if xh.blk = x.blk then nx x.blk else xh.blk)]) := Lib.hid (by rw [if_pos hc]; exact hb4)
      clear hc hb4
      go_wp2_with fail
      go_meet
      exact ⟨HQ.out, (Keep.refl (· = g) w).setCell (p := ⟨g, 4, none⟩) (.inr rfl) _⟩
  case rest =>
  obtain ⟨hb1, hk1⟩ := hcut
  obtain ⟨H, hH⟩ : ∃ H, H = if xh.blk = x.blk then nx x.blk else xh.blk := ⟨_, rfl⟩
  rw [← hH] at hb1
  have HH := Lib.hid hH
  have hm1 := HL.out.mem.keep hk1 (away_box HBX.out) fun _ => id
  have q3 := ptr_eql (hm1.node x0 (List.mem_of_getElem? HX0.out)) (hm1.node x HXm.out)
  obtain ⟨t3, ht3⟩ : ∃ t3, t3 = decide (x0.blk = x.blk) := ⟨_, rfl⟩
  rw [← ht3] at q3
  have HT3 := Lib.hid ht3
  clear ht3
  have HK1 := Lib.hid hk1
  have HM1 := Lib.hid hm1
  have HB1 := Lib.hid hb1
  have c6 := (hm1.facts HXm.out).2.2.2.2.2.2.1
  have f3 := hb1.cell 3
  have z3 := hb1.free 3
  simp only [List.getElem?_cons_succ, List.getElem?_cons_zero] at f3
  clear hb1 hk1 hm1 hH f4 z4
  go_upto_if 22 with fail
  go_cut [] (fun wx => Lift.Box wx g Ty.cache [vi room, vi (V + x.s.b.length : Nat), .map (some b), pt (if x0.blk = x.blk then nx x.blk else x0.blk), pt H] ∧ Keep (· = g) w wx)
  case first =>
    cases t3
    · have hc : ¬ x0.blk = x.blk := of_decide_eq_false HT3.out.symm
      have HQ : Hid (Lift.Box wc g Ty.cache [vi room, vi (V + x.s.b.length : Nat), .map (some b), pt (if x0.blk = x.blk then nx x.blk else x0.blk), pt H]) := Lib.hid (by rw [if_neg hc]; exact HB1.out)
      clear hc
      go_wp2_with fail
      go_meet
      exact ⟨HQ.out, HK1.out⟩
    · have hc : x0.blk = x.blk := of_decide_eq_true HT3.out.symm
      have hb4 := HB1.out.set 3 (pt (nx x.blk))
      have HQ : Hid (Lift.Box (wc.setCell ⟨g, 3, none⟩ (pt (nx x.blk))) g Ty.cache [vi room, vi (V + x.s.b.length : Nat), .map (some b), pt (if x0.blk = x.blk then nx x.blk else x0.blk), pt H]) := Lib.hid (by rw [if_pos hc]; exact hb4)
      clear hc hb4
      go_wp2_with fail
      go_meet
      exact ⟨HQ.out, HK1.out.setCell (p := ⟨g, 3, none⟩) (.inr rfl) _⟩
  case rest =>
  clear HB1 HM1 HK1 c6 f3 z3 q3
  obtain ⟨hb2, hk2⟩ := hcut
  obtain ⟨F, hF⟩ : ∃ F, F = if x0.blk = x.blk then nx x.blk else x0.blk := ⟨_, rfl⟩
  rw [← hF] at hb2
  have HF := Lib.hid hF
  have HB2 := Lib.hid hb2
  have HK2 := Lib.hid hk2
  have hm2 := HL.out.mem.keep hk2 (away_box HBX.out) fun _ => id
  have HM2 := Lib.hid hm2
  obtain ⟨-, -, -, -, -, c5, c6, -⟩ := hm2.facts HXm.out
  have hm2d : Mem wc.drew Z L pv nx := hm2.keep (T := fun _ => False) (Keep.refl _ wc).drew (fun k h => h.elim) fun _ => id
  have hb2d : Lift.Box wc.drew g Ty.cache [vi room, vi (V + x.s.b.length : Nat), .map (some b), pt F, pt H] := hb2
  have hk2d := hk2.drew
  clear hb2 hk2 hm2 hF HB2 HK2 HM2
  go_upto_region 4 with fail
  go_still_tail 16, (by kernel_rfl)
  change wpList _ _ _ _ _ wc.drew
  generalize wc.drew = W2 at *
  clear c5 c6
  obtain ⟨-, -, -, -, -, -, d6, dz⟩ := hm2d.facts HXp.out
  obtain ⟨hm3, hk3⟩ := hm2d.next HXp.out (nx x.blk)
  obtain ⟨-, -, -, -, -, e5, -, ez⟩ := hm3.facts HXn.out
  obtain ⟨hm4, hk4⟩ := hm3.prev HXn.out (pv x.blk)
  have d6z := dz 6
  have e5z := ez 5
  rw [HEp.out] at d6 d6z
  rw [HEp.out, HEn.out] at e5 e5z hm4 hk4
  rw [HEp.out] at hk3
  have HM4 : Hid (Mem ((W2.setCell ⟨pv x.blk, 6, none⟩ (Value.pointer (some ⟨nx x.blk, 0, none⟩))).setCell ⟨nx x.blk, 5, none⟩ (Value.pointer (some ⟨pv x.blk, 0, none⟩))) Z L (upd pv (nx x.blk) (pv x.blk)) (upd nx (pv x.blk) (nx x.blk))) := Lib.hid hm4
  have HK4 : Hid (Keep Z W2 ((W2.setCell ⟨pv x.blk, 6, none⟩ (Value.pointer (some ⟨nx x.blk, 0, none⟩))).setCell ⟨nx x.blk, 5, none⟩ (Value.pointer (some ⟨pv x.blk, 0, none⟩)))) := Lib.hid (hk3.trans hk4 fun _ _ => id)
  have hnp : g ≠ pv x.blk := by rw [← HEp.out]; exact box_ne hb2d (hm2d.node _ HXp.out)
  have hnn : g ≠ nx x.blk := by rw [← HEn.out]; exact box_ne hb2d (hm2d.node _ HXn.out)
  have hmp2 := map_keep HM.out hk2d (fun e => map_ne HBX.out HM.out e.symm)
  have hbp : b ≠ pv x.blk := by rw [← HEp.out]; exact (map_ne (hm2d.node _ HXp.out) hmp2).symm
  have hbn : b ≠ nx x.blk := by rw [← HEn.out]; exact (map_ne (hm2d.node _ HXn.out) hmp2).symm
  have HB4 : Hid (Lift.Box ((W2.setCell ⟨pv x.blk, 6, none⟩ (Value.pointer (some ⟨nx x.blk, 0, none⟩))).setCell ⟨nx x.blk, 5, none⟩ (Value.pointer (some ⟨pv x.blk, 0, none⟩))) g Ty.cache [vi room, vi (V + x.s.b.length : Nat), .map (some b), pt F, pt H]) := Lib.hid ((hb2d.setOther (p := ⟨pv x.blk, 6, none⟩) hnp _).setOther (p := ⟨nx x.blk, 5, none⟩) hnn _)
  have HP4 : Hid (((W2.setCell ⟨pv x.blk, 6, none⟩ (Value.pointer (some ⟨nx x.blk, 0, none⟩))).setCell ⟨nx x.blk, 5, none⟩ (Value.pointer (some ⟨pv x.blk, 0, none⟩))).ownsMap Try.prog 51 ptrR b (Maps.size D0) D0) := Lib.hid ((hmp2.setCell (a := ⟨pv x.blk, 6, none⟩) hbp _).setCell (a := ⟨nx x.blk, 5, none⟩) hbn _)
  have HK2 := Lib.hid hk2d
  clear hm2d hm3 hm4 hk3 hk4 dz ez hb2d hk2d hmp2 hbp hbn hnp hnn
  go_upto_region 5 with fail
  generalize (W2.setCell ⟨pv x.blk, 6, none⟩ (Value.pointer (some ⟨nx x.blk, 0, none⟩))).setCell ⟨nx x.blk, 5, none⟩ (Value.pointer (some ⟨pv x.blk, 0, none⟩)) = W4 at HM4 HK4 HB4 HP4 ⊢
  clear d6 d6z e5 e5z
  have g2 := HB4.out.cell 2
  simp only [List.getElem?_cons_succ, List.getElem?_cons_zero] at g2
  obtain ⟨a0, a1, a2, -, -, -, -, -⟩ := HM4.out.facts HXm.out
  have l4 := load_pair (w := W4) (p := ⟨x.blk, 0, none⟩) a0 a1
  have l4d := load_pair (w := W4.drew) (p := ⟨x.blk, 0, none⟩) a0 a1
  go_still_tail 8, (by kernel_rfl)
  change wpList _ _ _ _ _ W4.drew
  clear a0 a1 a2 g2 l4 l4d
  obtain ⟨W6, D6, hrun, hmp6, htell6, hk6⟩ := drop_run (w := W4.drew) (ty := 0) HP4.out.drew HT.out (fun e he => ⟨(HM4.out.ok e he).wff, (HM4.out.ok e he).wfo⟩) Hx.out HL.out.inv.once
  have hm4d : Mem W4.drew Z L (upd pv (nx x.blk) (pv x.blk)) (upd nx (pv x.blk) (nx x.blk)) := HM4.out.keep (T := fun _ => False) (Keep.refl _ W4).drew (fun k h => h.elim) fun _ => id
  have hb4d : Lift.Box W4.drew g Ty.cache [vi room, vi (V + x.s.b.length : Nat), .map (some b), pt F, pt H] := HB4.out
  have hb6 := hb4d.keep hk6 fun e => map_ne hb4d HP4.out.drew e
  have hm6 := hm4d.keep hk6 (away_map HP4.out.drew) fun _ => id
  have HK6 : Hid (Keep Z w W6) := Lib.hid (((HK2.out.mono fun k hk => by rw [hk]; exact HL.out.sg).trans HK4.out fun _ _ => id).drew.trans hk6 fun k _ hk => by rw [hk]; exact hzb)
  have HB6 := Lib.hid hb6
  have HM6 := Lib.hid hm6
  have HP6 := Lib.hid hmp6
  have HT6 := Lib.hid htell6
  clear hmp6 htell6 hk6 hm4d hb4d hb6 hm6
  generalize W4.drew = W5 at *
  have g1 := HB6.out.cell 1
  simp only [List.getElem?_cons_succ, List.getElem?_cons_zero] at g1
  obtain ⟨-, -, a2, -, -, -, -, -⟩ := HM6.out.facts HXm.out
  go_upto_region 6 with fail
  go_still_tail 10, (by kernel_rfl)
  change wpList _ _ _ _ _ W6.drew
  have hb7 : Lift.Box W6.drew g Ty.cache [vi room, vi (V + x.s.b.length : Nat), .map (some b), pt F, pt H] := HB6.out
  have z1 := hb7.free 1
  have p1 := hb7.cell 1
  simp only [List.getElem?_cons_succ, List.getElem?_cons_zero] at p1
  have hb8 : Lift.Box (W6.setCell ⟨g, 1, none⟩ (.int .i64 (V : Int))).drew g Ty.cache [vi room, vi V, .map (some b), pt F, pt H] := HB6.out.set 1 (vi V)
  have hk8 : Keep (· = g) W6 (W6.setCell ⟨g, 1, none⟩ (.int .i64 (V : Int))).drew := ((Keep.refl (· = g) W6).setCell (p := ⟨g, 1, none⟩) (.inr rfl) _).drew
  have HB8 := Lib.hid hb8
  have HK8 := Lib.hid hk8
  clear hb7 hb8 hk8 g1 a2
  go_upto_region 7 with fail
  generalize (W6.setCell ⟨g, 1, none⟩ (.int .i64 (V : Int))).drew = W8 at HB8 HK8 ⊢
  clear z1 p1
  have hz : g ≠ b := map_ne HB6.out HP6.out
  have hmp8 := map_keep HP6.out HK8.out fun e => hz e.symm
  have hm8 := (HM6.out.keep HK8.out (away_box HB6.out) fun _ => id).sub (List.eraseIdx_sublist L i)
  have HK9 := Lib.hid (HK6.out.trans HK8.out fun k _ hk => by rw [hk]; exact HL.out.sg)
  have hmo : MapOf W8 Z (some b) (L.eraseIdx i) := .inr ⟨b, D6, rfl, hzb, hmp8, HT6.out⟩
  have hlen := len_run (ty := 3) hmo
  have hlm : (L.eraseIdx i).length ≤ 1000 := Nat.le_trans (List.length_eraseIdx_le ..) hmany
  have HM8 := Lib.hid hm8
  have HMO := Lib.hid hmo
  have g2 := HB8.out.cell 2
  simp only [List.getElem?_cons_succ, List.getElem?_cons_zero] at g2
  have HRG : Hid (Ring ((L.eraseIdx i).map E.blk) (upd pv (nx x.blk) (pv x.blk)) (upd nx (pv x.blk) (nx x.blk))) := Lib.hid (by
    rw [erase_map]
    exact ring_erase HL.out.ring HL.out.mem.nd (by rw [List.getElem?_map, Hx.out]; rfl))
  have HIN : Hid (Inv room ((L.eraseIdx i).map E.s, (out (L.map E.s, hand) i).2)) := Lib.hid (by
    refine ⟨?_, ?_, ?_⟩
    · rw [erase_map]; exact fine_out (L.map E.s, hand) i
    · have := HL.out.inv.room
      have h2 := HUE.out
      have h3 := HV.out
      simp only at this ⊢
      omega
    · rw [erase_map]
      exact HL.out.inv.once.sublist ((List.eraseIdx_sublist _ _).map _))
  clear hmp8 hm8 hmo
  obtain ⟨n', hn'⟩ : ∃ n', n' = (L.eraseIdx i).length := ⟨_, rfl⟩
  rw [← hn'] at hlen hlm
  have HN' := Lib.hid hn'
  have hll : (L.eraseIdx i).length = L.length - 1 := by rw [List.length_eraseIdx, if_pos hil]
  have HLL := Lib.hid hll
  clear hn' hll
  cases n' with
  | zero =>
    have HNIL : Hid (L.eraseIdx i = []) := Lib.hid (List.eq_nil_of_length_eq_zero HN'.out.symm)
    have z3 := HB8.out.free 3
    have z4 := HB8.out.free 4
    have hb9 : Lift.Box ((W8.setCell ⟨g, 3, none⟩ (.pointer none)).setCell ⟨g, 4, none⟩ (.pointer none)) g Ty.cache [vi room, vi V, .map (some b), .pointer none, .pointer none] := (HB8.out.set 3 (.pointer none)).set 4 (.pointer none)
    have HB9 := Lib.hid hb9
    have c3 := HB8.out.cell 3
    have c4 := HB8.out.cell 4
    simp only [List.getElem?_cons_succ, List.getElem?_cons_zero] at c3 c4
    have hk9 : Keep (· = g) W8 ((W8.setCell ⟨g, 3, none⟩ (.pointer none)).setCell ⟨g, 4, none⟩ (.pointer none)) := (((Keep.refl (· = g) W8).setCell (p := ⟨g, 3, none⟩) (.inr rfl) _).setCell (p := ⟨g, 4, none⟩) (.inr rfl) _)
    have HKA := Lib.hid hk9
    clear hb9 hk9
    go_wp2_with fail
    go_end0
    refine ⟨rfl, ⟨?_, HM8.out.keep HKA.out (away_box HB8.out) fun _ => id, HMO.out.keep HKA.out (fun b' h1 h2 => hz (by rw [Option.some.inj h1]; exact h2.symm)) fun _ => id, HRG.out, HIN.out, HL.out.sg, fun k hk => Nat.lt_of_lt_of_le (Nat.lt_of_lt_of_le (HL.out.lt k hk) HK9.out.size) HKA.out.size, by rw [← HN'.out]; exact hlm, HL.out.roomy⟩, HK9.out.trans HKA.out fun k _ hk => by rw [hk]; exact HL.out.sg⟩
    rw [← HV.out, HNIL.out]
    exact HB9.out
  | succ n' =>
    have d0 : ((n' : Int) + 1 == 0) = false := beq_eq_false_iff_ne.mpr (by omega)
    rw [show ((n' + 1 : Nat) : Int) = (n' : Int) + 1 by omega] at hlen
    have HFE := Lib.hid (first_erase HL.out.ring HL.out.mem.nd Hx.out HX0.out (by have := HN'.out; have := HLL.out; omega))
    have HHE := Lib.hid (hand_erase (hand := hand) HL.out.ring HL.out.mem.nd Hx.out HXh.out (by have := HN'.out; have := HLL.out; omega))
    go_wp2_with fail
    go_end0
    refine ⟨rfl, ⟨?_, HM8.out, HMO.out, HRG.out, HIN.out, HL.out.sg, fun k hk => Nat.lt_of_lt_of_le (HL.out.lt k hk) HK9.out.size, by rw [← HN'.out]; exact hlm, HL.out.roomy⟩, HK9.out⟩
    rw [← HV.out, HFE.out, HHE.out, ← HF.out, ← HH.out]
    exact HB8.out
end
end Go.Proofs.Ytbeohfmikpbkhaa.Ck
