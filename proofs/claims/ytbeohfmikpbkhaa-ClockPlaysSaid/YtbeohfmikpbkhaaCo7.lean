/- The project's cache: a slot more (add). -/
import Derived.Test.YtbeohfmikpbkhaaCo6
import Derived.WalkSpells
namespace Go.Proofs.Ytbeohfmikpbkhaa.Ck
set_option linter.unusedVariables false
set_option linter.unusedSimpArgs false
open Go.RowKit Go.Maps Lift Ik
section
variable {w w' : World} {g room hand : Nat} {Z : Nat → Prop} {L : List E} {M : Option Nat} {pv nx : Nat → Nat}
/-- The blocks Z, and the new ones from B on. -/
def More (Z : Nat → Prop) (B : Nat) (w : World) (k : Nat) : Prop := Z k ∨ (B ≤ k ∧ k < w.heap.size)
/-- What lies behind the two tests: the new slot e is to stand behind P and ahead of F. -/
structure Mid (w : World) (g : Nat) (room hand U b : Nat) (L : List E) (pv nx : Nat → Nat) (e : E) (F P H : Nat) (v5 v6 : Value) (xf xp : E) (wx : World) : Prop where
  box : Lift.Box wx g Ty.cache [vi room, vi U, .map (some b), pt F, pt H]
  node : Lift.Box wx e.blk Ty.node [.int .i64 e.s.file, .int .i64 e.s.off, .slice e.ba e.s.b.length e.bc, .int .i64 (e.s.pins : Int), .bool e.s.mark, v5, v6]
  prev : wx.cell? ⟨F, 5, none⟩ = some (pt P)
  fm : xf ∈ L ++ [e]
  fb : xf.blk = F
  pm : xp ∈ L ++ [e]
  pb : xp.blk = P
  ring : Ring ((L ++ [e]).map E.blk) (upd (upd pv e.blk P) F e.blk) (upd (upd nx e.blk F) P e.blk)
  first : ptO (blkAt (L ++ [e]) (some 0)) = pt F
  at_ : ptO (blkAt (L ++ [e]) (some hand)) = pt H
  keep : Keep (fun k => k = g ∨ k = e.blk) w wx
  px : P = e.blk → F = e.blk
theorem Mem.keep2 {X : Nat} {us vs : List Value} (h : Mem w Z L pv nx) (hk : Keep (fun k => k = g ∨ k = X) w w') (hb : Lift.Box w g Ty.cache us) (hX : Lift.Box w X Ty.node vs) (hn : ∀ x, x ∈ L → x.blk ≠ X) : Mem w' Z L pv nx := by
  refine ⟨fun x hx => (h.node x hx).keep hk fun h1 => h1.elim (fun e1 => box_ne hb (h.node x hx) e1.symm) (hn x hx), fun x hx => ?_, h.zb, h.nd⟩
  have ho := h.ok x hx
  refine ⟨own_kept ho.own hk fun k hv h1 => ?_, ho.sv, ho.v8, ho.few, ho.pins, ho.wff, ho.wfo⟩
  rcases h1 with e1 | e1
  · rw [e1] at hv; exact own_apart ho.own hb (by decide) hv
  · rw [e1] at hv; exact own_apart ho.own hX (by decide) hv
theorem Mem.snoc {e : E} {P F : Nat} {Z' : Nat → Prop} (h : Mem w Z L pv nx) (hb : Lift.Box w e.blk Ty.node (e.cells P F)) (ho : e.Ok w Z') (hz : Z' e.blk) (hZ : ∀ k, Z k → Z' k) (hn : ∀ x, x ∈ L → x.blk ≠ e.blk) : Mem w Z' (L ++ [e]) (upd pv e.blk P) (upd nx e.blk F) := by
  refine ⟨fun x hx => ?_, fun x hx => ?_, fun x hx => ?_, ?_⟩
  · rcases List.mem_append.1 hx with hx | hx
    · rw [upd_off (hn x hx), upd_off (hn x hx)]; exact h.node x hx
    · rw [List.mem_singleton.1 hx, upd_at, upd_at]; exact hb
  · rcases List.mem_append.1 hx with hx | hx
    · have h1 := h.ok x hx
      exact ⟨h1.own, fun k hk => hZ k (h1.sv k hk), h1.v8, h1.few, h1.pins, h1.wff, h1.wfo⟩
    · rw [List.mem_singleton.1 hx]; exact ho
  · rcases List.mem_append.1 hx with hx | hx
    · exact hZ _ (h.zb x hx)
    · rw [List.mem_singleton.1 hx]; exact hz
  · rw [List.map_append]
    refine List.nodup_append.2 ⟨h.nd, by simp, fun a ha b hb1 e1 => ?_⟩
    obtain ⟨x, hx, rfl⟩ := List.mem_map.1 ha
    have : b = e.blk := by simpa using hb1
    exact hn x hx (e1.trans this)
set_option maxRecDepth 100000 in
set_option maxHeartbeats 3200000 in
theorem add_any {e : E} {B : Nat} (h : OLay w g Z room hand M L pv nx) (hn : Lift.Box w e.blk Ty.node [.int .i64 e.s.file, .int .i64 e.s.off, .slice e.ba e.s.b.length e.bc, .int .i64 (e.s.pins : Int), .bool e.s.mark, .pointer none, .pointer none])
    (hd : w.ownsRow B 5 1 (.slice e.ba e.s.b.length e.bc) e.s.b.length (e.s.b.map vb)) (hZB : ∀ k, Z k → k < B) (hB : B ≤ e.blk) (h8 : ∀ c, c ∈ e.s.b → c < 256) (hfew : e.s.b.length ≤ 100) (hp : e.s.pins ≤ 1000) (hf : wf64 e.s.file) (ho : wf64 e.s.off)
    (hno : ∀ d, d ∈ L → ¬ (d.s.file = e.s.file ∧ d.s.off = e.s.off)) (hm : L.length + 1 ≤ 1000) (hin : Inv room (L.map E.s ++ [e.s], hand)) :
    Calls Try.prog (24) #[pt g, pt e.blk] w fun r w' => r = .returned (.tuple #[]) ∧
      ∃ M' pv' nx', OLay w' g (More Z B w') room hand M' (L ++ [e]) pv' nx' ∧ Keep (fun k => Z k ∨ B ≤ k) w w' := by
  have hbox := h.box
  have hub := h.used_le
  have hrm := h.inv.room
  have HIN := Lib.hid hin
  have hus : used (L.map E.s ++ [e.s]) = used (L.map E.s) + e.s.b.length := by unfold used; rw [List.map_append, List.sum_append]; simp
  have hu2 := hin.room
  simp only at hu2 hrm
  rw [hus] at hu2
  have hgX : g ≠ e.blk := box_ne hbox hn
  have HL := Lib.hid h
  have HZB := Lib.hid hZB
  have H8 := Lib.hid h8
  have HNO := Lib.hid hno
  have HD := Lib.hid hd
  have HBO := Lib.hid hbox
  have HNB := Lib.hid hn
  have HUS := Lib.hid hus
  have HWF := Lib.hid (fun d (hd : d ∈ L) => (⟨(h.mem.ok d hd).wff, (h.mem.ok d hd).wfo⟩ : wf64 d.s.file ∧ wf64 d.s.off))
  obtain ⟨U, hU⟩ : ∃ U, U = used (L.map E.s) := ⟨_, rfl⟩
  rw [← hU] at hbox hub hrm hu2
  have HB0 := Lib.hid hbox
  have HU := Lib.hid hU
  have f2 := hbox.cell 2
  have z2 := hbox.free 2
  simp only [List.getElem?_cons_succ, List.getElem?_cons_zero] at f2
  have hmap := h.map
  clear h hn hd hZB h8 hno hin hus hU hbox HBO
  have q : ∀ W : World, Sem.run Try.prog (binOp .eql Ty.map (.map M) (.map none)) W = .ok (.bool M.isNone) W := fun W => run_eql_map_nil W _ _ _ M Try.underlying43
  obtain ⟨t, ht⟩ : ∃ t, t = M.isNone := ⟨_, rfl⟩
  rw [← ht] at q
  have HTT := Lib.hid ht
  clear ht
  go_enter (Try.func24), (Try.ntmps24)
  go_upto_if 8 with fail
  go_cut [] (fun wx => ∃ b D, Lift.Box wx g Ty.cache [vi room, vi U, .map (some b), ptO (blkAt L (some 0)), ptO (blkAt L (some hand))] ∧ wx.ownsMap Try.prog 51 ptrR b (Maps.size D) D ∧ Tell D L ∧ Keep (· = g) w wx ∧ (Z b ∨ w.heap.size ≤ b))
  case first =>
    rcases hmap with ⟨rfl, hnil⟩ | ⟨b, D, rfl, hzb, hmp, htl⟩
    · obtain rfl : t = true := HTT.out
      have hmm := @run_makeMap Try.prog
      have hb2 : Lift.Box ((w.alloc (.map #[] 0)).setCell ⟨g, 2, none⟩ (.map (some w.heap.size))) g Ty.cache [vi room, vi U, .map (some w.heap.size), ptO (blkAt L (some 0)), ptO (blkAt L (some hand))] := (HB0.out.alloc _).set 2 (.map (some w.heap.size))
      have HQ := Lib.hid hb2
      have hgs := HB0.out.lt
      have hom := (World.ownsMap_made (H := Unit) w Try.prog 51 ptrR).setCell (a := ⟨g, 2, none⟩) (by show w.heap.size ≠ g; omega) (.map (some w.heap.size))
      have HM := Lib.hid hom
      clear hom hgs hb2
      have z2' : (w.alloc (.map #[] 0)).frozen? ⟨g, 2, none⟩ = false := (HB0.out.alloc (.map #[] 0)).free 2
      have f2' : (w.alloc (.map #[] 0)).cell? ⟨g, 2, none⟩ = some (.map none) := (HB0.out.alloc (.map #[] 0)).cell 2
      have HNL := Lib.hid hnil
      clear hnil
      go_wp2_with fail
      go_meet
      refine ⟨w.heap.size, .map [], HQ.out, HM.out, ?_, ((Keep.refl (· = g) w).alloc _).setCell (p := ⟨g, 2, none⟩) (.inr rfl) _, .inr (Nat.le_refl _)⟩
      rw [HNL.out]
      exact ⟨fun e he => (by cases he), fun f a _ _ _ => ⟨rfl, rfl⟩, rfl⟩
    · obtain rfl : t = false := HTT.out
      have HMP := Lib.hid hmp
      have HTL := Lib.hid htl
      clear hmp htl
      go_wp2_with fail
      go_meet
      exact ⟨b, D, HB0.out, HMP.out, HTL.out, Keep.refl _ _, .inl hzb⟩
  case rest =>
  obtain ⟨b, D, hb1, hmp1, htl1, hk1, hzb⟩ := hcut
  have hn1 := HNB.out.keep hk1 fun e1 => hgX e1.symm
  have hm1 := HL.out.mem.keep hk1 (away_box HB0.out) fun _ => id
  have HB1 := Lib.hid hb1
  have HP1 := Lib.hid hmp1
  have HT1 := Lib.hid htl1
  have HK1 := Lib.hid hk1
  have HN1 := Lib.hid hn1
  have HM1 := Lib.hid hm1
  have HZ1 := Lib.hid hzb
  have hbg := map_ne hb1 hmp1
  have hbX := map_ne hn1 hmp1
  have f3 := hb1.cell 3
  have g3 := hb1.cell 4
  have z3 := hb1.free 3
  have z4 := hb1.free 4
  simp only [List.getElem?_cons_succ, List.getElem?_cons_zero] at f3 g3
  have x5 := hn1.cell 5
  have x6 := hn1.cell 6
  have y5 := hn1.free 5
  have y6 := hn1.free 6
  simp only [List.getElem?_cons_succ, List.getElem?_cons_zero] at x5 x6
  clear hb1 hmp1 htl1 hk1 hn1 hm1 hzb f2 z2 q hmap
  have hnl : ∀ x, x ∈ L → x.blk ≠ e.blk := fun x hx e1 => by
    have := HZB.out _ (HL.out.mem.zb x hx)
    omega
  have HNL := Lib.hid hnl
  clear hnl
  have hsX := HZB.out
  have hX0 : e.blk ∉ L.map E.blk := fun h1 => by
    obtain ⟨x, hx, e1⟩ := List.mem_map.1 h1
    exact HNL.out x hx e1
  have HX0 := Lib.hid hX0
  clear hX0 hsX
  obtain ⟨o0, ho0⟩ : ∃ o0, o0 = blkAt L (some 0) := ⟨_, rfl⟩
  rw [← ho0] at f3
  have HO0 := Lib.hid ho0
  clear ho0
  generalize hW1 : wc = W1 at *
  clear hW1
  have q17 : ∀ W : World, Sem.run Try.prog (binOp .eql 44 (ptO o0) (.pointer none)) W = .ok (.bool o0.isNone) W := by
    intro W
    cases o0 with
    | none => show Sem.run _ (binOp .eql _ (Value.pointer none) (Value.pointer none)) W = _; go_simp
    | some n => show Sem.run _ (binOp .eql _ (pt n) (Value.pointer none)) W = _; go_simp
  have q18 : ∀ (x y : Operand) (W : World), Sem.run Try.prog (eqGuard .eql 44 x y (ptO o0) (.pointer none)) W = .ok () W := by
    intro x y W
    cases o0 with
    | none => show Sem.run _ (eqGuard .eql _ x y (Value.pointer none) (Value.pointer none)) W = _; go_simp
    | some n => show Sem.run _ (eqGuard .eql _ x y (pt n) (Value.pointer none)) W = _; go_simp
  obtain ⟨t2, ht2⟩ : ∃ t2, t2 = o0.isNone := ⟨_, rfl⟩
  rw [← ht2] at q17
  have HT2 := Lib.hid ht2
  clear ht2
  go_upto_if 17 with fail
  go_cut [] (fun wx => ∃ (F P H : Nat) (v5 v6 : Value) (xf xp : E), Mid W1 g room hand U b L pv nx e F P H v5 v6 xf xp wx)
  case first =>
    cases o0 with
    | none =>
      obtain rfl : t2 = true := HT2.out
      have hL : L = [] := by
        have h0 := HO0.out
        cases L with
        | nil => rfl
        | cons x l => simp [blkAt] at h0
      have hh : hand = 0 := by
        rcases HL.out.inv.fine with hf | ⟨_, hf⟩
        · rw [hL] at hf; simp at hf
        · exact hf
      have hbx := (((HB1.out.setOther (p := ⟨e.blk, 5, none⟩) hgX (pt e.blk)).setOther (p := ⟨e.blk, 6, none⟩) hgX (pt e.blk)).set 3 (pt e.blk)).set 4 (pt e.blk)
      have hnx := ((((HN1.out.set 5 (pt e.blk)).set 6 (pt e.blk)).setOther (p := ⟨g, 3, none⟩) hgX.symm (pt e.blk)).setOther (p := ⟨g, 4, none⟩) hgX.symm (pt e.blk))
      have hkx := ((((Keep.refl (fun k => k = g ∨ k = e.blk) W1).setCell (p := ⟨e.blk, 5, none⟩) (.inr (.inr rfl)) (pt e.blk)).setCell (p := ⟨e.blk, 6, none⟩) (.inr (.inr rfl)) (pt e.blk)).setCell (p := ⟨g, 3, none⟩) (.inr (.inl rfl)) (pt e.blk)).setCell (p := ⟨g, 4, none⟩) (.inr (.inl rfl)) (pt e.blk)
      have HBx := Lib.hid hbx
      have HNx := Lib.hid hnx
      have HKx := Lib.hid hkx
      have HLL := Lib.hid hL
      have HHH := Lib.hid hh
      clear hbx hnx hkx hL hh
      go_wp2_with fail
      go_meet
      refine ⟨e.blk, e.blk, e.blk, pt e.blk, pt e.blk, e, e, HBx.out, HNx.out, HNx.out.cell 5, by simp, rfl, by simp, rfl, ?_, ?_, ?_, HKx.out, fun _ => rfl⟩
      · rw [HLL.out]
        exact ring_one _ _ _ (by rw [upd_at]) (by rw [upd_at])
      · rw [HLL.out]; rfl
      · rw [HLL.out, HHH.out]; rfl
    | some n0 =>
      obtain rfl : t2 = false := HT2.out
      obtain ⟨x0, hx0, e0⟩ : ∃ x0, L[0]? = some x0 ∧ x0.blk = n0 := by
        have h0 := HO0.out
        cases hq : L[0]? with
        | none => simp [blkAt, hq] at h0
        | some x => simp [blkAt, hq] at h0; exact ⟨x, rfl, h0.symm⟩
      have h0l := (List.getElem?_eq_some_iff.1 hx0).1
      have hhl : hand < L.length := by
        rcases HL.out.inv.fine with hf | ⟨hf, _⟩
        · simpa using hf
        · have : L.length = 0 := by simpa using congrArg List.length hf
          omega
      obtain ⟨xh, hxh⟩ : ∃ xh, L[hand]? = some xh := ⟨_, List.getElem?_eq_getElem hhl⟩
      have g0 : (L.map E.blk)[0]? = some n0 := by rw [List.getElem?_map, hx0, ← e0]; rfl
      have hpv := HL.out.ring.prev g0
      obtain ⟨xp, hxp, exp⟩ : ∃ xp, L[pvi L.length 0]? = some xp ∧ xp.blk = pv n0 := by
        rw [List.length_map, List.getElem?_map] at hpv
        cases hq : L[pvi L.length 0]? with
        | none => rw [hq] at hpv; cases hpv
        | some e => rw [hq] at hpv; exact ⟨e, rfl, by simpa using hpv⟩
      have hrg := ring_add HL.out.ring HL.out.mem.nd g0 HX0.out
      have hc5 := (HM1.out.facts (List.mem_of_getElem? hx0)).2.2.2.2.2.1
      rw [e0] at hc5
      have b0 : blkAt L (some 0) = some n0 := HO0.out.symm
      have bh : blkAt L (some hand) = some xh.blk := by simp [blkAt, hxh]
      have hbx := HB1.out
      rw [b0, bh] at hbx
      have bl0 : blkAt (L ++ [e]) (some 0) = some n0 := by
        show ((L ++ [e])[0]?).map E.blk = some n0
        rw [List.getElem?_append_left h0l, hx0, ← e0]; rfl
      have blh : blkAt (L ++ [e]) (some hand) = some xh.blk := by
        show ((L ++ [e])[hand]?).map E.blk = some xh.blk
        rw [List.getElem?_append_left hhl, hxh]; rfl
      have HR : Hid (Mid W1 g room hand U b L pv nx e n0 (pv n0) xh.blk (.pointer none) (.pointer none) x0 xp W1) :=
        Lib.hid ⟨hbx, HN1.out, hc5, List.mem_append_left _ (List.mem_of_getElem? hx0), e0, List.mem_append_left _ (List.mem_of_getElem? hxp), exp, by rw [List.map_append]; exact hrg, by rw [bl0]; rfl, by rw [blh]; rfl, Keep.refl _ _, fun e1 => absurd (exp.trans e1) (HNL.out xp (List.mem_of_getElem? hxp))⟩
      clear hx0 hxh g0 hpv hxp hrg hc5 b0 bh hbx bl0 blh exp e0
      go_wp2_with fail
      go_meet
      exact ⟨_, _, _, _, _, _, _, HR.out⟩
  case rest =>
  clear f3 g3 z3 z4 x5 x6 y5 y6 q17 q18 HN1 HB1
  obtain ⟨F, P, H, v5, v6, xf, xp, hmid⟩ := hcut
  have f3 := hmid.box.cell 3
  have c5 := hmid.prev
  simp only [List.getElem?_cons_succ, List.getElem?_cons_zero] at f3
  have hb2 : Lift.Box wc.drew g Ty.cache [vi room, vi U, .map (some b), pt F, pt H] := hmid.box
  have hn2 : Lift.Box wc.drew e.blk Ty.node [.int .i64 e.s.file, .int .i64 e.s.off, .slice e.ba e.s.b.length e.bc, .int .i64 (e.s.pins : Int), .bool e.s.mark, v5, v6] := hmid.node
  have hk2 : Keep (fun k => k = g ∨ k = e.blk) w wc.drew := ((HK1.out.mono fun k h1 => .inl h1).trans hmid.keep fun _ _ => id).drew
  have hp2 : wc.drew.ownsMap Try.prog 51 ptrR b (Maps.size D) D := map_keep HP1.out hmid.keep.drew (fun h1 => h1.elim (fun e1 => hbg e1.symm) fun e1 => hbX e1.symm)
  have z5 := hn2.free 5
  have x5 := hn2.cell 5
  simp only [List.getElem?_cons_succ, List.getElem?_cons_zero] at x5
  have hn3 := hn2.set 5 (pt P)
  have z6 := hn3.free 6
  have x6 := hn3.cell 6
  simp only [List.getElem?_cons_succ, List.getElem?_cons_zero, List.set_cons_succ, List.set_cons_zero] at x6
  have hS0 : wc.drew.cell? ⟨g, 3, none⟩ = some (pt F) ∧ wc.drew.cell? ⟨F, 5, none⟩ = some (pt P) := ⟨f3, c5⟩
  have hS1 : (wc.drew.setCell ⟨e.blk, 5, none⟩ (pt P)).cell? ⟨g, 3, none⟩ = some (pt F) ∧ (wc.drew.setCell ⟨e.blk, 5, none⟩ (pt P)).cell? ⟨F, 5, none⟩ = some (pt P) := by
    refine ⟨(hb2.setOther (p := ⟨e.blk, 5, none⟩) hgX (pt P)).cell 3, ?_⟩
    by_cases hFX : F = e.blk
    · rw [hFX]; exact hn3.cell 5
    · exact cell_eq (w := wc.drew) (p := ⟨F, 5, none⟩) (Below.heap_setCell _ _ _ _ hFX) hS0.2
  have HS1 := Lib.hid hS1
  clear hS1 f3 c5
  go_upto_region 5 with fail
  refine wp_region_last (S := fun w' => Hid (w'.cell? ⟨g, 3, none⟩ = some (pt F) ∧ w'.cell? ⟨F, 5, none⟩ = some (pt P))) 18 (by kernel_rfl) (Lib.hid hS0) (fun hS => ?_)
  generalize hwd : wc.drew = W2 at *
  clear hwd
  refine wpAnyX_take (i := 0) (v := ?_) rfl (by kernel_rfl) (by kernel_rfl) (by kernel_rfl) (by kernel_rfl) (fun _ _ _ h => h) (Or.inl ⟨by rfl, ?_⟩) hS ?_
  rotate_left
  · intro w hw
    go_simp
    try with_reducible rfl
  try simp only [Act.put, List.getElem_toArray, List.getElem_cons_succ, List.getElem_cons_zero, List.setIfInBounds_toArray, List.set_cons_zero, List.set_cons_succ]
  refine wpAnyX_take (i := 1) (v := ?_) rfl (by kernel_rfl) (by kernel_rfl) (by kernel_rfl) (by kernel_rfl) (fun _ _ _ h => h) (Or.inl ⟨by rfl, ?_⟩) hS ?_
  rotate_left
  · intro w hw
    go_simp
    try with_reducible rfl
  try simp only [Act.put, List.getElem_toArray, List.getElem_cons_succ, List.getElem_cons_zero, List.setIfInBounds_toArray, List.set_cons_zero, List.set_cons_succ]
  refine wpAnyX_take (i := 2) (v := ?_) rfl (by kernel_rfl) (by kernel_rfl) (by kernel_rfl) (by kernel_rfl) (fun _ _ _ h => h) (Or.inl ⟨by rfl, ?_⟩) hS ?_
  rotate_left
  · intro w hw
    go_simp
    try with_reducible rfl
  try simp only [Act.put, List.getElem_toArray, List.getElem_cons_succ, List.getElem_cons_zero, List.setIfInBounds_toArray, List.set_cons_zero, List.set_cons_succ]
  refine wpAnyX_take (i := 3) (v := ?_) rfl (by kernel_rfl) (by kernel_rfl) (by kernel_rfl) (by kernel_rfl) (fun _ _ _ h => h) (Or.inl ⟨by rfl, ?_⟩) hS ?_
  rotate_left
  · intro w hw
    go_simp
    try with_reducible rfl
  try simp only [Act.put, List.getElem_toArray, List.getElem_cons_succ, List.getElem_cons_zero, List.setIfInBounds_toArray, List.set_cons_zero, List.set_cons_succ]
  refine wpAnyX_take (i := 4) (v := ?_) rfl (by kernel_rfl) (by kernel_rfl) (by kernel_rfl) (by kernel_rfl) (fun _ _ _ h => h) (Or.inl ⟨by rfl, ?_⟩) hS ?_
  rotate_left
  · intro w hw
    go_simp
    try with_reducible rfl
  try simp only [Act.put, List.getElem_toArray, List.getElem_cons_succ, List.getElem_cons_zero, List.setIfInBounds_toArray, List.set_cons_zero, List.set_cons_succ]
  refine wpAnyX_take (i := 5) (v := ?_) rfl (by kernel_rfl) (by kernel_rfl) (by kernel_rfl) (by kernel_rfl) (fun _ _ _ h => h) (Or.inl ⟨by rfl, ?_⟩) hS ?_
  rotate_left
  · intro w hw
    have b0 := hw.out.1
    have b1 := hw.out.2
    go_simp
    try with_reducible rfl
  try simp only [Act.put, List.getElem_toArray, List.getElem_cons_succ, List.getElem_cons_zero, List.setIfInBounds_toArray, List.set_cons_zero, List.set_cons_succ]
  refine wpAnyX_take (i := 6) (v := ?_) rfl (by kernel_rfl) (by kernel_rfl) (by kernel_rfl) (by kernel_rfl) (fun _ _ _ h => h) (Or.inl ⟨by rfl, ?_⟩) hS ?_
  rotate_left
  · intro w hw
    go_simp
    try with_reducible rfl
  try simp only [Act.put, List.getElem_toArray, List.getElem_cons_succ, List.getElem_cons_zero, List.setIfInBounds_toArray, List.set_cons_zero, List.set_cons_succ]
  refine wpAnyX_take (i := 7) (v := ?_) rfl (by kernel_rfl) (by kernel_rfl) (by kernel_rfl) (by kernel_rfl) (fun _ _ _ h => h) (Or.inl ⟨by rfl, ?_⟩) hS ?_
  rotate_left
  · intro w hw
    go_simp
    try with_reducible rfl
  try simp only [Act.put, List.getElem_toArray, List.getElem_cons_succ, List.getElem_cons_zero, List.setIfInBounds_toArray, List.set_cons_zero, List.set_cons_succ]
  refine wpAnyX_take (i := 8) (v := ?_) rfl (by kernel_rfl) (by kernel_rfl) (by kernel_rfl) (by kernel_rfl) (fun _ _ _ h => h) (Or.inl ⟨by rfl, ?_⟩) hS ?_
  rotate_left
  · intro w hw
    have b0 := hw.out.1
    have b1 := hw.out.2
    go_simp
    try with_reducible rfl
  try simp only [Act.put, List.getElem_toArray, List.getElem_cons_succ, List.getElem_cons_zero, List.setIfInBounds_toArray, List.set_cons_zero, List.set_cons_succ]
  refine wpAnyX_take (i := 9) (v := ?_) rfl (by kernel_rfl) (by kernel_rfl) (by kernel_rfl) (by kernel_rfl) (fun _ _ _ h => h) (Or.inl ⟨by rfl, ?_⟩) hS ?_
  rotate_left
  · intro w hw
    go_simp
    try with_reducible rfl
  try simp only [Act.put, List.getElem_toArray, List.getElem_cons_succ, List.getElem_cons_zero, List.setIfInBounds_toArray, List.set_cons_zero, List.set_cons_succ]
  refine wpAnyX_take (i := 10) (v := ?_) rfl (by kernel_rfl) (by kernel_rfl) (by kernel_rfl) (by kernel_rfl) (fun _ _ _ h => h) (Or.inl ⟨by rfl, ?_⟩) hS ?_
  rotate_left
  · intro w hw
    go_simp
    try with_reducible rfl
  try simp only [Act.put, List.getElem_toArray, List.getElem_cons_succ, List.getElem_cons_zero, List.setIfInBounds_toArray, List.set_cons_zero, List.set_cons_succ]
  refine wpAnyX_take (i := 11) (v := ?_) rfl (by kernel_rfl) (by kernel_rfl) (by kernel_rfl) (by kernel_rfl) (fun _ _ _ h => h) (Or.inl ⟨by rfl, ?_⟩) hS ?_
  rotate_left
  · intro w hw
    go_simp
    try with_reducible rfl
  try simp only [Act.put, List.getElem_toArray, List.getElem_cons_succ, List.getElem_cons_zero, List.setIfInBounds_toArray, List.set_cons_zero, List.set_cons_succ]
  refine wpAnyX_take (i := 12) (v := ?_) rfl (by kernel_rfl) (by kernel_rfl) (by kernel_rfl) (by kernel_rfl) (fun _ _ _ h => h) (Or.inl ⟨by rfl, ?_⟩) hS ?_
  rotate_left
  · intro w hw
    have b0 := hw.out.1
    have b1 := hw.out.2
    go_simp
    try with_reducible rfl
  try simp only [Act.put, List.getElem_toArray, List.getElem_cons_succ, List.getElem_cons_zero, List.setIfInBounds_toArray, List.set_cons_zero, List.set_cons_succ]
  refine wpAnyX_take (i := 13) (v := ?_) rfl (by kernel_rfl) (by kernel_rfl) (by kernel_rfl) (by kernel_rfl) (fun _ _ _ h => h) (Or.inl ⟨by rfl, ?_⟩) hS ?_
  rotate_left
  · intro w hw
    go_simp
    try with_reducible rfl
  try simp only [Act.put, List.getElem_toArray, List.getElem_cons_succ, List.getElem_cons_zero, List.setIfInBounds_toArray, List.set_cons_zero, List.set_cons_succ]
  refine wpAnyX_take (i := 14) (v := ?_) rfl (by kernel_rfl) (by kernel_rfl) (by kernel_rfl) (by kernel_rfl) (fun _ _ _ h => h) (Or.inl ⟨by rfl, ?_⟩) hS ?_
  rotate_left
  · intro w hw
    go_simp
    try with_reducible rfl
  try simp only [Act.put, List.getElem_toArray, List.getElem_cons_succ, List.getElem_cons_zero, List.setIfInBounds_toArray, List.set_cons_zero, List.set_cons_succ]
  refine wpAnyX_ready (rs := [15]) (by kernel_rfl) (by simp) ?_
  refine (AllReadyX.cons rfl (fun K hK => ?_) AllReadyX.nil)
  go_simp
  refine hK.out _ _ HS1 (fun hS => ?_)
  clear hK K
  try simp only [Act.put, List.getElem_toArray, List.getElem_cons_succ, List.getElem_cons_zero, List.setIfInBounds_toArray, List.set_cons_zero, List.set_cons_succ]
  refine wpAnyX_ready (rs := [16]) (by kernel_rfl) (by simp) ?_
  refine (AllReadyX.cons rfl (fun K hK => ?_) AllReadyX.nil)
  go_simp
  refine hK.out _ _ hS (fun hS => ?_)
  clear hK K
  try simp only [Act.put, List.getElem_toArray, List.getElem_cons_succ, List.getElem_cons_zero, List.setIfInBounds_toArray, List.set_cons_zero, List.set_cons_succ]
  refine wpAnyX_take (i := 17) (v := ?_) rfl (by kernel_rfl) (by kernel_rfl) (by kernel_rfl) (by kernel_rfl) (fun _ _ _ h => h) (Or.inl ⟨by rfl, ?_⟩) hS ?_
  rotate_left
  · intro w hw
    go_simp
    try with_reducible rfl
  try simp only [Act.put, List.getElem_toArray, List.getElem_cons_succ, List.getElem_cons_zero, List.setIfInBounds_toArray, List.set_cons_zero, List.set_cons_succ]
  refine wpAnyX_ready (rs := [18]) (by kernel_rfl) (by simp) ?_
  refine AllReadyX.last rfl (fun K hK => ?_)
  go_simp
  refine hK.out _ _ ?_
  clear hK K
  try simp only [Act.put, List.getElem_toArray, List.getElem_cons_succ, List.getElem_cons_zero, List.setIfInBounds_toArray, List.set_cons_zero, List.set_cons_succ]
  refine wpAnyX_done (by kernel_rfl) ?_ _
  have hb5 := (hb2.setOther (p := ⟨e.blk, 5, none⟩) hgX (.pointer (some ⟨P, 0, none⟩))).setOther (p := ⟨e.blk, 6, none⟩) hgX (.pointer (some ⟨F, 0, none⟩))
  have hp5 := (hp2.setCell (a := ⟨e.blk, 5, none⟩) hbX.symm (.pointer (some ⟨P, 0, none⟩))).setCell (a := ⟨e.blk, 6, none⟩) hbX.symm (.pointer (some ⟨F, 0, none⟩))
  have hk5 := (hk2.setCell (p := ⟨e.blk, 5, none⟩) (.inr (.inr rfl)) (.pointer (some ⟨P, 0, none⟩))).setCell (p := ⟨e.blk, 6, none⟩) (.inr (.inr rfl)) (.pointer (some ⟨F, 0, none⟩))
  have hn5 : Lift.Box ((W2.setCell ⟨e.blk, 5, none⟩ (.pointer (some ⟨P, 0, none⟩))).setCell ⟨e.blk, 6, none⟩ (.pointer (some ⟨F, 0, none⟩))) e.blk Ty.node (e.cells P F) := hn3.set 6 (pt F)
  clear z5 x5 z6 x6 hn3 HS1 hS hb2 hp2 hk2 hn2
  generalize (W2.setCell ⟨e.blk, 5, none⟩ (.pointer (some ⟨P, 0, none⟩))).setCell ⟨e.blk, 6, none⟩ (.pointer (some ⟨F, 0, none⟩)) = W5 at *
  have hok : e.Ok W5 (fun k => Z k ∨ (B ≤ k ∧ k < W5.heap.size)) := by
    have ho1 := own_kept (own_lower HD.out (Nat.zero_le _)) hk5 fun k hv h1 => h1.elim (fun e1 => by rw [e1] at hv; exact own_apart HD.out HB0.out (by decide) hv) fun e1 => by rw [e1] at hv; exact own_apart HD.out HNB.out (by decide) hv
    exact ⟨ho1, fun k hk => .inr ⟨(HD.out.lt k hk).1, Nat.lt_of_lt_of_le (HD.out.lt k hk).2 hk5.size⟩, H8.out, hfew, hp, hf, ho⟩
  have hm5 := (HL.out.mem.keep2 hk5 HB0.out HNB.out HNL.out).snoc (Z' := fun k => Z k ∨ (B ≤ k ∧ k < W5.heap.size)) hn5 hok (.inr ⟨hB, Nat.lt_of_lt_of_le HNB.out.lt hk5.size⟩) (fun k h1 => .inl h1) HNL.out
  obtain ⟨hfm, hfb, hpm, hpb, hring, hfirst, hat, hpx⟩ : xf ∈ L ++ [e] ∧ xf.blk = F ∧ xp ∈ L ++ [e] ∧ xp.blk = P ∧ Ring ((L ++ [e]).map E.blk) (upd (upd pv e.blk P) F e.blk) (upd (upd nx e.blk F) P e.blk) ∧ ptO (blkAt (L ++ [e]) (some 0)) = pt F ∧ ptO (blkAt (L ++ [e]) (some hand)) = pt H ∧ (P = e.blk → F = e.blk) :=
    ⟨hmid.fm, hmid.fb, hmid.pm, hmid.pb, hmid.ring, hmid.first, hmid.at_, hmid.px⟩
  have HFM := Lib.hid hfm
  have HFB := Lib.hid hfb
  have HPM := Lib.hid hpm
  have HPB := Lib.hid hpb
  have HRING := Lib.hid hring
  have HFIRST := Lib.hid hfirst
  have HAT := Lib.hid hat
  have hem : e ∈ L ++ [e] := by simp
  have HEM := Lib.hid hem
  have hxe := hm5.facts hem
  rw [upd_at, upd_at] at hxe
  obtain ⟨-, -, -, -, -, k5, k6, kz⟩ := hxe
  have hS0 : W5.drew.cell? ⟨e.blk, 5, none⟩ = some (pt P) ∧ W5.drew.cell? ⟨e.blk, 6, none⟩ = some (pt F) := ⟨k5, k6⟩
  have hm6 : Mem W5.drew (fun k => Z k ∨ (B ≤ k ∧ k < W5.heap.size)) (L ++ [e]) (upd pv e.blk P) (upd nx e.blk F) := hm5.keep (T := fun _ => False) (Keep.refl _ W5).drew (fun k h => h.elim) fun _ => id
  have hb6 : Lift.Box W5.drew g Ty.cache [vi room, vi U, .map (some b), pt F, pt H] := hb5
  have hp6 : W5.drew.ownsMap Try.prog 51 ptrR b (Maps.size D) D := hp5.drew
  have hk6 := hk5.drew
  have hgP : g ≠ P := by rw [← hpb]; exact box_ne hb6 (hm6.node _ hpm)
  have hgF : g ≠ F := by rw [← hfb]; exact box_ne hb6 (hm6.node _ hfm)
  have hbP : b ≠ P := by rw [← hpb]; exact (map_ne (hm6.node _ hpm) hp6).symm
  have hbF : b ≠ F := by rw [← hfb]; exact (map_ne (hm6.node _ hfm) hp6).symm
  obtain ⟨-, -, -, -, -, -, d6, dz⟩ := hm6.facts hpm
  obtain ⟨hm7, hk7⟩ := hm6.next hpm e.blk
  obtain ⟨-, -, -, -, -, e5, -, ez⟩ := hm7.facts hfm
  obtain ⟨hm8, hk8⟩ := hm7.prev hfm e.blk
  have d6z := dz 6
  have e5z := ez 5
  rw [hpb] at d6 d6z
  rw [hpb, hfb] at e5 e5z hm8 hk8
  rw [hpb] at hk7 hm7
  have hS1 : (W5.drew.setCell ⟨P, 6, none⟩ (.pointer (some ⟨e.blk, 0, none⟩))).cell? ⟨e.blk, 5, none⟩ = some (pt P) ∧ (W5.drew.setCell ⟨P, 6, none⟩ (.pointer (some ⟨e.blk, 0, none⟩))).cell? ⟨e.blk, 6, none⟩ = some (pt F) := by
    have hxe := hm7.facts hem
    refine ⟨?_, ?_⟩
    · have := hxe.2.2.2.2.2.1
      rw [upd_at] at this
      exact this
    · have := hxe.2.2.2.2.2.2.1
      rw [this]
      by_cases hPX : e.blk = P
      · rw [hPX, upd_at, hpx hPX.symm, hPX]
      · rw [upd_off hPX, upd_at]
  have HS1 := Lib.hid hS1
  have HM8 : Hid (Mem ((W5.drew.setCell ⟨P, 6, none⟩ (.pointer (some ⟨e.blk, 0, none⟩))).setCell ⟨F, 5, none⟩ (.pointer (some ⟨e.blk, 0, none⟩))) (fun k => Z k ∨ (B ≤ k ∧ k < W5.heap.size)) (L ++ [e]) (upd (upd pv e.blk P) F e.blk) (upd (upd nx e.blk F) P e.blk)) := Lib.hid hm8
  have HK8 : Hid (Keep (fun k => Z k ∨ (B ≤ k ∧ k < W5.heap.size)) W5.drew ((W5.drew.setCell ⟨P, 6, none⟩ (.pointer (some ⟨e.blk, 0, none⟩))).setCell ⟨F, 5, none⟩ (.pointer (some ⟨e.blk, 0, none⟩)))) := Lib.hid (hk7.trans hk8 fun _ _ => id)
  have HB8 : Hid (Lift.Box ((W5.drew.setCell ⟨P, 6, none⟩ (.pointer (some ⟨e.blk, 0, none⟩))).setCell ⟨F, 5, none⟩ (.pointer (some ⟨e.blk, 0, none⟩))) g Ty.cache [vi room, vi U, .map (some b), pt F, pt H]) := Lib.hid ((hb6.setOther (p := ⟨P, 6, none⟩) hgP _).setOther (p := ⟨F, 5, none⟩) hgF _)
  have HP8 : Hid (((W5.drew.setCell ⟨P, 6, none⟩ (.pointer (some ⟨e.blk, 0, none⟩))).setCell ⟨F, 5, none⟩ (.pointer (some ⟨e.blk, 0, none⟩))).ownsMap Try.prog 51 ptrR b (Maps.size D) D) := Lib.hid ((hp6.setCell (a := ⟨P, 6, none⟩) hbP _).setCell (a := ⟨F, 5, none⟩) hbF _)
  have HK6 := Lib.hid hk6
  have HS6 : Hid (W5.heap.size ≤ W5.drew.heap.size) := Lib.hid (Nat.le_refl _)
  clear hm5 hm6 hm7 hm8 hk7 hk8 hb5 hb6 hp5 hp6 hk5 hk6 hn5 hok hgP hgF hbP hbF dz ez hS1 hfm hfb hpm hpb hring hfirst hat hpx hem kz hmid
  go_upto_region 6 with fail
  refine wp_region_last (S := fun w' => Hid (w'.cell? ⟨e.blk, 5, none⟩ = some (pt P) ∧ w'.cell? ⟨e.blk, 6, none⟩ = some (pt F))) 15 (by kernel_rfl) (Lib.hid hS0) (fun hS => ?_)
  clear hS0 k5 k6
  generalize hwd : W5.drew = W6 at *
  clear hwd
  refine wpAnyX_take (i := 0) (v := ?_) rfl (by kernel_rfl) (by kernel_rfl) (by kernel_rfl) (by kernel_rfl) (fun _ _ _ h => h) (Or.inl ⟨by rfl, ?_⟩) hS ?_
  rotate_left
  · intro w hw
    go_simp
    try with_reducible rfl
  try simp only [Act.put, List.getElem_toArray, List.getElem_cons_succ, List.getElem_cons_zero, List.setIfInBounds_toArray, List.set_cons_zero, List.set_cons_succ]
  refine wpAnyX_take (i := 1) (v := ?_) rfl (by kernel_rfl) (by kernel_rfl) (by kernel_rfl) (by kernel_rfl) (fun _ _ _ h => h) (Or.inl ⟨by rfl, ?_⟩) hS ?_
  rotate_left
  · intro w hw
    go_simp
    try with_reducible rfl
  try simp only [Act.put, List.getElem_toArray, List.getElem_cons_succ, List.getElem_cons_zero, List.setIfInBounds_toArray, List.set_cons_zero, List.set_cons_succ]
  refine wpAnyX_take (i := 2) (v := ?_) rfl (by kernel_rfl) (by kernel_rfl) (by kernel_rfl) (by kernel_rfl) (fun _ _ _ h => h) (Or.inl ⟨by rfl, ?_⟩) hS ?_
  rotate_left
  · intro w hw
    go_simp
    try with_reducible rfl
  try simp only [Act.put, List.getElem_toArray, List.getElem_cons_succ, List.getElem_cons_zero, List.setIfInBounds_toArray, List.set_cons_zero, List.set_cons_succ]
  refine wpAnyX_take (i := 3) (v := ?_) rfl (by kernel_rfl) (by kernel_rfl) (by kernel_rfl) (by kernel_rfl) (fun _ _ _ h => h) (Or.inl ⟨by rfl, ?_⟩) hS ?_
  rotate_left
  · intro w hw
    have b0 := hw.out.1
    have b1 := hw.out.2
    go_simp
    try with_reducible rfl
  try simp only [Act.put, List.getElem_toArray, List.getElem_cons_succ, List.getElem_cons_zero, List.setIfInBounds_toArray, List.set_cons_zero, List.set_cons_succ]
  refine wpAnyX_take (i := 4) (v := ?_) rfl (by kernel_rfl) (by kernel_rfl) (by kernel_rfl) (by kernel_rfl) (fun _ _ _ h => h) (Or.inl ⟨by rfl, ?_⟩) hS ?_
  rotate_left
  · intro w hw
    go_simp
    try with_reducible rfl
  try simp only [Act.put, List.getElem_toArray, List.getElem_cons_succ, List.getElem_cons_zero, List.setIfInBounds_toArray, List.set_cons_zero, List.set_cons_succ]
  refine wpAnyX_take (i := 5) (v := ?_) rfl (by kernel_rfl) (by kernel_rfl) (by kernel_rfl) (by kernel_rfl) (fun _ _ _ h => h) (Or.inl ⟨by rfl, ?_⟩) hS ?_
  rotate_left
  · intro w hw
    go_simp
    try with_reducible rfl
  try simp only [Act.put, List.getElem_toArray, List.getElem_cons_succ, List.getElem_cons_zero, List.setIfInBounds_toArray, List.set_cons_zero, List.set_cons_succ]
  refine wpAnyX_take (i := 6) (v := ?_) rfl (by kernel_rfl) (by kernel_rfl) (by kernel_rfl) (by kernel_rfl) (fun _ _ _ h => h) (Or.inl ⟨by rfl, ?_⟩) hS ?_
  rotate_left
  · intro w hw
    go_simp
    try with_reducible rfl
  try simp only [Act.put, List.getElem_toArray, List.getElem_cons_succ, List.getElem_cons_zero, List.setIfInBounds_toArray, List.set_cons_zero, List.set_cons_succ]
  refine wpAnyX_take (i := 7) (v := ?_) rfl (by kernel_rfl) (by kernel_rfl) (by kernel_rfl) (by kernel_rfl) (fun _ _ _ h => h) (Or.inl ⟨by rfl, ?_⟩) hS ?_
  rotate_left
  · intro w hw
    have b0 := hw.out.1
    have b1 := hw.out.2
    go_simp
    try with_reducible rfl
  try simp only [Act.put, List.getElem_toArray, List.getElem_cons_succ, List.getElem_cons_zero, List.setIfInBounds_toArray, List.set_cons_zero, List.set_cons_succ]
  refine wpAnyX_take (i := 8) (v := ?_) rfl (by kernel_rfl) (by kernel_rfl) (by kernel_rfl) (by kernel_rfl) (fun _ _ _ h => h) (Or.inl ⟨by rfl, ?_⟩) hS ?_
  rotate_left
  · intro w hw
    go_simp
    try with_reducible rfl
  try simp only [Act.put, List.getElem_toArray, List.getElem_cons_succ, List.getElem_cons_zero, List.setIfInBounds_toArray, List.set_cons_zero, List.set_cons_succ]
  refine wpAnyX_take (i := 9) (v := ?_) rfl (by kernel_rfl) (by kernel_rfl) (by kernel_rfl) (by kernel_rfl) (fun _ _ _ h => h) (Or.inl ⟨by rfl, ?_⟩) hS ?_
  rotate_left
  · intro w hw
    go_simp
    try with_reducible rfl
  try simp only [Act.put, List.getElem_toArray, List.getElem_cons_succ, List.getElem_cons_zero, List.setIfInBounds_toArray, List.set_cons_zero, List.set_cons_succ]
  refine wpAnyX_take (i := 10) (v := ?_) rfl (by kernel_rfl) (by kernel_rfl) (by kernel_rfl) (by kernel_rfl) (fun _ _ _ h => h) (Or.inl ⟨by rfl, ?_⟩) hS ?_
  rotate_left
  · intro w hw
    go_simp
    try with_reducible rfl
  try simp only [Act.put, List.getElem_toArray, List.getElem_cons_succ, List.getElem_cons_zero, List.setIfInBounds_toArray, List.set_cons_zero, List.set_cons_succ]
  refine wpAnyX_take (i := 11) (v := ?_) rfl (by kernel_rfl) (by kernel_rfl) (by kernel_rfl) (by kernel_rfl) (fun _ _ _ h => h) (Or.inl ⟨by rfl, ?_⟩) hS ?_
  rotate_left
  · intro w hw
    go_simp
    try with_reducible rfl
  try simp only [Act.put, List.getElem_toArray, List.getElem_cons_succ, List.getElem_cons_zero, List.setIfInBounds_toArray, List.set_cons_zero, List.set_cons_succ]
  refine wpAnyX_ready (rs := [12]) (by kernel_rfl) (by simp) ?_
  refine (AllReadyX.cons rfl (fun K hK => ?_) AllReadyX.nil)
  go_simp
  refine hK.out _ _ HS1 (fun hS => ?_)
  clear hK K
  try simp only [Act.put, List.getElem_toArray, List.getElem_cons_succ, List.getElem_cons_zero, List.setIfInBounds_toArray, List.set_cons_zero, List.set_cons_succ]
  refine wpAnyX_ready (rs := [13]) (by kernel_rfl) (by simp) ?_
  refine (AllReadyX.cons rfl (fun K hK => ?_) AllReadyX.nil)
  go_simp
  refine hK.out _ _ hS (fun hS => ?_)
  clear hK K
  try simp only [Act.put, List.getElem_toArray, List.getElem_cons_succ, List.getElem_cons_zero, List.setIfInBounds_toArray, List.set_cons_zero, List.set_cons_succ]
  refine wpAnyX_take (i := 14) (v := ?_) rfl (by kernel_rfl) (by kernel_rfl) (by kernel_rfl) (by kernel_rfl) (fun _ _ _ h => h) (Or.inl ⟨by rfl, ?_⟩) hS ?_
  rotate_left
  · intro w hw
    go_simp
    try with_reducible rfl
  try simp only [Act.put, List.getElem_toArray, List.getElem_cons_succ, List.getElem_cons_zero, List.setIfInBounds_toArray, List.set_cons_zero, List.set_cons_succ]
  refine wpAnyX_ready (rs := [15]) (by kernel_rfl) (by simp) ?_
  refine AllReadyX.last rfl (fun K hK => ?_)
  go_simp
  refine hK.out _ _ ?_
  clear hK K
  try simp only [Act.put, List.getElem_toArray, List.getElem_cons_succ, List.getElem_cons_zero, List.setIfInBounds_toArray, List.set_cons_zero, List.set_cons_succ]
  refine wpAnyX_done (by kernel_rfl) ?_ _
  clear hS HS1
  generalize (W6.setCell ⟨P, 6, none⟩ (.pointer (some ⟨e.blk, 0, none⟩))).setCell ⟨F, 5, none⟩ (.pointer (some ⟨e.blk, 0, none⟩)) = W7 at *
  clear d6 d6z e5 e5z
  have hzB := HZ1.out
  have g2 := HB8.out.cell 2
  simp only [List.getElem?_cons_succ, List.getElem?_cons_zero] at g2
  obtain ⟨a0, a1, -, -, -, -, -, -⟩ := HM8.out.facts HEM.out
  have l7 := load_pair (w := W7) (p := ⟨e.blk, 0, none⟩) a0 a1
  have l7d := load_pair (w := W7.drew) (p := ⟨e.blk, 0, none⟩) a0 a1
  go_upto_region 7 with fail
  go_still_tail 9, (by kernel_rfl)
  change wpList _ _ _ _ _ W7.drew
  clear a0 a1 g2 l7 l7d
  obtain ⟨W9, D9, hrun, hmp9, htl9, hk9⟩ := store_run (w := W7.drew) HP8.out.drew HT1.out (by omega) HWF.out e hf ho HNO.out
  have hm7d : Mem W7.drew (fun k => Z k ∨ (B ≤ k ∧ k < W5.heap.size)) (L ++ [e]) (upd (upd pv e.blk P) F e.blk) (upd (upd nx e.blk F) P e.blk) := HM8.out.keep (T := fun _ => False) (Keep.refl _ W7).drew (fun k h => h.elim) fun _ => id
  have hb7d : Lift.Box W7.drew g Ty.cache [vi room, vi U, .map (some b), pt F, pt H] := HB8.out
  have hb9 := hb7d.keep hk9 fun e1 => hbg e1
  have hm9 := hm7d.keep hk9 (away_map HP8.out.drew) fun _ => id
  have HK9 := Lib.hid hk9
  have HB9 := Lib.hid hb9
  have HM9 := Lib.hid hm9
  have HP9 := Lib.hid hmp9
  have HT9 := Lib.hid htl9
  clear hmp9 htl9 hk9 hm7d hb7d hb9 hm9
  have HK7d : Hid (Keep (fun k => Z k ∨ (B ≤ k ∧ k < W5.heap.size)) W6 W7.drew) := Lib.hid HK8.out.drew
  generalize W7.drew = W8 at *
  have g1 := HB9.out.cell 1
  simp only [List.getElem?_cons_succ, List.getElem?_cons_zero] at g1
  obtain ⟨-, -, a2, -, -, -, -, -⟩ := HM9.out.facts HEM.out
  have hrm2 := HL.out.roomy
  go_upto_region 8 with fail
  go_still_tail 10, (by kernel_rfl)
  change wpList _ _ _ _ _ W9.drew
  have hb10 : Lift.Box W9.drew g Ty.cache [vi room, vi U, .map (some b), pt F, pt H] := HB9.out
  have z1 := hb10.free 1
  have p1 := hb10.cell 1
  simp only [List.getElem?_cons_succ, List.getElem?_cons_zero] at p1
  clear hb10 g1 a2
  go_wp2_with fail
  go_end0
  have hb11 : Lift.Box (W9.setCell ⟨g, 1, none⟩ (.int .i64 ((U : Int) + (e.s.b.length : Int)))).drew g Ty.cache [vi room, .int .i64 ((U : Int) + (e.s.b.length : Int)), .map (some b), pt F, pt H] := HB9.out.set 1 (.int .i64 ((U : Int) + (e.s.b.length : Int)))
  have hk11 : Keep (· = g) W9 (W9.setCell ⟨g, 1, none⟩ (.int .i64 ((U : Int) + (e.s.b.length : Int)))).drew := ((Keep.refl (· = g) W9).setCell (p := ⟨g, 1, none⟩) (.inr rfl) _).drew
  generalize (W9.setCell ⟨g, 1, none⟩ (.int .i64 ((U : Int) + (e.s.b.length : Int)))).drew = WF at hb11 hk11 ⊢
  have s6 := HS6.out
  have s8 := HK7d.out.size
  have s9 := HK9.out.size
  have sF := hk11.size
  have s0 := HK6.out.size
  have hX := HNB.out.lt
  refine ⟨rfl, some b, _, _, ⟨?_, HM9.out.keep hk11 (away_box HB9.out) fun k hk => ?_, .inr ⟨b, D9, rfl, ?_, map_keep HP9.out hk11 fun e1 => hbg e1.symm, HT9.out⟩, HRING.out, ?_, .inl HL.out.sg, fun k hk => ?_, ?_, HL.out.roomy⟩, ?_⟩
  · have e1 : used ((L ++ [e]).map E.s) = U + e.s.b.length := by rw [List.map_append]; exact HUS.out.trans (by rw [HU.out])
    rw [e1, HFIRST.out, HAT.out, show ((U + e.s.b.length : Nat) : Int) = (U : Int) + (e.s.b.length : Int) by omega]
    exact hb11
  · rcases hk with hk | hk
    · exact .inl hk
    · exact .inr ⟨hk.1, by omega⟩
  · rcases hzB with h1 | h1
    · exact .inl h1
    · exact .inr ⟨by omega, by have := HP9.out.lt; omega⟩
  · rw [List.map_append]; exact HIN.out
  · rcases hk with hk | hk
    · have := HZB.out k hk
      omega
    · exact hk.2
  · rw [List.length_append]; simpa using hm
  · refine (((HK6.out.mono (T := fun k => Z k ∨ B ≤ k) fun k hk => ?_).trans HK7d.out fun k _ hk => ?_).trans HK9.out fun k _ hk => ?_).trans hk11 fun k _ hk => ?_
    · rcases hk with hk | hk
      · rw [hk]; exact .inl HL.out.sg
      · rw [hk]; exact .inr hB
    · rcases hk with hk | hk
      · exact .inl hk
      · exact .inr hk.1
    · rw [hk]
      rcases hzB with h1 | h1
      · exact .inl h1
      · exact .inr (by omega)
    · rw [hk]; exact .inl HL.out.sg
end
end Go.Proofs.Ytbeohfmikpbkhaa.Ck
