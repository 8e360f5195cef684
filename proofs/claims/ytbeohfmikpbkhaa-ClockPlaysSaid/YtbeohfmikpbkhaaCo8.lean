/- The project's cache: makeRoom. -/
import Derived.Test.YtbeohfmikpbkhaaCo8m
namespace Go.Proofs.Ytbeohfmikpbkhaa.Ck
set_option linter.unusedVariables false
set_option linter.unusedSimpArgs false
open Go.RowKit Go.Maps Lift Ik
/-- What holds at the two labels. -/
def AtM (w : World) (g : Nat) (Z : Nat → Prop) (room n : Nat) (G : R × Bool) (l k : Nat) (w' : World) : Prop :=
  ∃ (q : R) (Y : Nat → Prop), OC w' g Y room q ∧ Keep Z w w' ∧ (∀ k, Y k → Z k ∨ w.heap.size ≤ k) ∧
    ((l = 0 ∧ k ≤ 2 * q.1.length ∧ mk room n (2 * q.1.length - k) q = G) ∨ (l = 1 ∧ k < 2 * q.1.length ∧ mk room n (2 * q.1.length - (k + 1)) (q.1, next q) = G))
def JM (w : World) (g : Nat) (Z : Nat → Prop) (room n : Nat) (G : R × Bool) (l : Nat) (a : Act) (w' : World) : Prop :=
  ∃ (k : Nat) (u2 u3 u6 u7 u8 u9 u10 u11 u12 u13 u14 u15 u16 u17 u18 u19 u20 u21 u22 u23 u24 u25 u26 u27 u28 u29 u30 u31 u32 u33 u34 u35 u36 u37 u38 u39 u40 u41 u42 u43 u44 u45 u46 u47 u48 u49 u50 u51 u52 u53 u54 u55 u56 u57 u58 u59 u60 u61 u62 u63 : Value), a = { tmps := #[pt g, .int .i64 (n : Int), u2, u3, .bool false, .int .i64 (k : Int), u6, u7, u8, u9, u10, u11, u12, u13, u14, u15, u16, u17, u18, u19, u20, u21, u22, u23, u24, u25, u26, u27, u28, u29, u30, u31, u32, u33, u34, u35, u36, u37, u38, u39, u40, u41, u42, u43, u44, u45, u46, u47, u48, u49, u50, u51, u52, u53, u54, u55, u56, u57, u58, u59, u60, u61, u62, u63], defers := [] } ∧ AtM w g Z room n G l k w'
theorem jm_mk {w w' : World} {g room n : Nat} {Z : Nat → Prop} {G : R × Bool} {l k : Nat} {u2 u3 u6 u7 u8 u9 u10 u11 u12 u13 u14 u15 u16 u17 u18 u19 u20 u21 u22 u23 u24 u25 u26 u27 u28 u29 u30 u31 u32 u33 u34 u35 u36 u37 u38 u39 u40 u41 u42 u43 u44 u45 u46 u47 u48 u49 u50 u51 u52 u53 u54 u55 u56 u57 u58 u59 u60 u61 u62 u63 : Value} (h : AtM w g Z room n G l k w') : JM w g Z room n G l { tmps := #[pt g, .int .i64 (n : Int), u2, u3, .bool false, .int .i64 (k : Int), u6, u7, u8, u9, u10, u11, u12, u13, u14, u15, u16, u17, u18, u19, u20, u21, u22, u23, u24, u25, u26, u27, u28, u29, u30, u31, u32, u33, u34, u35, u36, u37, u38, u39, u40, u41, u42, u43, u44, u45, u46, u47, u48, u49, u50, u51, u52, u53, u54, u55, u56, u57, u58, u59, u60, u61, u62, u63], defers := [] } w' := ⟨k, u2, u3, u6, u7, u8, u9, u10, u11, u12, u13, u14, u15, u16, u17, u18, u19, u20, u21, u22, u23, u24, u25, u26, u27, u28, u29, u30, u31, u32, u33, u34, u35, u36, u37, u38, u39, u40, u41, u42, u43, u44, u45, u46, u47, u48, u49, u50, u51, u52, u53, u54, u55, u56, u57, u58, u59, u60, u61, u62, u63, rfl, h⟩
def muM (g : Nat) (l : Nat) (a : Act) (w : World) : Nat := lenOf w g * 4004 + 2 * (2 * lenOf w g - (intOf (a.tmps.getD 5 undef)).toNat) - l
section
variable {w w' : World} {g room : Nat} {Z : Nat → Prop}
set_option maxRecDepth 1000000 in
set_option maxHeartbeats 8000000 in
theorem room_any {r : R} (n : Nat) (hn : n ≤ 100) (h : OC w g Z room r) :
    Calls Try.prog (22) #[pt g, .int .i64 (n : Int)] w fun e w' => e = .returned (.bool (make room n r.1.length r).2) ∧ OWent w g Z room (make room n r.1.length r).1 w' := by
  obtain ⟨G, hG⟩ : ∃ G, G = make room n r.1.length r := ⟨_, rfl⟩
  rw [← hG]
  have hG0 := hG.trans (mk_start room n r)
  have HGG := Lib.hid hG0.symm
  have H := Lib.hid h
  clear hG hG0 h
  go_enter Try.func22, Try.ntmps22
  go_wp2_with fail
  refine wp_scope_labels (JM w g Z room n G) (muM g) ?_ ?_
  · obtain ⟨q, hq⟩ : ∃ q, q = r := ⟨_, rfl⟩
    obtain ⟨Y, hY⟩ : ∃ Y, Y = Z := ⟨_, rfl⟩
    have HR : Hid (OC w g Y room q) := Lib.hid (by rw [hq, hY]; exact H.out)
    have HG : Hid (mk room n (2 * q.1.length - 0) q = G) := Lib.hid (by rw [hq]; exact HGG.out)
    have HK := Lib.hid (Keep.refl Z w)
    have HY : Hid (∀ k, Y k → Z k ∨ w.heap.size ≤ k) := Lib.hid fun k hk => .inl (by rw [← hY]; exact hk)
    have hk : 0 ≤ 2 * q.1.length := Nat.zero_le _
    clear hq hY H HGG
    go_wp2_with fail
    go_step3
    obtain ⟨M, L, pv, nx, hl, he⟩ := id HR.out
    obtain ⟨f0, f1, f2, f3, f4⟩ := hl.facts
    have hub := hl.used_le
    have hmany := hl.many
    have hroomy := hl.roomy
    have hin := hl.inv.room
    simp only at hin
    obtain ⟨U, hU⟩ : ∃ U, U = used (L.map E.s) := ⟨_, rfl⟩
    rw [← hU] at f1 hub hin
    have hUq : used q.1 = U := by rw [← he, hU]
    have hlen : q.1.length = L.length := by rw [← he, List.length_map]
    have HL := Lib.hid hl
    have HE := Lib.hid he
    have HUQ := Lib.hid hUq
    have HLN := Lib.hid hlen
    rw [hlen] at hk
    clear hl he hU hUq hlen f3
    by_cases c1 : U + n ≤ room
    · have d1 : decide ((n : Int) ≤ (room : Int) - (U : Int)) = true := decide_eq_true (by omega)
      have HF := Lib.hid (mk_fits (k := 2 * q.1.length - 0) (show used q.1 + n ≤ room by rw [HUQ.out]; exact c1))
      clear c1
      go_wp2_with fail
      go_quiet (fail)
      go_wp2_with fail
      rw [jumps_ret]
      go_returns
      exact ⟨by rw [← HG.out, HF.out]; rfl, by rw [← HG.out, HF.out]; exact OWent.post ⟨Y, HR.out, HK.out, HY.out⟩ (Joins.below_draws _ _ _)⟩
    · have d1 : decide ((n : Int) ≤ (room : Int) - (U : Int)) = false := decide_eq_false (by omega)
      have HC1 : Hid (¬ used q.1 + n ≤ room) := Lib.hid (by rw [HUQ.out]; exact c1)
      clear c1
      go_wp2_with fail
      go_quiet (fail)
      have hd : Below w.heap.size w (w.drewN nq) := Joins.below_draws _ _ nq
      have hl1 := HL.out.same (fun k hk => hd.block k (HL.out.lt k hk)) hd.size
      have hr1 := HR.out.below hd
      have HK1 := Lib.hid (HK.out.trans (T := fun _ => False) (below_keep hd) (fun _ _ h => h.elim))
      have HD := Lib.hid hd
      clear hd f0 f1 f2 f4
      generalize w.drewN nq = W1 at *
      have HL1 := Lib.hid hl1
      have HR1 := Lib.hid hr1
      obtain ⟨-, -, f2, -, f4⟩ := hl1.facts
      have hlr := len_run (ty := 3) hl1.map
      clear hl1 hr1
      by_cases c2 : 0 = 2 * L.length
      · have d2 : ((0 : Int) == 2 * (L.length : Int)) = true := beq_iff_eq.mpr (by omega)
        have HF := Lib.hid (show mk room n (2 * q.1.length - 0) q = (q, false) by rw [show 2 * q.1.length - 0 = 0 by rw [HLN.out]; omega]; exact mk_zero HC1.out)
        clear c2
        go_wp2_with fail
        rw [jumps_ret]
        go_returns
        exact ⟨by rw [← HG.out, HF.out]; rfl, by rw [← HG.out, HF.out]; exact ⟨Y, HR1.out, HK1.out, HY.out⟩⟩
      · have d2 : ((0 : Int) == 2 * (L.length : Int)) = false := beq_eq_false_iff_ne.mpr (by omega)
        have hL0 : 0 < L.length := by omega
        have hhl : q.2 < L.length := by
          rcases HL.out.inv.fine with hf | ⟨hf, _⟩
          · simpa using hf
          · have : L.length = 0 := by simpa using congrArg List.length hf
            omega
        obtain ⟨x, hx⟩ : ∃ x, L[q.2]? = some x := ⟨_, List.getElem?_eq_getElem hhl⟩
        have hxq : q.1[q.2]? = some x.s := by rw [← HE.out, List.getElem?_map, hx]; rfl
        have hxm := List.mem_of_getElem? hx
        have e4 : ptO (blkAt L (some q.2)) = pt x.blk := by unfold blkAt; simp [hx, ptO]
        rw [e4] at f4
        obtain ⟨-, -, -, x3, x4, -, x6, xz⟩ := HL1.out.mem.facts hxm
        have hpin := (HL1.out.mem.ok x hxm).pins
        have HXQ := Lib.hid hxq
        have HX := Lib.hid hx
        have HXM := Lib.hid hxm
        have hkk : 0 + 1 ≤ 2 * L.length := by omega
        clear c2 hx hxq hxm e4 hhl
        by_cases c3 : 0 < x.s.pins
        · have d3 : decide ((0 : Int) < (x.s.pins : Int)) = true := decide_eq_true (by omega)
          have d3' : decide (0 < x.s.pins) = true := decide_eq_true c3
          have HN := Lib.hid (show mk room n (2 * q.1.length - (0 + 1)) (q.1, next q) = G by
            have h1 := mk_pinned (k := 2 * q.1.length - (0 + 1)) HC1.out HXQ.out c3
            rw [← h1, ← HG.out]; congr 1; rw [HLN.out]; omega)
          clear c3 xz
          go_wp2_with fail
          go_step3
          change JM w g Z room n G _ _ _
          exact jm_mk (k := 0) (⟨q, Y, HR1.out, HK1.out, HY.out, .inr ⟨rfl, by rw [HLN.out]; omega, HN.out⟩⟩)
        · have c3' : x.s.pins = 0 := by omega
          rw [c3'] at x3
          cases c4 : x.s.mark with
          | true =>
            rw [c4] at x4
            have HN := Lib.hid (show mk room n (2 * q.1.length - (0 + 1)) (q.1.modify q.2 unmark, next q) = G by
              have h1 := mk_marked (k := 2 * q.1.length - (0 + 1)) HC1.out HXQ.out c3 c4
              rw [← h1, ← HG.out]; congr 1; rw [HLN.out]; omega)
            have hpk := HL1.out.mem.poke (e' := { x with s := unmark x.s }) (k := 4) (u := .bool false) HX.out ⟨rfl, rfl, rfl, rfl, rfl, rfl⟩ hpin rfl
            have HW := Lib.hid (HL1.out.modify (f := unmark) HX.out (fun _ => rfl) (fun _ => rfl) (fun _ => rfl) ((Keep.refl (· = x.blk) W1).setCell (p := ⟨x.blk, 4, none⟩) (.inr rfl) _) hpk.1)
            have HKW := Lib.hid (HK1.out.trans hpk.2 fun k hk h4 => (HY.out k h4).elim id fun h5 => absurd hk (Nat.not_lt_of_le h5))
            have HSM := Lib.hid (set_map (f := unmark) HX.out)
            have HRW : Hid (OC (W1.setCell ⟨x.blk, 4, none⟩ (.bool false)) g Y room (q.1.modify q.2 unmark, q.2)) := Lib.hid ⟨M, _, pv, nx, HW.out, by rw [HSM.out, HE.out]⟩
            have z4 := xz 4
            clear c3 c3' xz hpk
            go_wp2_with fail
            go_step3
            change JM w g Z room n G _ _ _
            exact jm_mk (k := 0) (⟨(q.1.modify q.2 unmark, q.2), Y, HRW.out, HKW.out, HY.out, .inr ⟨rfl, by simp only [List.length_modify]; rw [HLN.out]; omega, by simp only [List.length_modify, next]; exact HN.out⟩⟩)
          | false =>
            rw [c4] at x4
            have HN := Lib.hid (show mk room n (2 * (out q q.2).1.length) (out q q.2) = G by
              have h1 := mk_gone (k := 2 * q.1.length - (0 + 1)) HC1.out HXQ.out c3 c4
              rw [← h1, ← HG.out]; congr 1; rw [HLN.out]; omega)
            have HRM := Lib.hid (remove_any HL1.out HX.out)
            clear c3 c3' xz
            go_wp2_with (first | (go_at_call 30; refine HRM.out.mono ?_; rintro v W2 ⟨rfl, hrl, hrk⟩))
            have HR2 : Hid (OC W2 g Y room (out q q.2)) := Lib.hid ⟨M, _, _, _, by have := hrl; rw [HE.out] at this; exact this, by rw [erase_map, HE.out]; rfl⟩
            have HK2 := Lib.hid (HK1.out.trans hrk fun k hk h4 => (HY.out k h4).elim id fun h5 => absurd hk (Nat.not_lt_of_le h5))
            clear hrl hrk
            go_step3
            change JM w g Z room n G _ _ _
            exact jm_mk (k := 0) (show AtM w g Z room n G 0 0 W2 from ⟨out q q.2, Y, HR2.out, HK2.out, HY.out, .inl ⟨rfl, Nat.zero_le _, HN.out⟩⟩)

  · intro l a W0 hJ
    obtain ⟨k, u2, u3, u6, u7, u8, u9, u10, u11, u12, u13, u14, u15, u16, u17, u18, u19, u20, u21, u22, u23, u24, u25, u26, u27, u28, u29, u30, u31, u32, u33, u34, u35, u36, u37, u38, u39, u40, u41, u42, u43, u44, u45, u46, u47, u48, u49, u50, u51, u52, u53, u54, u55, u56, u57, u58, u59, u60, u61, u62, u63, rfl, q, Y, hr, hkp, hy, hc⟩ := hJ
    have HR := Lib.hid hr
    have HK := Lib.hid hkp
    have HY := Lib.hid hy
    clear hr hkp hy H HGG
    rcases hc with ⟨rfl, hk, hg⟩ | ⟨rfl, hk, hg⟩
    · refine ⟨_, rfl, ?_⟩
      have HG := Lib.hid hg
      clear hg
      obtain ⟨M, L, pv, nx, hl, he⟩ := id HR.out
      obtain ⟨f0, f1, f2, f3, f4⟩ := hl.facts
      have hub := hl.used_le
      have hmany := hl.many
      have hroomy := hl.roomy
      have hin := hl.inv.room
      simp only at hin
      obtain ⟨U, hU⟩ : ∃ U, U = used (L.map E.s) := ⟨_, rfl⟩
      rw [← hU] at f1 hub hin
      have hUq : used q.1 = U := by rw [← he, hU]
      have hlen : q.1.length = L.length := by rw [← he, List.length_map]
      have HL := Lib.hid hl
      have HE := Lib.hid he
      have HUQ := Lib.hid hUq
      have HLN := Lib.hid hlen
      rw [hlen] at hk
      clear hl he hU hUq hlen f3
      by_cases c1 : U + n ≤ room
      · have d1 : decide ((n : Int) ≤ (room : Int) - (U : Int)) = true := decide_eq_true (by omega)
        have HF := Lib.hid (mk_fits (k := 2 * q.1.length - k) (show used q.1 + n ≤ room by rw [HUQ.out]; exact c1))
        clear c1
        go_wp2_with fail
        go_quiet (fail)
        go_wp2_with fail
        rw [jumps_ret]
        go_returns
        exact ⟨by rw [← HG.out, HF.out]; rfl, by rw [← HG.out, HF.out]; exact OWent.post ⟨Y, HR.out, HK.out, HY.out⟩ (Joins.below_draws _ _ _)⟩
      · have d1 : decide ((n : Int) ≤ (room : Int) - (U : Int)) = false := decide_eq_false (by omega)
        have HC1 : Hid (¬ used q.1 + n ≤ room) := Lib.hid (by rw [HUQ.out]; exact c1)
        clear c1
        go_wp2_with fail
        go_quiet (fail)
        have hd : Below W0.heap.size W0 (W0.drewN nq) := Joins.below_draws _ _ nq
        have hl1 := HL.out.same (fun k hk => hd.block k (HL.out.lt k hk)) hd.size
        have hr1 := HR.out.below hd
        have HK1 := Lib.hid (HK.out.trans (T := fun _ => False) (below_keep hd) (fun _ _ h => h.elim))
        have HD := Lib.hid hd
        clear hd f0 f1 f2 f4
        generalize W0.drewN nq = W1 at *
        have HL1 := Lib.hid hl1
        have HR1 := Lib.hid hr1
        obtain ⟨-, -, f2, -, f4⟩ := hl1.facts
        have hlr := len_run (ty := 3) hl1.map
        clear hl1 hr1
        by_cases c2 : k = 2 * L.length
        · have d2 : ((k : Int) == 2 * (L.length : Int)) = true := beq_iff_eq.mpr (by omega)
          have HF := Lib.hid (show mk room n (2 * q.1.length - k) q = (q, false) by rw [show 2 * q.1.length - k = 0 by rw [HLN.out]; omega]; exact mk_zero HC1.out)
          clear c2
          go_wp2_with fail
          rw [jumps_ret]
          go_returns
          exact ⟨by rw [← HG.out, HF.out]; rfl, by rw [← HG.out, HF.out]; exact ⟨Y, HR1.out, HK1.out, HY.out⟩⟩
        · have d2 : ((k : Int) == 2 * (L.length : Int)) = false := beq_eq_false_iff_ne.mpr (by omega)
          have hL0 : 0 < L.length := by omega
          have hhl : q.2 < L.length := by
            rcases HL.out.inv.fine with hf | ⟨hf, _⟩
            · simpa using hf
            · have : L.length = 0 := by simpa using congrArg List.length hf
              omega
          obtain ⟨x, hx⟩ : ∃ x, L[q.2]? = some x := ⟨_, List.getElem?_eq_getElem hhl⟩
          have hxq : q.1[q.2]? = some x.s := by rw [← HE.out, List.getElem?_map, hx]; rfl
          have hxm := List.mem_of_getElem? hx
          have e4 : ptO (blkAt L (some q.2)) = pt x.blk := by unfold blkAt; simp [hx, ptO]
          rw [e4] at f4
          obtain ⟨-, -, -, x3, x4, -, x6, xz⟩ := HL1.out.mem.facts hxm
          have hpin := (HL1.out.mem.ok x hxm).pins
          have HXQ := Lib.hid hxq
          have HX := Lib.hid hx
          have HXM := Lib.hid hxm
          have hkk : k + 1 ≤ 2 * L.length := by omega
          clear c2 hx hxq hxm e4 hhl
          by_cases c3 : 0 < x.s.pins
          · have d3 : decide ((0 : Int) < (x.s.pins : Int)) = true := decide_eq_true (by omega)
            have d3' : decide (0 < x.s.pins) = true := decide_eq_true c3
            have HN := Lib.hid (show mk room n (2 * q.1.length - (k + 1)) (q.1, next q) = G by
              have h1 := mk_pinned (k := 2 * q.1.length - (k + 1)) HC1.out HXQ.out c3
              rw [← h1, ← HG.out]; congr 1; rw [HLN.out]; omega)
            clear c3 xz
            go_wp2_with fail
            go_step3
            change JM w g Z room n G _ _ _ ∧ muM g _ _ _ < muM g _ _ _
            refine ⟨jm_mk (k := k) (⟨q, Y, HR1.out, HK1.out, HY.out, .inr ⟨rfl, by rw [HLN.out]; omega, HN.out⟩⟩), ?_⟩
            have e1 := HR.out.len
            have e2 := HR1.out.len
            rw [HLN.out] at e1 e2
            show lenOf W1 g * 4004 + 2 * (2 * lenOf W1 g - (k : Int).toNat) - 1 < lenOf W0 g * 4004 + 2 * (2 * lenOf W0 g - (k : Int).toNat) - 0
            rw [e1, e2]; omega
          · have c3' : x.s.pins = 0 := by omega
            rw [c3'] at x3
            cases c4 : x.s.mark with
            | true =>
              rw [c4] at x4
              have HN := Lib.hid (show mk room n (2 * q.1.length - (k + 1)) (q.1.modify q.2 unmark, next q) = G by
                have h1 := mk_marked (k := 2 * q.1.length - (k + 1)) HC1.out HXQ.out c3 c4
                rw [← h1, ← HG.out]; congr 1; rw [HLN.out]; omega)
              have hpk := HL1.out.mem.poke (e' := { x with s := unmark x.s }) (k := 4) (u := .bool false) HX.out ⟨rfl, rfl, rfl, rfl, rfl, rfl⟩ hpin rfl
              have HW := Lib.hid (HL1.out.modify (f := unmark) HX.out (fun _ => rfl) (fun _ => rfl) (fun _ => rfl) ((Keep.refl (· = x.blk) W1).setCell (p := ⟨x.blk, 4, none⟩) (.inr rfl) _) hpk.1)
              have HKW := Lib.hid (HK1.out.trans hpk.2 fun k hk h4 => (HY.out k h4).elim id fun h5 => absurd hk (Nat.not_lt_of_le h5))
              have HSM := Lib.hid (set_map (f := unmark) HX.out)
              have HRW : Hid (OC (W1.setCell ⟨x.blk, 4, none⟩ (.bool false)) g Y room (q.1.modify q.2 unmark, q.2)) := Lib.hid ⟨M, _, pv, nx, HW.out, by rw [HSM.out, HE.out]⟩
              have z4 := xz 4
              clear c3 c3' xz hpk
              go_wp2_with fail
              go_step3
              change JM w g Z room n G _ _ _ ∧ muM g _ _ _ < muM g _ _ _
              refine ⟨jm_mk (k := k) (⟨(q.1.modify q.2 unmark, q.2), Y, HRW.out, HKW.out, HY.out, .inr ⟨rfl, by simp only [List.length_modify]; rw [HLN.out]; omega, by simp only [List.length_modify, next]; exact HN.out⟩⟩), ?_⟩
              have e1 := HR.out.len
              have e2 := HRW.out.len
              simp only [List.length_modify] at e2
              rw [HLN.out] at e1 e2
              show lenOf _ g * 4004 + 2 * (2 * lenOf _ g - (k : Int).toNat) - 1 < lenOf W0 g * 4004 + 2 * (2 * lenOf W0 g - (k : Int).toNat) - 0
              rw [e1, e2]; omega
            | false =>
              rw [c4] at x4
              have HN := Lib.hid (show mk room n (2 * (out q q.2).1.length) (out q q.2) = G by
                have h1 := mk_gone (k := 2 * q.1.length - (k + 1)) HC1.out HXQ.out c3 c4
                rw [← h1, ← HG.out]; congr 1; rw [HLN.out]; omega)
              have HRM := Lib.hid (remove_any HL1.out HX.out)
              clear c3 c3' xz
              go_wp2_with (first | (go_at_call 30; refine HRM.out.mono ?_; rintro v W2 ⟨rfl, hrl, hrk⟩))
              have HR2 : Hid (OC W2 g Y room (out q q.2)) := Lib.hid ⟨M, _, _, _, by have := hrl; rw [HE.out] at this; exact this, by rw [erase_map, HE.out]; rfl⟩
              have HK2 := Lib.hid (HK1.out.trans hrk fun k hk h4 => (HY.out k h4).elim id fun h5 => absurd hk (Nat.not_lt_of_le h5))
              clear hrl hrk
              go_step3
              change JM w g Z room n G _ _ _ ∧ muM g _ _ _ < muM g _ _ _
              refine ⟨jm_mk (k := 0) (show AtM w g Z room n G 0 0 W2 from ⟨out q q.2, Y, HR2.out, HK2.out, HY.out, .inl ⟨rfl, Nat.zero_le _, HN.out⟩⟩), ?_⟩
              have e1 := HR.out.len
              have e2 := HR2.out.len
              have e3 : (out q q.2).1.length = q.1.length - 1 := by
                have hq := (List.getElem?_eq_some_iff.1 HXQ.out).1
                show (q.1.eraseIdx q.2).length = _
                rw [List.length_eraseIdx, if_pos hq]
              rw [e3] at e2
              rw [HLN.out] at e1 e2
              show lenOf W2 g * 4004 + 2 * (2 * lenOf W2 g - (0 : Int).toNat) - 0 < lenOf W0 g * 4004 + 2 * (2 * lenOf W0 g - (k : Int).toNat) - 0
              rw [e1, e2]; simp only [Int.toNat_zero]; omega

    · refine ⟨_, rfl, ?_⟩
      have HG := Lib.hid hg
      clear hg
      obtain ⟨M, L, pv, nx, hl, he⟩ := id HR.out
      obtain ⟨f0, f1, f2, f3, f4⟩ := hl.facts
      have hmany := hl.many
      have hlen : q.1.length = L.length := by rw [← he, List.length_map]
      rw [hlen] at hk
      have hhl : q.2 < L.length := by
        rcases hl.inv.fine with hf | ⟨hf, _⟩
        · simpa using hf
        · have : L.length = 0 := by simpa using congrArg List.length hf
          omega
      obtain ⟨x, hx⟩ : ∃ x, L[q.2]? = some x := ⟨_, List.getElem?_eq_getElem hhl⟩
      have e4 : ptO (blkAt L (some q.2)) = pt x.blk := by unfold blkAt; simp [hx, ptO]
      rw [e4] at f4
      obtain ⟨-, -, -, -, -, -, x6, -⟩ := hl.mem.facts (List.mem_of_getElem? hx)
      have z4 := hl.box.free 4
      obtain ⟨hl2, hk2⟩ := hl.setHand hx
      have hr2 : OC (W0.setCell ⟨g, 4, none⟩ (pt (nx x.blk))) g Y room (q.1, next q) := ⟨M, L, pv, nx, by show OLay _ _ _ _ (next q) _ _ _ _; unfold next; rw [hlen]; exact hl2, he⟩
      have HR2 := Lib.hid hr2
      have HK2 := Lib.hid (HK.out.trans hk2 fun k hk h4 => (HY.out k h4).elim id fun h5 => absurd hk (Nat.not_lt_of_le h5))
      have HLN := Lib.hid hlen
      clear hl he hlen e4 hx hhl hl2 hk2 hr2 f0 f1 f2 f3
      go_wp2_with fail
      go_step3
      rw [show (Value.int .i64 ((k : Int) + 1)) = .int .i64 ((k + 1 : Nat) : Int) from by rw [show ((k + 1 : Nat) : Int) = (k : Int) + 1 by omega]]
      change JM w g Z room n G _ _ _ ∧ muM g _ _ _ < muM g _ _ _
      refine ⟨jm_mk ⟨(q.1, next q), Y, HR2.out, HK2.out, HY.out, .inl ⟨rfl, by simp only; rw [HLN.out]; omega, HG.out⟩⟩, ?_⟩
      have e1 := HR.out.len
      have e2 := HR2.out.len
      simp only at e2
      rw [HLN.out] at e1 e2
      show lenOf _ g * 4004 + 2 * (2 * lenOf _ g - ((k + 1 : Nat) : Int).toNat) - 0 < lenOf W0 g * 4004 + 2 * (2 * lenOf W0 g - (k : Int).toNat) - 1
      rw [e1, e2, Int.toNat_natCast, Int.toNat_natCast]
      omega
end
end Go.Proofs.Ytbeohfmikpbkhaa.Ck
