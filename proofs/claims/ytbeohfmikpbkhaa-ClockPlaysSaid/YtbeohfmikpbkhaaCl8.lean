/- The document's cache: Drop. -/
import Derived.Test.YtbeohfmikpbkhaaCl7
import Derived.Test.YtbeohfmikpbkhaaCm4
namespace Go.Proofs.Ytbeohfmikpbkhaa.Ck
set_option linter.unusedVariables false
set_option linter.unusedSimpArgs false
open Go.RowKit Lift Ik
section
variable {w w' : World} {g room : Nat} {Z : Nat → Prop}
set_option maxHeartbeats 1600000 in
theorem rdrop_any {r : R} (f : Int) (h : RC w g Z room r) (hf : Fine r) :
    Calls Try.prog (17) #[.pointer (some ⟨g, 0, none⟩), .int .i64 f] w fun e w' => e = .returned (vi ((dropC r f).2 : Nat)) ∧ CWent w g Z room (dropC r f).1 w' := by
  have hmany : r.1.length ≤ 1000 := by
    obtain ⟨L, A, c, hl, he⟩ := h
    rw [← he, List.length_map]; exact hl.many
  have H := Lib.hid h
  have HF := Lib.hid hf
  obtain ⟨N, hN⟩ : ∃ N, N = r.1.length := ⟨_, rfl⟩
  rw [← hN] at hmany
  have HN := Lib.hid hN
  clear h hf hN
  go_enter (Try.func17), (Try.ntmps17)
  go_wp2_with fail
  go_loopw [5, 6] (fun s i wr => ∃ (q : R) (Y : Nat → Prop) (j t : Nat), j ≤ q.1.length ∧ t + q.1.length = N ∧ s = .int .i64 (t : Int) ∧ i = .int .i64 (j : Int) ∧ Hid (RC wr g Y room q) ∧ Hid (Keep Z w wr) ∧ Hid (∀ k, Y k → Z k ∨ w.heap.size ≤ k) ∧ Hid (Fine q) ∧ Hid ((dropC r f).1 = (dropC' q f j).1 ∧ (dropC r f).2 = t + (dropC' q f j).2)) (fun s i _ => N + 1 - ((intOf i).toNat + (intOf s).toNat))
  case atStart => exact ⟨r, Z, 0, 0, Nat.zero_le _, by rw [HN.out]; omega, rfl, rfl, H, Lib.hid (Keep.refl _ _), Lib.hid fun k hk => .inl hk, HF, Lib.hid (by rw [dropC_zero]; exact ⟨rfl, by omega⟩)⟩
  case round =>
    obtain ⟨q, Y, j, t, hj, htq, rfl, rfl, hR, hK, hY, hq, hE⟩ := hrel
    obtain ⟨L, A, c, hl, he⟩ := id hR.out
    obtain ⟨f0, f1, f2⟩ := hl.facts
    have hlen : q.1.length = L.length := by rw [← he, List.length_map]
    have HE := Lib.hid he
    have HL := Lib.hid hl
    have HLN := Lib.hid hlen
    rw [hlen] at hj htq
    clear hl he hlen
    by_cases hlt : j < L.length
    · obtain ⟨d, hd⟩ : ∃ d, L[j]? = some d := ⟨_, List.getElem?_eq_getElem hlt⟩
      obtain ⟨b, hA, q0, q1, q2, q3, q4⟩ := HL.out.place hd
      subst hA
      have HX := Lib.hid (show q.1[j]? = some d.s by rw [← HE.out, List.getElem?_map, hd]; rfl)
      clear hd
      by_cases k1 : d.s.file = f
      · by_cases k2 : d.s.pins = 0
        · have HG := Lib.hid (drop_goes (f := f) hq.out HX.out (decide_eq_true ⟨k1, k2⟩))
          have HO := Lib.hid (rout_any (i := j) hR.out (by rw [HLN.out]; exact hlt))
          have hlo : (out q j).1.length = L.length - 1 := by show (q.1.eraseIdx j).length = _; rw [List.length_eraseIdx, HLN.out, if_pos hlt]
          have HLO := Lib.hid hlo
          subst k1
          rw [k2] at q3
          clear k2 hlo
          go_wp2_with (first | (go_at_call 28; refine HO.out.mono ?_; rintro e W2 ⟨rfl, hW2⟩))
          go_roundw
          case rel =>
            obtain ⟨Y2, h1, h2, h3⟩ := hW2
            refine ⟨out q j, Y2, j, t + 1, by rw [HLO.out]; omega, by rw [HLO.out]; omega, by go_num, by go_num, Lib.hid h1, Lib.hid ?_, Lib.hid ?_, Lib.hid (fine_out _ _), Lib.hid ?_⟩
            · exact hK.out.trans h2 fun k hk h4 => (hY.out k h4).elim id fun h5 => absurd hk (Nat.not_lt_of_le h5)
            · exact fun k h4 => (h3 k h4).elim (hY.out k) fun h5 => .inr (Nat.le_trans hK.out.size h5)
            · have e := hE.out
              rw [HG.out] at e
              exact ⟨e.1, by rw [e.2]; omega⟩
          case measure => simp [intOf]; omega
        · have HG := Lib.hid (drop_stays (f := f) hq.out HX.out (decide_eq_false fun e => k2 e.2))
          have HM := Lib.hid (by have e := hE.out; rw [HG.out] at e; exact e)
          obtain ⟨m, hm⟩ : ∃ m, d.s.pins = m + 1 := ⟨d.s.pins - 1, by omega⟩
          rw [hm] at q3
          have d0 : ((m : Int) + 1 == 0) = false := beq_eq_false_iff_ne.mpr (by omega)
          subst k1
          clear k2 hm
          go_wp2_with fail
          go_roundw
          case rel => exact ⟨q, Y, j + 1, t, by rw [HLN.out]; omega, by rw [HLN.out]; omega, by go_num, by go_num, hR, hK, hY, hq, HM⟩
          case measure => simp [intOf]; omega
      · have HG := Lib.hid (drop_stays (f := f) hq.out HX.out (decide_eq_false fun e => k1 e.1))
        have HM := Lib.hid (by have e := hE.out; rw [HG.out] at e; exact e)
        go_wp2_with fail
        go_roundw
        case rel => exact ⟨q, Y, j + 1, t, by rw [HLN.out]; omega, by rw [HLN.out]; omega, by go_num, by go_num, hR, hK, hY, hq, HM⟩
        case measure => simp [intOf]; omega
    · obtain rfl : j = L.length := by omega
      have e := hE.out
      rw [← HLN.out, drop_end hq.out] at e
      have HM := Lib.hid e
      clear e
      go_wp2_with fail
      go_ret
      exact ⟨by rw [HM.out.2]; rfl, by rw [HM.out.1]; exact ⟨Y, hR.out, hK.out, hY.out⟩⟩
end
end Go.Proofs.Ytbeohfmikpbkhaa.Ck
