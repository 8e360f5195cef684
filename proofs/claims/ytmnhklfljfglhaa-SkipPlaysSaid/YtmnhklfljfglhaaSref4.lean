/- The document's own list: Level. -/
import Derived.Test.YtmnhklfljfglhaaSref3
namespace Go.Proofs.Ytmnhklfljfglhaa.Sk
set_option linter.unusedVariables false
set_option linter.unusedSimpArgs false
open Go.RowKit Lift Ik
section
variable {w w' : World} {g : Nat} {S : Nat → Prop} {R : Row}
theorem levR_take {R : Row} {j m : Nat} {r : T × Nat} (h : R[j]? = some r) : levR (R.take (j + 1)) m = levR (R.take j) m ++ if m < r.2 then [r.1] else [] := by
  unfold levR
  rw [List.take_add_one, h, List.filter_append, List.map_append]
  congr 1
  by_cases h1 : m < r.2
  · simp [h1]
  · simp [h1]
set_option maxRecDepth 100000 in
set_option maxHeartbeats 3200000 in
theorem rlevel_any (n : Int) (h : RL w g S R) (hi : (Lit.int .i64 n).wf = true) :
    Calls Try.prog (18) #[.pointer (some ⟨g, 0, none⟩), .int .i64 n] w (Gave w (levI R n)) := by
  obtain ⟨A, c, Ah, ch, Ld, h⟩ := h
  have h8 := i64_of hi
  have b0 := h.box.cell 0
  have b1 := h.box.cell 1
  simp only [List.getElem?_cons_zero, List.getElem?_cons_succ] at b0 b1
  have hld : Ld.length = R.length := by have := congrArg List.length h.told; simpa using this
  by_cases h1 : n < 0
  · have E := Lib.hid (show levI R n = [] by unfold levI; rw [if_pos h1])
    have hnn : ¬ 0 ≤ n := by omega
    have HN : Hid (Gave w [] (.returned (.slice none 0 0)) w) := Lib.hid ⟨none, 0, [], rfl, rfl, Ents.zero _ _, Below.refl _ _⟩
    clear h hld
    go_enter (Try.func18), (Try.ntmps18)
    go_wp2_with fail
    go_loopw [5, 6] (fun v i wr => v = .slice none 0 0 ∧ i = .int .i64 0 ∧ wr = w) (fun _ i _ => 0)
    case atStart => exact ⟨rfl, rfl, rfl⟩
    case round =>
      obtain ⟨rfl, rfl, rfl⟩ := hrel
      by_cases hl0 : 0 < Ld.length
      · go_wp2_with fail
        go_ret
        rw [E.out]
        exact HN.out
      · go_wp2_with fail
        go_ret
        rw [E.out]
        exact HN.out
  · obtain ⟨m, rfl⟩ : ∃ m : Nat, n = (m : Int) := ⟨n.toNat, by omega⟩
    have E := Lib.hid (show levI R (m : Int) = levR R m by unfold levI; rw [if_neg h1, Int.toNat_natCast])
    have H := Lib.hid h
    have hce := h.ents.len
    have hme := h.ents.cap
    have hch := h.hc
    have hmh := h.hm
    unfold maxLen at hme hmh
    have hl200 : Ld.length ≤ 200 := by rw [hld]; exact h.many
    have HLD := Lib.hid hld
    clear h hld b0 b1
    go_enter (Try.func18), (Try.ntmps18)
    go_wp2_with fail
    go_loopw [5, 6] (fun v i wr => ∃ (j : Nat) (D1 : List D), j ≤ Ld.length ∧ i = .int .i64 j ∧ Hid (D1.map D.t = levR (R.take j) m ∧ D1.length ≤ j ∧ Ac w.heap.size wr v D1 ∧ Below w.heap.size w wr)) (fun _ i _ => Ld.length + 1 - (intOf i).toNat)
    case atStart => exact ⟨0, [], by omega, rfl, Lib.hid ⟨rfl, Nat.le_refl _, Ac.nil _ _, Below.refl _ _⟩⟩
    case round =>
      obtain ⟨j, D1, hj, rfl, hr⟩ := hrel
      obtain ⟨h3, hd1, h4, h5⟩ := hr.out
      have hw := H.out.same (fun k hk => h5.block k (H.out.lt k hk)) h5.size
      have b0 := hw.box.cell 0
      have b1 := hw.box.cell 1
      simp only [List.getElem?_cons_zero, List.getElem?_cons_succ] at b0 b1
      by_cases hlt : j < Ld.length
      · obtain ⟨r, hr0⟩ : ∃ r, R[j]? = some r := ⟨_, List.getElem?_eq_getElem (by rw [← HLD.out]; exact hlt)⟩
        obtain ⟨d, hd⟩ : ∃ d, Ld[j]? = some d := ⟨_, List.getElem?_eq_getElem hlt⟩
        have hdt : d.t = r.1 := by
          have h1 : (Ld.map D.t)[j]? = (R.map (·.1))[j]? := by rw [H.out.told]
          rw [List.getElem?_map, List.getElem?_map, hd, hr0] at h1
          simpa using h1
        have hrm := H.out.okR r (List.mem_of_getElem? hr0)
        obtain ⟨ad, p, hA, -, hp, p0, p1, p2, p3⟩ := hw.ents.place hd
        subst hA
        have hld := D.load p0 p1 p2 p3
        have hne : ¬ ints (R.map (·.2)) = [] := fun e => by
          have := congrArg List.length e
          simp at this
          rw [this] at hr0
          simp at hr0
        obtain ⟨ah, hAh, -, hcell⟩ := hw.hts.resolve_left hne
        subst hAh
        have q0 := hcell j (.int .i64 ((r.2 : Nat) : Int)) (by simp [ints, hr0])
        have hokd := (hw.ents.ok d (List.mem_of_getElem? hd)).mono (R' := (· < wr.heap.size)) fun k hk => hw.lt k hk.1
        have htk := levR_take (m := m) hr0
        have HC := Lib.hid (copy_any d wr hokd (small_of hdt hrm.1))
        have HDT := Lib.hid hdt
        have H3 := Lib.hid h3
        have HD1 := Lib.hid hd1
        have H4 := Lib.hid h4
        have H5 := Lib.hid h5
        have HTK := Lib.hid htk
        have hr12 := hrm.2
        clear h3 hd1 h4 h5 hw hr0 hd hdt hrm hcell hne hokd htk hr
        generalize r.2 = rh at *
        by_cases hm : m < rh
        · have HT2 := Lib.hid (HTK.out.trans (by rw [if_pos hm]))
          clear HTK
          go_wp2_with fail
          refine HC.out.mono ?_
          rintro e W2 ⟨d', rfl, ht, hdo, hb2⟩
          have hB2 := H5.out.trans (hb2.mono H5.out.size)
          obtain ⟨v', W3, hrun, hac3, hb3⟩ := (H4.out.below hb2).more (d := d') (hdo.mono fun k hk => Fresh.low H5.out.size k hk) hB2.size (by have := HD1.out; omega)
          have HREL : Hid ((D1 ++ [d']).map D.t = levR (R.take (j + 1)) m ∧ (D1 ++ [d']).length ≤ j + 1 ∧ Ac w.heap.size W3 v' (D1 ++ [d']) ∧ Below w.heap.size w W3) :=
            Lib.hid ⟨by rw [HT2.out, List.map_append, H3.out]; simp [ht, HDT.out], by rw [List.length_append]; have := HD1.out; simp; omega, hac3, hB2.trans hb3⟩
          have HR := Lib.hid hrun
          clear ht hdo hb2 hB2 hrun hac3 hb3 HC p0 p1 p2 p3 hld q0 b0 b1
          go_wp2_with (at_builtin; refine wpList_append_run rfl _ _ 22 rfl rfl rfl HR.out ?_)
          go_roundw
          case rel => exact ⟨j + 1, D1 ++ [d'], by omega, by go_num, HREL⟩
          case measure => simp [intOf]; omega
        · have HT2 := Lib.hid (HTK.out.trans (by rw [if_neg hm, List.append_nil]))
          have HREL := Lib.hid (And.intro (H3.out.trans HT2.out.symm) (And.intro (Nat.le_succ_of_le HD1.out) (And.intro H4.out H5.out)))
          clear HTK HC
          go_wp2_with fail
          go_roundw
          case rel => exact ⟨j + 1, D1, by omega, by go_num, HREL⟩
          case measure => simp [intOf]; omega
      · obtain rfl : j = Ld.length := by omega
        obtain ⟨A5, c5, rfl, hg⟩ := h4.gave h5
        rw [h3, HLD.out, List.take_length, ← E.out] at hg
        have HG := Lib.hid hg
        clear hg h3 hd1 h4 h5 hr hw
        go_wp2_with fail
        go_ret
        exact HG.out
end
end Go.Proofs.Ytmnhklfljfglhaa.Sk
