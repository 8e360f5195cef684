/- Proved: for any bytes, BatchReads of butterylaw5 answers true (Read of package batch agrees with the definition, results and errors, and encoding the result gives the same bytes), and its argument reads as before. Conditions: none beyond what the given row states. -/
import Derived.Test.YtggliedlfccicaaBlaw5
import Derived.Test.YtggliedlfccicaaBenc3
import Derived.Test.YtggliedlfccicaaBref2
import Derived.Test.YtggliedlfccicaaBsame
namespace Go.Proofs.Ytggliedlfccicaa.batchReads
set_option linter.unusedVariables false
set_option linter.unusedSimpArgs false
open Go.ChangeShapes Go.WideShapes Go.ChangeAt Go.RowKit Lift Bt Ik Vn

theorem own : ownKnob Try.prog.godebug = none := by kernel_rfl

theorem read_three (bs : List Nat) : (readB bs).1 = 0 ∨ (readB bs).1 = 2 ∨ (readB bs).1 = 4 := by
  rw [read_batch]
  rcases batch_three bs with h | h | h
  · rw [h, if_neg (by simp)]
    split <;> simp
  · rw [h]; simp
  · rw [h]; simp
theorem lies_next {w w' : World} {A : Option Addr} {xs : List Value} (h : Lies w w.heap.size A xs) (hb : Below w.heap.size w w') : Lies w' w'.heap.size A xs := (h.below hb).up hb.size

set_option maxHeartbeats 400000 in
theorem walk_out (A : Option Addr) (c n : Nat) (w : World) (h : 1000 < n) : Calls Try.prog 4 #[.slice A n c] w (Yes w) := by
  have d1 : decide ((1000 : Int) < (n : Int)) = true := by simp; omega
  go_enter Try.func4, Try.ntmps4
  go_wp2_with fail
  refine (alive_any _).mono ?_; rintro e W1 ⟨rfl, hb1⟩
  have HB1 := Lib.hid hb1
  clear hb1
  go_wp2_with fail
  go_ret
  exact ⟨rfl, HB1.out⟩

set_option maxRecDepth 100000 in
set_option maxHeartbeats 1600000 in
theorem walk (A : Option Addr) (c : Nat) (bs : List Nat) (w : World) (hl : Lies w w.heap.size A (bs.map vb)) (hc : bs.length ≤ c) (hm : c ≤ maxLen) (h8 : ∀ x, x ∈ bs → x < 256) (h : bs.length ≤ 1000) :
    Calls Try.prog 4 #[.slice A bs.length c] w (Yes w) := by
  have d1 : decide ((1000 : Int) < (bs.length : Int)) = false := by simp; omega
  have HL := Lib.hid hl
  have H8 := Lib.hid h8
  have HM := Lib.hid hm
  have HC := Lib.hid hc
  clear hl h8 hm hc
  go_enter Try.func4, Try.ntmps4
  go_wp2_with fail
  refine (alive_any _).mono ?_; rintro e W1 ⟨rfl, hb1⟩
  obtain ⟨A2, c2, W2, hr2, hown2, hb2⟩ := fresh_bytes A c _ bs W1 (HL.out.below hb1) (by omega)
  obtain ⟨A2', c2', hv, hc2, hm2, hl2⟩ := own_parts hown2
  injection hv with e1 e2 e3
  subst e1; subst e3
  have HB2 := Lib.hid (hb1.trans (hb2.mono hb1.size))
  have HR2 := Lib.hid hr2
  have HD := Lib.hid (read_all A2 c2 bs W2 hl2 hc2 hm2 H8.out (by omega))
  clear hb1 hr2 hown2 hb2 hc2 hm2 hl2 e2
  go_wp2_with (at_builtin; refine wpList_append_run rfl _ _ 28 rfl rfl rfl HR2.out ?_)
  refine HD.out.mono ?_
  rintro e W3 ⟨A3, c3, L, rfl, hL, hO3, hb3⟩
  generalize hs : (readB bs).2.1 = s at *
  generalize he : (readB bs).1 = er at *
  have hba := Joins.below_alloc1 W3 (.cells #[.int .u64 (s : Int), .slice A3 L.length c3] 25)
  have b3 := Box.new W3 25 [.int .u64 (s : Int), .slice A3 L.length c3]
  have hz3 : (W3.alloc (.cells #[.int .u64 (s : Int), .slice A3 L.length c3] 25)).heap.size = W3.heap.size + 1 := by simp
  have h3 := HB2.out.trans (hb3.mono HB2.out.size)
  have h4 := h3.trans (hba.mono h3.size)
  have hD2 := rread_all A c bs _ (lies_next HL.out h4) HC.out HM.out H8.out (by omega)
  have HO3 := Lib.hid hO3
  have HL3 := Lib.hid hL
  have HS := Lib.hid hs
  have HE := Lib.hid he
  clear hb3 h3 hL hO3 hs he HD HR2
  go_wp2_with fail
  refine hD2.mono ?_
  rintro e W5 ⟨A5, c5, M, rfl, hM, hO5, hb5⟩
  rw [HS.out, HE.out]
  have b5 := b3.below hb5 (by omega)
  have h45 := hba.trans (hb5.mono hba.size)
  have h5 := h4.trans (hb5.mono h4.size)
  have hba5 := Joins.below_alloc1 W5 (.cells #[.int .u64 (s : Int), .slice A5 M.length c5] 25)
  have b6 := b5.below hba5 b5.lt
  have b7 := Box.new W5 25 [.int .u64 (s : Int), .slice A5 M.length c5]
  have h46 := h45.trans (hba5.mono h45.size)
  have HO6 := Lib.hid (HO3.out.next h46)
  have HO7 := Lib.hid (hO5.next hba5)
  have H6 := Lib.hid (h5.trans (hba5.mono h5.size))
  have HLM := Lib.hid (HL3.out.trans hM.symm)
  obtain ⟨p0, p1, _, _⟩ := b6.facts2
  obtain ⟨q0, q1, _, _⟩ := b7.facts2
  have B6 := Lib.hid b6
  have hsame := same_batch s A3 A5 c3 c5 L M _ HO6.out HO7.out HLM.out
  clear hba b3 hz3 h4 hD2 hM hO5 hb5 b5 h45 h5 hba5 b6 b7 h46
  have hth := read_three bs
  rw [HE.out] at hth
  go_wp2_with fail
  refine hsame.mono ?_; rintro e W8 ⟨rfl, hb8⟩
  have HB8 := Lib.hid (H6.out.trans (hb8.mono H6.out.size))
  have b8 := B6.out.below hb8 B6.out.lt
  have HO8 := Lib.hid (HO6.out.next hb8)
  clear p0 p1 q0 q1 hsame hb8
  obtain ⟨p0, p1, _, _⟩ := b8.facts2
  clear b8
  rcases hth with rfl | rfl | rfl
  · have hbk := read_back H8.out HE.out
    rw [HS.out, ← HL3.out] at hbk
    have hslt : s < 18446744073709551616 := by
      have := hbk.1
      unfold bytesE at this
      split at this
      · contradiction
      · split at this
        · rename_i hf; have := fits_parts hf; omega
        · cases this
    have hby := bytes_any s A3 c3 L W8 hslt HO8.out
    rw [hbk.1, show bytesB s (opsO L) = bs by unfold bytesB; rw [if_pos hbk.1]; exact hbk.2] at hby
    have HBY := Lib.hid hby
    clear hbk hslt hby
    go_wp2_with (go_at_call 12; refine (num_any _ _).mono ?_; rintro e w' ⟨rfl, rfl⟩)
    refine HBY.out.mono ?_
    rintro e W9 ⟨v9, rfl, hown9, hb9⟩
    obtain ⟨A9, c9, rfl, _, _, hl9⟩ := own_parts hown9
    have HB9 := Lib.hid (HB8.out.trans (hb9.mono HB8.out.size))
    have s1 := run_str (c := c9) hl9
    have s2 := run_str (c := c) (HL.out.below HB9.out)
    have n1 : ((str bs).toList == (str bs).toList) = true := by simp
    clear hown9 hb9 hl9 HBY p0 p1
    go_wp2_with (go_at_call 12; refine (num_any _ _).mono ?_; rintro e w' ⟨rfl, rfl⟩)
    go_ret
    exact ⟨rfl, HB9.out⟩
  · go_wp2_with (go_at_call 12; refine (num_any _ _).mono ?_; rintro e w' ⟨rfl, rfl⟩)
    go_ret
    exact ⟨rfl, HB8.out⟩
  · go_wp2_with (go_at_call 12; refine (num_any _ _).mono ?_; rintro e w' ⟨rfl, rfl⟩)
    go_ret
    exact ⟨rfl, HB8.out⟩

set_option maxRecDepth 100000 in
theorem lifted (os : Os) (started : os.Started) (H : Type) (enc : TypeId × Value → H) :
    ReturnsInHanded {} Try.checked os 4 .any (Rows.batchReadsSpec.pre6 enc Try.prog Try.f4 Rows.batchReadsRow.domain false) (Rows.batchReadsSpec.post enc Try.prog Try.f4 false true false false) := by
  refine lift_true (C := Try.checked) own started (by kernel_rfl) Try.func4
    (ChangeSpec.witness6 (enc := enc) (C := Try.checked) false ⟨#[], #[.slice none 0 0], []⟩ 8 (by kernel_rfl) (by kernel_rfl) (by kernel_rfl) (by kernel_rfl))
    (by kernel_rfl) (by kernel_rfl) (by kernel_rfl) Try.underlying4 rfl ?_ ?_
  · intro ds hds
    match ds, hds with
    | [d1], _ => exact ⟨rfl, rfl, rfl⟩
  · intro W base args ds p hval0 hA0 hlt _
    have hval : ∀ (j : Nat) t v, Try.f4.params[j]? = some t → args[j]? = some v → Value.okWide Try.prog W .any base t v := hval0
    have hA : DataW.TrodAll enc Try.prog W 0 (fun _ => true) true Try.f4.params.toList args.toList ds p := hA0
    rw [Try.params4] at hA hval
    obtain ⟨v0, vs0, d0, ds0, p0, q0, hargs, rfl, rfl, h0, r0⟩ := trodAll_cons hA
    obtain ⟨rfl, rfl, rfl⟩ := trodAll_nil r0
    obtain rfl : args = #[v0] := by cases args; simp_all
    obtain ⟨A0, c0, zs0, rfl, hc0, hm0, hl0, hw0⟩ := open_nums Try.underlying28 Try.underlying5 (by kernel_rfl) (hval 0 _ v0 rfl rfl) h0 (fun x hx => hlt x (by simp [hx]))
    obtain ⟨bs0, rfl, hz0⟩ := as_nat zs0 fun n hn => (u8_of (hw0 n hn)).1
    have hbs0 := fun b hb => (u8_of (hw0 _ (hz0 b hb))).2
    rw [List.length_map] at hc0 ⊢
    rw [List.map_map] at hl0
    by_cases h : 1000 < bs0.length
    · exact walk_out A0 c0 _ W h
    · exact walk A0 c0 bs0 W hl0 hc0 hm0 (fun x hx => by have := hbs0 x hx; omega) (by omega)

theorem over : Rows.batchReadsRow.holds Try.pinned (OpenSpec.ofChange Rows.batchReadsSpec) :=
  OpenClaim.holds_of_wide 4 Try.f4 rfl rfl rfl rfl rfl rfl rfl ⟨rfl, rfl, rfl, rfl, rfl⟩ rfl rfl rfl rfl rfl (by kernel_rfl) Try.func4 (by kernel_rfl)
    (of_decide_eq_true (by kernel_rfl)) (by unfold Func.isWrapper; first | (rw [if_pos (by decide +kernel)]; kernel_rfl) | (rw [if_neg (by decide +kernel)]; exact ⟨rfl, rfl⟩))
    (fun os started H enc _ => lifted os started H enc)

theorem proved : Rows.BatchReadsSaid :=
  over
#print axioms proved
end Go.Proofs.Ytggliedlfccicaa.batchReads
