/- Proved: for any bytes, FrameReads of butterylaw7 answers true (All agrees with the definition: records, number of bytes, class of the end), and its argument reads as before. Conditions: none beyond what the given row states. -/
import Derived.Test.YtkmelhgpngochaaDoorFlaw7
import Derived.Test.YtkmelhgpngochaaDoorFrall
import Derived.Test.YtkmelhgpngochaaDoorLaid
import Derived.Test.YtkmelhgpngochaaDoorTie
import Derived.Test.YtkmelhgpngochaaDoorCards
import Derived.SevenTiedAt
namespace Go.Proofs.YtkmelhgpngochaaDoor.frameReads
set_option linter.unusedVariables false
set_option linter.unusedSimpArgs false
open Go.ChangeShapes Go.WideShapes Go.ChangeAt Go.RowKit Lift Ik Sq Fr

theorem own : ownKnob Tryd.prog.godebug = none := by kernel_rfl

set_option maxRecDepth 100000 in
set_option maxHeartbeats 800000 in
theorem same_big (A1 A2 : Option Addr) (c1 c2 : Nat) (L1 L2 : List E) (w : World) (h1 : Seqs w w.heap.size A1 c1 L1) (h2 : Seqs w w.heap.size A2 c2 L2) (he : L1.map (·.bs) = L2.map (·.bs)) (hn : L1.length ≤ 9223372036854775807) :
    Calls Tryd.prog 15 #[.slice A1 L1.length c1, .slice A2 L2.length c2] w fun e w' => e = .returned (.bool true) ∧ Below w.heap.size w w' := by
  have hl : L2.length = L1.length := by have := congrArg List.length he; simpa using this.symm
  rw [hl]
  have H1 := Lib.hid h1
  have H2 := Lib.hid h2
  have HE := Lib.hid he
  have HLL := Lib.hid hl
  clear h1 h2 he hl
  go_enter Tryd.func15, Tryd.ntmps15
  go_wp2_with fail
  go_loopw [5] (fun i wr => ∃ j : Nat, j ≤ L1.length ∧ i = .int .i64 j ∧ Hid (Below w.heap.size w wr)) (fun i _ => L1.length + 1 - (intOf i).toNat)
  case atStart => exact ⟨0, by omega, rfl, Lib.hid (Below.refl _ _)⟩
  case round =>
    obtain ⟨j, hj, rfl, hb⟩ := hrel
    by_cases hlt : j < L1.length
    · obtain ⟨x, hx⟩ : ∃ x, L1[j]? = some x := ⟨_, List.getElem?_eq_getElem hlt⟩
      obtain ⟨y, hy⟩ : ∃ y, L2[j]? = some y := ⟨_, List.getElem?_eq_getElem (by rw [HLL.out]; exact hlt)⟩
      have hxy : x.bs = y.bs := by
        have := congrArg (fun l => l[j]?) HE.out
        simp only [List.getElem?_map, hx, hy] at this
        simpa using this
      obtain ⟨a1, hA1, _, r1⟩ := (H1.out.below hb.out).place hx
      obtain ⟨a2, hA2, _, r2⟩ := (H2.out.below hb.out).place hy
      have k1 := (H1.out.below hb.out).ok x (List.mem_of_getElem? hx)
      have k2 := (H2.out.below hb.out).ok y (List.mem_of_getElem? hy)
      have q1 : ∀ n, Sem.run Tryd.prog (convert 22 9 (.slice x.a x.bs.length x.c)) (wr.drewN n) = .ok (.string (str x.bs)) (wr.drewN n) := fun n =>
        run_string_lies (P := Tryd.prog) (c := x.c) _ _ 5 Tryd.underlying22 Tryd.underlying5 Tryd.underlying9 (k1.lies.below (Joins.below_draws _ _ _))
      have q2 : ∀ n, Sem.run Tryd.prog (convert 22 9 (.slice y.a y.bs.length y.c)) (wr.drewN n) = .ok (.string (str x.bs)) (wr.drewN n) := fun n => by
        rw [hxy]
        exact run_string_lies (P := Tryd.prog) (c := y.c) _ _ 5 Tryd.underlying22 Tryd.underlying5 Tryd.underlying9 (k2.lies.below (Joins.below_draws _ _ _))
      subst hA1 hA2
      have dl : decide (j < L1.length) = true := decide_eq_true hlt
      generalize str x.bs = s at *
      clear hx hy hxy k1 k2
      generalize x.bs.length = n1 at *
      generalize y.bs.length = n2 at *
      go_wp2_with fail
      go_quiet (fail)
      go_wp2_with fail
      go_roundw
      case rel => exact ⟨j + 1, by omega, by go_num, Lib.hid (hb.out.trans (Joins.below_draws _ _ _))⟩
      case measure => simp [intOf]; omega
    · have dl : decide (j < L1.length) = false := decide_eq_false hlt
      go_wp2_with fail
      go_ret
      exact ⟨rfl, hb.out⟩
set_option maxRecDepth 100000 in
set_option maxHeartbeats 1600000 in
theorem walk (A : Option Addr) (c : Nat) (b : List Nat) (w : World) (hl : Lies w w.heap.size A (b.map vb)) (hc : b.length ≤ c) (hm : c ≤ maxLen) (h8 : ∀ x, x ∈ b → x < 256) : Calls Tryd.prog 4 #[.slice A b.length c] w (Yes w) := by
  have hmm := hm
  unfold maxLen at hmm
  have HL := Lib.hid hl
  have H8 := Lib.hid h8
  clear hl h8
  by_cases hn : 1500 < b.length
  · go_enter Tryd.func4, Tryd.ntmps4
    go_wp2_with fail
    refine (alive_any _).mono ?_; rintro e W1 ⟨rfl, hb1⟩
    have HB1 := Lib.hid hb1
    clear hb1
    go_wp2_with fail
    go_ret
    exact ⟨rfl, HB1.out⟩
  · go_enter Tryd.func4, Tryd.ntmps4
    go_wp2_with fail
    refine (alive_any _).mono ?_; rintro e W1 ⟨rfl, hb1⟩
    have hl1 := (HL.out.below hb1).up hb1.size
    obtain ⟨A2, c2, W2, hr2, hown2, hb2⟩ := fresh_bytes A c _ b W1 hl1 (by omega)
    obtain ⟨A2', c2', e2, k1, k2, k3⟩ := own_parts hown2
    injection e2 with e21 e22 e23
    subst e21 e23
    have HR := Lib.hid hr2
    have HB2 := Lib.hid (hb1.trans (hb2.mono hb1.size))
    have HA := Lib.hid (all_any A2 c2 b W2 k3 k1 k2 (by omega) H8.out)
    clear hr2 hb1 hb2 hl1 hown2 k3
    go_wp2_with (at_builtin; refine wpList_append_run rfl _ _ 22 rfl rfl rfl HR.out ?_)
    refine HA.out.mono ?_
    rintro e W3 ⟨A3, c3, L3, n3, cl3, rfl, hs3, hr3, hb3⟩
    have HB3 := Lib.hid (HB2.out.trans (hb3.mono HB2.out.size))
    have HS3 := Lib.hid hs3
    have HR3 := Lib.hid hr3
    have HRA := Lib.hid (rall_any A c b W3 ((HL.out.below HB3.out).up HB3.out.size) hc hm (by omega) H8.out)
    clear hb3 hs3 hr3
    go_wp2_with fail
    refine HRA.out.mono ?_
    rintro e W4 ⟨A4, c4, L4, n4, cl4, rfl, hs4, hr4, hb4⟩
    have e4 := HR3.out.det hr4
    simp only [Prod.mk.injEq] at e4
    obtain ⟨e5, rfl, rfl⟩ := e4
    have HB4 := Lib.hid (HB3.out.trans (hb4.mono HB3.out.size))
    have hcl := HS3.out.len
    have hcm := HS3.out.cap
    unfold maxLen at hcm
    have HSM := Lib.hid (same_big A3 A4 c3 c4 L3 L4 W4 ((HS3.out.below hb4).up hb4.size) hs4 e5 (by omega))
    clear hs4 hr4 hb4 e5
    go_wp2_with fail
    refine HSM.out.mono ?_
    rintro e W5 ⟨rfl, hb5⟩
    have HB5 := Lib.hid (HB4.out.trans (hb5.mono HB4.out.size))
    clear hb5
    go_wp2_with fail
    go_ret
    exact ⟨rfl, HB5.out⟩

set_option maxRecDepth 100000 in
theorem lifted (os : Os) (started : os.Started) (H : Type) (enc : TypeId × Value → H) :
    ReturnsInHanded {} Tryd.checked os 4 .any (fun w args => (Rows.frameReadsSpec.pre enc Tryd.prog Tryd.f4 Rows.frameReadsRow.domain false w args ∧ laidMetH Tryd.prog Rows.frameReadsRow.laid w) ∧ sizedMet enc Tryd.prog Tryd.f4 (OpenSpec.ofChange Rows.frameReadsSpec) false w args) (Rows.frameReadsSpec.post enc Tryd.prog Tryd.f4 false true false false) := by
  refine lift_laid (C := Tryd.checked) Rows.frameReadsRow.laid own started (by kernel_rfl) Tryd.func4
    (ChangeSpec.witness_shaped (enc := enc) (C := Tryd.checked) (os := os) (X := fun w _ => laidMetH Tryd.prog Rows.frameReadsRow.laid w) false (World.laidAll Tryd.prog os Rows.frameReadsRow.laid) #[.slice none 0 0] 8 (World.laidAll_os _ _ _)
      (World.shaped_of_ZipB (by kernel_rfl) (by kernel_rfl)) (by kernel_rfl) (by kernel_rfl) (by kernel_rfl)
      (by rw [MakeChecks.laidMetH_plain _ _ _ (by kernel_rfl)]; exact laidMet_laidAll _ (by kernel_rfl) (by kernel_rfl)))
    (by kernel_rfl) (by kernel_rfl) (by kernel_rfl) Tryd.underlying4 rfl ?_ ?_
  · intro ds hds
    match ds, hds with
    | [d1], _ => exact ⟨rfl, rfl, rfl⟩
  · intro W base args ds p hval0 hA0 hlt _
    have hval : ∀ (j : Nat) t v, Tryd.f4.params[j]? = some t → args[j]? = some v → Value.okWide Tryd.prog W .any base t v := hval0
    have hA : DataW.TrodAll enc Tryd.prog W 0 (fun _ => true) true Tryd.f4.params.toList args.toList ds p := hA0
    rw [Tryd.params4] at hA hval
    obtain ⟨v0, vs0, d0, ds0, p0, q0, hargs, rfl, rfl, h0, r0⟩ := trodAll_cons hA
    obtain ⟨rfl, rfl, rfl⟩ := trodAll_nil r0
    obtain rfl : args = #[v0] := by cases args; simp_all
    obtain ⟨A0, c0, zs0, rfl, hc0, hm0, hl0, hw0⟩ := open_nums Tryd.underlying22 Tryd.underlying5 (by kernel_rfl) (hval 0 _ v0 rfl rfl) h0 (fun x hx => hlt x (by simp [hx]))
    obtain ⟨bs0, rfl, hz0⟩ := as_nat zs0 fun n hn => (u8_of (hw0 n hn)).1
    have hbs0 := fun b hb => (u8_of (hw0 _ (hz0 b hb))).2
    rw [List.length_map] at hc0 ⊢
    rw [List.map_map] at hl0
    exact walk A0 c0 bs0 W hl0 hc0 hm0 (fun x hx => by have := hbs0 x hx; omega)

theorem over : Rows.frameReadsRow.holds Tryd.pinned (OpenSpec.ofChange Rows.frameReadsSpec) :=
  OpenClaim.holds_of_wide 4 Tryd.f4 rfl rfl rfl rfl rfl rfl rfl ⟨rfl, rfl, rfl, rfl, rfl⟩ rfl rfl rfl rfl rfl (by kernel_rfl) Tryd.func4 (by kernel_rfl)
    (of_decide_eq_true (by kernel_rfl)) (by unfold Func.isWrapper; first | (rw [if_pos (by decide +kernel)]; kernel_rfl) | (rw [if_neg (by decide +kernel)]; exact ⟨rfl, rfl⟩))
    (fun os started H enc _ => lifted os started H enc)

theorem proved : Rows.FrameReadsCardSaid :=
  Claim7.holds_tied_plain_at .later [] [.data, .pinned] true (true, "b23d7652dd08339ba58d021077a9801cf880c861c5214500fa8176eedb20fa22") false over (fun _ h => by cases h) (by kernel_rfl) (fun _ h => by cases h) frameReads_row_tie rfl ⟨rfl, rfl⟩ (by kernel_rfl) rfl
    (fun f fn hf hfn => by
      obtain rfl : f = 4 := Option.some.inj ((show Tryd.prog.funcNamed Rows.frameReadsRow.func = some 4 by kernel_rfl).symm.trans hf) |>.symm
      obtain rfl : fn = Tryd.f4 := (Option.some.inj (Tryd.func4.symm.trans hfn)).symm
      exact ⟨by kernel_rfl, fun j t ht => by
        rw [Tryd.params4] at ht
        have hm : t ∈ [22] := by simpa using Array.mem_of_getElem? ht
        have hall : ([22].all fun u => !Tryd.prog.wantsStandIn u) = true := by kernel_rfl
        exact (show Tryd.prog.wantsStandIn t = false by simpa using List.all_eq_true.1 hall t hm)⟩)
    (by kernel_rfl)
#print axioms proved
end Go.Proofs.YtkmelhgpngochaaDoor.frameReads
