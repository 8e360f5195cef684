/- Proved: for any entries and any restart interval, BlockRestarts of butterylaw11 answers true (one restart point for each group of entries, each the offset of an entry whose common prefix is 0), and its arguments read as before. Conditions: none beyond what the given row states. -/
import Derived.Test.YtobjiamdljjkjaaJb
import Derived.Deep.RegionHeld3
import Derived.Deep.QuietTactic
import Derived.BigQuiet
import Derived.LoopTactic
namespace Go.Proofs.Ytobjiamdljjkjaa.blockRestarts
set_option linter.unusedVariables false
set_option linter.unusedSimpArgs false
open Go.ChangeShapes Go.WideShapes Go.ChangeAt Go.RowKit Lift Bk Ik Sk Vn

theorem own : ownKnob Try.prog.godebug = none := by kernel_rfl

set_option maxRecDepth 100000 in
set_option maxHeartbeats 3200000 in
theorem walk (A : Option Addr) (c : Nat) (L : List D) (ev : Int) (w : World) (h1 : Ents w (· < w.heap.size) A c L) :
    Calls Try.prog 7 #[.slice A L.length c, .int .i64 ev] w (Bk.Yes w) := by
  have H1 := Lib.hid h1
  have hc1 := h1.len
  have hm1 := h1.cap
  unfold maxLen at hm1
  clear h1
  go_enter Try.func7, Try.ntmps7
  go_wp2_with fail
  refine (alive_any _).mono ?_
  rintro e W1 ⟨rfl, hb1⟩
  have HB1 := Lib.hid hb1
  clear hb1
  go_wp2_with fail
  refine (big_any A c _ L W1 (H1.out.below HB1.out)).mono ?_
  rintro e W2 ⟨rfl, rfl⟩
  have HBR := Lib.hid (rbuild_any A c L ev W1 (H1.out.next HB1.out))
  obtain ⟨bg, hbg⟩ : ∃ bg, bg = bigL L := ⟨_, rfl⟩
  rw [← hbg]
  have HBG := Lib.hid hbg
  clear hbg
  go_wp2_with fail
  refine HBR.out.mono ?_
  rintro e W2 ⟨v, rfl, hown, hb2⟩
  obtain ⟨A2, c2, rfl, hc2, hm2, hl2⟩ := own_parts hown
  have HBY := Lib.hid (HB1.out.trans (hb2.mono HB1.out.size))
  have hml := may_le (L.map D.t)
  clear hb2 HBR hown
  cases bg
  · obtain ⟨hn60, hsm⟩ := big_no HBG.out.symm
    clear hsm HBG
    by_cases hm0 : may (L.map D.t) = 0
    · by_cases ha : ev < 1
      · have d1 : decide (ev < 1) = true := decide_eq_true ha
        rw [hm0]
        clear hm0 hl2
        go_wp2_with fail
        go_ret
        exact ⟨rfl, HBY.out⟩
      · have d1 : decide (ev < 1) = false := decide_eq_false ha
        by_cases hh : 100 < ev
        · have d3 : decide (100 < ev) = true := decide_eq_true hh
          rw [hm0]
          clear hm0 hl2
          go_wp2_with fail
          go_ret
          exact ⟨rfl, HBY.out⟩
        · have d3 : decide (100 < ev) = false := decide_eq_false hh
          obtain ⟨a, rfl⟩ : ∃ a : Nat, ev = (a : Int) := ⟨ev.toNat, by omega⟩
          have ha1 : 1 ≤ a := by omega
          have ha2 : a ≤ 100 := by omega
          have hca : clamp (a : Int) = a := clamp_nat ha1 ha2
          have ebs : bldB (a : Int) (L.map D.t) = blk a (L.map D.t) := by rw [bldB_ok hm0, hca]
          rw [ebs] at hl2 hc2 ⊢
          have hok : ∀ t, t ∈ L.map D.t → okT t = true := (may_zero hm0).1
          have hb8 : ∀ x, x ∈ blk a (L.map D.t) → x < 256 := blk_byte (fun d hd => ⟨hok _ (List.mem_map.2 ⟨d, hd, rfl⟩), (H1.out.ok d hd).ok, (H1.out.ok d hd).v8⟩)
          have hbl : (blk a (L.map D.t)).length ≤ 50000000 := by
            have := blk_max (every := a) hok
            rw [List.length_map] at this
            omega
          have HRS := Lib.hid (orests_any A2 c2 _ W2 hl2 hc2 hm2 hbl hb8)
          have hal : allB (blk a (L.map D.t)) = (L.map D.t, 0) := allB_ok ⟨hm0, a, ha1, ha2, rfl⟩
          have hrs : resB (blk a (L.map D.t)) = ends a 0 [] 0 (L.map D.t) := by
            unfold resB
            rw [hal, if_pos rfl]
            exact blk_rest hm0 (by omega)
          have HAL := Lib.hid hal
          unfold Rsts at HRS
          rw [hrs, hal] at HRS
          have hrl : (ends a 0 [] 0 (L.map D.t)).length = (L.length + a - 1) / a := by
            have h0 : (a - 1) / a = 0 := Nat.div_eq_of_lt (by omega)
            rw [ends_len a _ 0 [] 0 ha1, List.length_map]
            simp only [Nat.zero_add]
            rw [h0, Nat.sub_zero]
          have HAT : Hid (∀ j e, (ends a 0 [] 0 (L.map D.t))[j]? = some e → (blk a (L.map D.t))[e]? = some 0 ∧ e < (blk a (L.map D.t)).length) := Lib.hid fun j e h => by
            have h3 := ends_at a (L.map D.t) 0 [] [] [] e (List.mem_of_getElem? h)
            have h4 := blk_len a (L.map D.t)
            simp only [List.length_nil] at h3
            exact (blk_end h (by omega)).2
          have HRI := Lib.hid (ends_rise a (L.map D.t) 0 [] 0).1
          have HFI : Hid (∀ e, (ends a 0 [] 0 (L.map D.t))[0]? = some e → e = 0) := Lib.hid fun e h => by
            have hne : L.map D.t ≠ [] := fun h0 => by rw [h0] at h; simp [ends] at h
            rw [ends_first a hne] at h
            injection h with h
            exact h.symm
          have HL2 := Lib.hid hl2
          have hbsm : (blk a (L.map D.t)).length ≤ 50000000 := hbl
          rw [hm0]
          clear hm0 hl2 hok hb8 hbl hal hrs ebs hca
          generalize ends a 0 [] 0 (L.map D.t) = R at *
          generalize blk a (L.map D.t) = bs at *
          have hq : ((L.length : Int) + (a : Int) - 1) / (a : Int) = ((L.length + a - 1) / a : Nat) := by
            rw [show (L.length : Int) + (a : Int) - 1 = ((L.length + a - 1 : Nat) : Int) from by omega]
            exact (Int.natCast_ediv _ _).symm
          have hqt : Int.tdiv ((L.length : Int) + (a : Int) - 1) (a : Int) = ((L.length + a - 1) / a : Nat) := by
            rw [Int.tdiv_eq_ediv_of_nonneg (by omega)]
            exact hq
          have ene : ¬ (a : Int) = 0 := by omega
          have hRn : R.length ≤ 10000 := by
            rw [hrl]
            exact Nat.le_trans (Nat.div_le_self _ _) (by omega)
          rw [← hrl] at hq hqt
          have HRL := Lib.hid hrl
          clear hrl
          go_wp2_with fail
          refine HRS.out.mono ?_
          rintro e W3 ⟨hb3, A3, c3, rfl, hown3⟩
          obtain ⟨_, _, e3, hc3, hm3, -⟩ := own_parts hown3
          injection e3 with e3 _ e3'
          subst e3 e3'
          have HB3 := Lib.hid (HBY.out.trans (hb3.mono HBY.out.size))
          have HL3 : Hid (Lies W3 W3.heap.size A3 (R.map vn)) := Lib.hid (Lies.of_own hown3)
          have HLB : Hid (Lies W3 W3.heap.size A2 (bs.map vb)) := Lib.hid ((HL2.out.below hb3).up hb3.size)
          clear hb3 hown3 HRS hml
          unfold maxLen at hm2 hm3
          go_wp2_with fail
          refine (num_any _ W3).mono ?_
          rintro e w' ⟨rfl, rfl⟩
          go_wp2_with fail
          go_loopw [11] (fun i wr => ∃ j : Nat, j ≤ R.length ∧ i = .int .i64 j ∧ Hid (Below W3.heap.size W3 wr)) (fun i _ => R.length + 1 - (intOf i).toNat)
          case atStart => exact ⟨0, by omega, rfl, Lib.hid (Below.refl _ _)⟩
          case round =>
            obtain ⟨j, hj, rfl, hb⟩ := hrel
            by_cases hlt : j < R.length
            · obtain ⟨e, he⟩ : ∃ e, R[j]? = some e := ⟨_, List.getElem?_eq_getElem hlt⟩
              obtain ⟨ad, rfl, -, hcell⟩ := (HL3.out.below hb.out).place (by rw [List.length_map]; omega)
              have hz := HAT.out j e he
              obtain ⟨bd, rfl, -, hcb⟩ := (HLB.out.below hb.out).place (by rw [List.length_map]; omega)
              have g0 : wr.cell? (ad.add j) = some (.int .i64 (e : Int)) := hcell j _ (by rw [List.getElem?_map, he]; rfl)
              have g1 : wr.cell? (bd.add e) = some (.int .u8 0) := hcb e _ (by rw [List.getElem?_map, hz.1]; rfl)
              have hel := hz.2
              have d4 : decide ((bs.length : Int) ≤ (e : Int)) = false := decide_eq_false (by omega)
              have d5 : decide (bs.length ≤ e) = false := decide_eq_false (by omega)
              have hjm : j < 10000 := by omega
              have hem : e < 50000000 := by omega
              by_cases h0 : j = 0
              · subst h0
                obtain rfl := HFI.out e he
                have ead : ad.add 0 = ad := by unfold Addr.add; rw [if_pos rfl]
                have ebd : bd.add 0 = bd := by unfold Addr.add; rw [if_pos rfl]
                rw [ead] at g0
                rw [ebd] at g1
                have d9 : decide ((bs.length : Int) ≤ 0) = false := decide_eq_false (by omega)
                have hbe : ¬ bs = [] := fun h => by rw [h] at hel; simp at hel
                clear hcell hcb hz he d4 d5 ead ebd
                go_wp2_with fail
                go_quiet (fail)
                go_wp2_with fail
                go_roundw
                case rel => exact ⟨1, by omega, by go_num, Lib.hid (hb.out.trans ((Joins.below_draws _ _ _).mono hb.out.size))⟩
                case measure => simp [intOf] <;> omega
              · obtain ⟨i, hij⟩ : ∃ i, j = i + 1 := ⟨j - 1, by omega⟩
                obtain ⟨e1, he1⟩ : ∃ e, R[i]? = some e := ⟨_, List.getElem?_eq_getElem (by omega)⟩
                have g2 : wr.cell? (ad.add i) = some (.int .i64 (e1 : Int)) := hcell i _ (by rw [List.getElem?_map, he1]; rfl)
                have hlt1 : e1 < e := by
                  obtain ⟨q1, q2⟩ := List.getElem?_eq_some_iff.1 he
                  obtain ⟨q3, q4⟩ := List.getElem?_eq_some_iff.1 he1
                  have := List.pairwise_iff_getElem.1 HRI.out i j q3 q1 (by omega)
                  omega
                have d6 : decide ((e : Int) ≤ (e1 : Int)) = false := decide_eq_false (by omega)
                have d7 : decide (e ≤ e1) = false := decide_eq_false (by omega)
                have ej : (j : Int) - 1 = (i : Int) := by omega
                have d8 : decide ((e : Int) < 0) = false := decide_eq_false (by omega)
                have hil : i < R.length := by omega
                have hjp : 0 < j := by omega
                have hjz : ((j : Int) == 0) = false := by rw [beq_eq_false_iff_ne]; omega
                clear hcell hcb hz he he1 hij h0
                go_wp2_with fail
                go_quiet (fail)
                go_wp2_with fail
                go_roundw
                case rel => exact ⟨j + 1, by omega, by go_num, Lib.hid (hb.out.trans ((Joins.below_draws _ _ _).mono hb.out.size))⟩
                case measure => simp [intOf]; omega
            · go_wp2_with fail
              go_ret
              exact ⟨rfl, HB3.out.trans (hb.out.mono HB3.out.size)⟩
    · have hm1 : ¬ (may (L.map D.t) : Int) = 0 := by omega
      have hm2' : ((may (L.map D.t) : Int) != 0) = true := by rw [bne_iff_ne]; exact hm1
      clear hl2 hm0
      generalize may (L.map D.t) = mm at *
      generalize bldB ev (L.map D.t) = bs at *
      go_wp2_with fail
      go_ret
      exact ⟨rfl, HBY.out⟩
  · clear hl2
    generalize may (L.map D.t) = mm at *
    generalize bldB ev (L.map D.t) = bs at *
    go_wp2_with fail
    go_ret
    exact ⟨rfl, HBY.out⟩

set_option maxRecDepth 100000 in
theorem lifted (os : Os) (started : os.Started) (H : Type) (enc : TypeId × Value → H) :
    ReturnsInHanded {} Try.checked os 7 .any (Rows.blockRestartsSpec.pre6 enc Try.prog Try.f7 Rows.blockRestartsRow.domain false) (Rows.blockRestartsSpec.post enc Try.prog Try.f7 false true false false) := by
  refine lift_true (C := Try.checked) own started (by kernel_rfl) Try.func7
    (ChangeSpec.witness6 (enc := enc) (C := Try.checked) false ⟨#[], #[.slice none 0 0, .int .i64 0], []⟩ 8 (by kernel_rfl) (by kernel_rfl) (by kernel_rfl) (by kernel_rfl))
    (by kernel_rfl) (by kernel_rfl) (by kernel_rfl) Try.underlying4 rfl ?_ ?_
  · intro ds hds
    match ds, hds with
    | [d1, d2], _ => exact ⟨rfl, rfl, rfl⟩
  · intro W base args ds p hval0 hA0 hlt _
    have hval : ∀ (j : Nat) t v, Try.f7.params[j]? = some t → args[j]? = some v → Value.okWide Try.prog W .any base t v := hval0
    have hA : DataW.TrodAll enc Try.prog W 0 (fun _ => true) true Try.f7.params.toList args.toList ds p := hA0
    rw [Try.params7] at hA hval
    obtain ⟨v0, vs0, d0, ds0, p0, q0, hargs, rfl, rfl, h0, r0⟩ := trodAll_cons hA
    obtain ⟨v1, vs1, d1, ds1, p1, q1, rfl, rfl, rfl, h1, r1⟩ := trodAll_cons r0
    obtain ⟨rfl, rfl, rfl⟩ := trodAll_nil r1
    obtain rfl : args = #[v0, v1] := by cases args; simp_all
    obtain ⟨A0, c0, L0, rfl, hN0⟩ := Sk.open_ents (hval 0 _ v0 rfl rfl) h0 (fun x hx => hlt x (by simp [hx]))
    obtain ⟨a1, rfl, rfl, rfl, w1⟩ := open_int Try.underlying3 (hval 1 _ v1 rfl rfl) h1
    have b1 := i64_of w1
    exact walk A0 c0 L0 a1 W hN0

theorem over : Rows.blockRestartsRow.holds Try.pinned (OpenSpec.ofChange Rows.blockRestartsSpec) :=
  OpenClaim.holds_of_wide 7 Try.f7 rfl rfl rfl rfl rfl rfl rfl ⟨rfl, rfl, rfl, rfl, rfl⟩ rfl rfl rfl rfl rfl (by kernel_rfl) Try.func7 (by kernel_rfl)
    (of_decide_eq_true (by kernel_rfl)) (by unfold Func.isWrapper; first | (rw [if_pos (by decide +kernel)]; kernel_rfl) | (rw [if_neg (by decide +kernel)]; exact ⟨rfl, rfl⟩))
    (fun os started H enc _ => lifted os started H enc)

theorem proved : Rows.BlockRestartsSaid :=
  over
#print axioms proved
end Go.Proofs.Ytobjiamdljjkjaa.blockRestarts
