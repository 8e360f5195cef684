/- Proved: for any rows of bytes and any number, FrameTorn of butterylaw7 answers true (of a log whose end is torn off just the records are told that are there whole, and that it is no damage), and its arguments read as before. Conditions: none beyond what the given row states. -/
import Derived.Test.YtkmelhgpngochaaDoorFlog
import Derived.Test.YtkmelhgpngochaaDoorLaid
import Derived.Test.YtkmelhgpngochaaDoorTie
import Derived.Test.YtkmelhgpngochaaDoorCards
import Derived.SevenTiedAt
namespace Go.Proofs.YtkmelhgpngochaaDoor.frameTorn
set_option linter.unusedVariables false
set_option linter.unusedSimpArgs false
open Go.ChangeShapes Go.WideShapes Go.ChangeAt Go.RowKit Lift Ik Sq Fr

theorem own : ownKnob Tryd.prog.godebug = none := by kernel_rfl

set_option maxHeartbeats 800000 in
theorem walk_no (A : Option Addr) (c : Nat) (L : List E) (s : Int) (w : World) (hc : L.length ≤ c) (hm : c ≤ maxLen) (h : L.length < 1 ∨ 10 < L.length ∨ s < 0) : Calls Tryd.prog 6 #[.slice A L.length c, .int .i64 s] w (Yes w) := by
  unfold maxLen at hm
  by_cases h1 : L.length < 1
  · go_enter Tryd.func6, Tryd.ntmps6
    go_wp2_with fail
    refine (alive_any _).mono ?_; rintro e W1 ⟨rfl, hb1⟩
    have HB1 := Lib.hid hb1
    clear hb1
    go_wp2_with fail
    go_ret
    exact ⟨rfl, HB1.out⟩
  · by_cases h2 : 10 < L.length
    · go_enter Tryd.func6, Tryd.ntmps6
      go_wp2_with fail
      refine (alive_any _).mono ?_; rintro e W1 ⟨rfl, hb1⟩
      have HB1 := Lib.hid hb1
      clear hb1
      go_wp2_with fail
      go_ret
      exact ⟨rfl, HB1.out⟩
    · have h3 : s < 0 := by omega
      go_enter Tryd.func6, Tryd.ntmps6
      go_wp2_with fail
      refine (alive_any _).mono ?_; rintro e W1 ⟨rfl, hb1⟩
      have HB1 := Lib.hid hb1
      clear hb1
      go_wp2_with fail
      go_ret
      exact ⟨rfl, HB1.out⟩
theorem take_seqs {w : World} {B c : Nat} {A : Option Addr} {L : List E} (h : Seqs w B A c L) (j : Nat) : Seqs w B A c (L.take j) :=
  ⟨h.lies.front (by rw [List.map_take]; exact List.take_prefix _ _), by have := h.len; rw [List.length_take]; omega, h.cap, fun e he => h.ok e (List.mem_of_mem_take he)⟩
theorem cut_seqs (A : Option Addr) (n c k : Nat) (h : k ≤ c) (hc : n ≤ c) (hm : c ≤ maxLen) (W : World) : Sem.run Tryd.prog (Instr.slice 26 (.slice A n c) none (some (.int .i64 (k : Int))) none) W = .ok (.slice A k c) W := by
  unfold maxLen at hm
  go_simp
set_option maxRecDepth 100000 in
set_option maxHeartbeats 1600000 in
theorem walk (A : Option Addr) (c : Nat) (L : List E) (a : Nat) (w : World) (ha : a ≤ 9223372036854775807) (hQ : Seqs w w.heap.size A c L) (h1 : 1 ≤ L.length) (h10 : L.length ≤ 10) : Calls Tryd.prog 6 #[.slice A L.length c, .int .i64 (a : Int)] w (Yes w) := by
  have HQ := Lib.hid hQ
  have hLc := hQ.len
  have hLM := Lib.hid hQ.cap
  have hLm := hQ.cap
  unfold maxLen at hLm
  clear hQ
  go_enter Tryd.func6, Tryd.ntmps6
  go_wp2_with fail
  refine (alive_any _).mono ?_; rintro e W1 ⟨rfl, hb1⟩
  have HB1 := Lib.hid hb1
  clear hb1
  go_wp2_with fail
  go_loop [6] (fun i => ∃ j : Nat, j ≤ L.length ∧ i = .int .i64 j ∧ Hid (∀ r, r ∈ (L.map (·.bs)).take j → r.length ≤ 300)) (fun i => L.length + 1 - (intOf i).toNat)
  case atStart => exact ⟨0, by omega, rfl, Lib.hid (by simp)⟩
  case round =>
    obtain ⟨j, hj, rfl, hS⟩ := hrel
    by_cases hlt : j < L.length
    · obtain ⟨e, he⟩ : ∃ e, L[j]? = some e := ⟨_, List.getElem?_eq_getElem hlt⟩
      obtain ⟨ad, hA, _, p0⟩ := (HQ.out.below HB1.out).place he
      subst hA
      have ke := (HQ.out.below HB1.out).ok e (List.mem_of_getElem? he)
      have hec := ke.cap
      have hem := ke.max
      unfold maxLen at hem
      have dl : decide (j < L.length) = true := decide_eq_true hlt
      have HT : Hid ((L.map (·.bs)).take (j + 1) = (L.map (·.bs)).take j ++ [e.bs]) := Lib.hid (by rw [List.take_add_one, List.getElem?_map, he]; rfl)
      clear ke he
      by_cases h3 : 300 < e.bs.length
      · have d3 : decide (300 < e.bs.length) = true := decide_eq_true h3
        go_wp2_with fail
        go_ret
        exact ⟨rfl, HB1.out⟩
      · have d3 : decide (300 < e.bs.length) = false := decide_eq_false h3
        have HS2 : Hid (∀ r, r ∈ (L.map (·.bs)).take (j + 1) → r.length ≤ 300) := Lib.hid (by
          rw [HT.out]
          intro r hr
          rcases List.mem_append.1 hr with hr | hr
          · exact hS.out r hr
          · simp at hr; subst hr; omega)
        go_wp2_with fail
        go_round
        case rel => exact ⟨j + 1, by omega, by go_num, HS2⟩
        case measure => simp [intOf]; omega
    · obtain rfl : j = L.length := by omega
      have dl : decide (L.length < L.length) = false := by simp
      have hs : ∀ r, r ∈ L.map (·.bs) → r.length ≤ 300 := by
        have := hS.out
        rw [List.take_of_length_le (by rw [List.length_map]; exact Nat.le_refl _)] at this
        exact this
      have HLOG := Lib.hid (log_any A c L W1 ((HQ.out.below HB1.out).up HB1.out.size) h10 hs)
      have HML : Hid ((L.map (·.bs)).length = L.length) := Lib.hid (List.length_map _)
      have HTF : Hid ((L.map (·.bs)).take L.length = L.map (·.bs)) := Lib.hid (List.take_of_length_le (by rw [List.length_map]; exact Nat.le_refl _))
      have H8 : Hid (∀ x, x ∈ logOf (L.map (·.bs)) → x < 256) := Lib.hid (logOf_byte fun r hr => by
        obtain ⟨e, he, rfl⟩ := List.mem_map.1 hr
        exact (HQ.out.ok e he).byte)
      have hlog : (logOf (L.map (·.bs))).length ≤ 6210 := by
        have h2 := log_len (l := L.map (·.bs)) (m := 300) hs
        have h3 : (21 + 2 * 300) * (L.map (·.bs)).length ≤ 621 * 10 := Nat.mul_le_mul (by decide) (by rw [HML.out]; omega)
        omega
      have hpos : 0 < (logOf (L.map (·.bs))).length := by
        obtain ⟨r, hr⟩ : ∃ r, (L.map (·.bs))[0]? = some r := ⟨_, List.getElem?_eq_getElem (by rw [HML.out]; omega)⟩
        obtain ⟨q, hq⟩ := logOf_at hr
        have := (put_len (logOf ((L.map (·.bs)).take 0)).length r).1
        rw [hq, List.length_append, List.length_append]
        omega
      clear hS hs
      generalize hl : L.map (·.bs) = l at *
      generalize hG : logOf l = G at *
      have HG := Lib.hid hG
      have HLL := Lib.hid hl
      clear hG hl
      go_wp2_with fail
      refine HLOG.out.mono ?_
      rintro e2 W2 ⟨v1, v2, rfl, ho1, ho2, hb2⟩
      obtain ⟨Ab, cb, rfl, k1, k2, k3⟩ := own_parts ho1
      obtain ⟨Ae, ce, rfl, y1, y2, y3⟩ := own_parts ho2
      have HK3 := Lib.hid k3
      have HY3 := Lib.hid y3
      have HB2 := Lib.hid (HB1.out.trans (hb2.mono HB1.out.size))
      have y2' := y2
      unfold maxLen at y2'
      have k2' := k2
      unfold maxLen at k2'
      obtain ⟨to, hto⟩ : ∃ to : Nat, to = a % G.length := ⟨_, rfl⟩
      have htl : to < G.length := by rw [hto]; exact Nat.mod_lt _ hpos
      have e1 : (a : Int) % (G.length : Int) = (to : Int) := by rw [hto]; omega
      have e2' : Int.tmod (a : Int) (G.length : Int) = (to : Int) := by rw [Int.tmod_eq_emod_of_nonneg (by omega), e1]
      clear ho1 ho2 hb2 k3 y3 hto
      go_wp2_with fail
      go_loop [10] (fun i => ∃ j : Nat, j ≤ L.length ∧ i = .int .i64 j ∧ Hid (∀ i, i < j → (logOf (l.take (i + 1))).length ≤ to)) (fun i => L.length + 1 - (intOf i).toNat)
      case atStart => exact ⟨0, by omega, rfl, Lib.hid (by intro i hi; omega)⟩
      case round =>
        clear dl
        obtain ⟨j, hj, rfl, hW⟩ := hrel
        by_cases hjl : j < L.length
        · obtain ⟨ae, hAe, _, hce⟩ := HY3.out.place (by unfold endsOf; simp; omega)
          subst hAe
          have p1 := hce j _ (endsOf_at hjl)
          have dj : decide (j < L.length) = true := decide_eq_true hjl
          have hjt : (logOf (l.take (j + 1))).length ≤ 6210 := by
            obtain ⟨q, hq⟩ := logOf_take l (j + 1)
            have := congrArg List.length hq
            rw [HG.out, List.length_append] at this
            omega
          obtain ⟨t, ht⟩ : ∃ t, t = (logOf (l.take (j + 1))).length := ⟨_, rfl⟩
          rw [← ht] at p1 hjt
          have HTT := Lib.hid ht
          clear hce ht
          by_cases hle : t ≤ to
          · have d5 : decide (t ≤ to) = true := decide_eq_true hle
            have HW2 : Hid (∀ i, i < j + 1 → (logOf (l.take (i + 1))).length ≤ to) := Lib.hid (fun i hi => by
              by_cases hi2 : i < j
              · exact hW.out i hi2
              · obtain rfl : i = j := by omega
                rw [← HTT.out]; exact hle)
            go_wp2_with fail
            go_round
            case rel => exact ⟨j + 1, by omega, by go_num, HW2⟩
            case measure => simp [intOf]; omega
          · have d5 : decide (t ≤ to) = false := decide_eq_false hle
            obtain ⟨r, hr⟩ : ∃ r, l[j]? = some r := ⟨_, List.getElem?_eq_getElem (by rw [HML.out]; exact hjl)⟩
            have g1 : (logOf (l.take j)).length ≤ to := by
              rcases j with _ | j
              · simp [logOf]
              · exact hW.out j (Nat.lt_succ_self _)
            obtain ⟨n5', c5', hc5, hrd⟩ := rd_log_torn hr g1 (by rw [← HTT.out]; omega)
            rw [HG.out] at hrd
            have HRD := Lib.hid hrd
            have hcut := cut_to Ab G.length cb to (by omega) k1 k2
            have hcs := cut_seqs A L.length c j (by omega) hLc hLM.out
            have htk : (G.take to).length = to := by rw [List.length_take]; omega
            have hal := all_any Ab cb (G.take to) W2 (HK3.out.front (by rw [List.map_take]; exact List.take_prefix _ _)) (by omega) k2 (by omega) (fun x hx => H8.out x (List.mem_of_mem_take hx))
            rw [htk] at hal
            have HAL := Lib.hid hal
            clear hr g1 hrd hal htk hW
            go_wp2_with fail
            refine HAL.out.mono ?_
            rintro e3 W3 ⟨A5, c5, L5, n5, cl5, rfl, hs5, hr5, hb5⟩
            have e5 := hr5.det HRD.out
            simp only [Prod.mk.injEq] at e5
            obtain ⟨e6, rfl, rfl⟩ := e5
            have HB5 := Lib.hid (HB2.out.trans (hb5.mono HB2.out.size))
            have e7 : L5.map (·.bs) = (L.take j).map (·.bs) := by rw [e6, ← HLL.out, List.map_take]
            have l5 : L5.length ≤ 1000000 := by have := congrArg List.length e7; rw [List.length_map, List.length_map, List.length_take] at this; omega
            have hsm := same_any A5 A c5 c L5 (L.take j) W3 hs5 ((take_seqs (HQ.out.below HB5.out) j).up HB5.out.size) e7 l5
            rw [show (L.take j).length = j by rw [List.length_take]; omega] at hsm
            have HSM := Lib.hid hsm
            have d6 : ((cl5 : Int) != 2) = true := by rw [bne_iff_ne]; omega
            clear hs5 hr5 hb5 e6 e7 hsm
            go_wp2_with fail
            refine HSM.out.mono ?_
            rintro e4 W4 ⟨rfl, hb6⟩
            have HB6 := Lib.hid (HB5.out.trans (hb6.mono HB5.out.size))
            clear hb6
            go_wp2_with fail
            go_ret
            exact ⟨rfl, HB6.out⟩
        · exfalso
          have := hW.out (L.length - 1) (by omega)
          rw [show L.length - 1 + 1 = L.length by omega, HTF.out, HG.out] at this
          omega

set_option maxRecDepth 100000 in
theorem lifted (os : Os) (started : os.Started) (H : Type) (enc : TypeId × Value → H) :
    ReturnsInHanded {} Tryd.checked os 6 .any (fun w args => (Rows.frameTornSpec.pre enc Tryd.prog Tryd.f6 Rows.frameTornRow.domain false w args ∧ laidMetH Tryd.prog Rows.frameTornRow.laid w) ∧ sizedMet enc Tryd.prog Tryd.f6 (OpenSpec.ofChange Rows.frameTornSpec) false w args) (Rows.frameTornSpec.post enc Tryd.prog Tryd.f6 false true false false) := by
  refine lift_laid (C := Tryd.checked) Rows.frameTornRow.laid own started (by kernel_rfl) Tryd.func6
    (ChangeSpec.witness_shaped (enc := enc) (C := Tryd.checked) (os := os) (X := fun w _ => laidMetH Tryd.prog Rows.frameTornRow.laid w) false (World.laidAll Tryd.prog os Rows.frameTornRow.laid) #[.slice none 0 0, .int .i64 0] 8 (World.laidAll_os _ _ _)
      (World.shaped_of_ZipB (by kernel_rfl) (by kernel_rfl)) (by kernel_rfl) (by kernel_rfl) (by kernel_rfl)
      (by rw [MakeChecks.laidMetH_plain _ _ _ (by kernel_rfl)]; exact laidMet_laidAll _ (by kernel_rfl) (by kernel_rfl)))
    (by kernel_rfl) (by kernel_rfl) (by kernel_rfl) Tryd.underlying4 rfl ?_ ?_
  · intro ds hds
    match ds, hds with
    | [d1, d2], _ => exact ⟨rfl, rfl, rfl⟩
  · intro W base args ds p hval0 hA0 hlt _
    have hval : ∀ (j : Nat) t v, Tryd.f6.params[j]? = some t → args[j]? = some v → Value.okWide Tryd.prog W .any base t v := hval0
    have hA : DataW.TrodAll enc Tryd.prog W 0 (fun _ => true) true Tryd.f6.params.toList args.toList ds p := hA0
    rw [Tryd.params6] at hA hval
    obtain ⟨v0, vs0, d0, ds0, p0, q0, hargs, rfl, rfl, h0, r0⟩ := trodAll_cons hA
    obtain ⟨v1, vs1, d1, ds1, p1, q1, rfl, rfl, rfl, h1, r1⟩ := trodAll_cons r0
    obtain ⟨rfl, rfl, rfl⟩ := trodAll_nil r1
    obtain rfl : args = #[v0, v1] := by cases args; simp_all
    obtain ⟨A0, c0, L0, rfl, hQ0⟩ := Sq.open_seqs (hval 0 _ v0 rfl rfl) h0 (fun x hx => hlt x (by simp [hx]))
    obtain ⟨a1, rfl, rfl, rfl, w1⟩ := open_int Tryd.underlying3 (hval 1 _ v1 rfl rfl) h1
    have b1 := i64_of w1
    by_cases h : L0.length < 1 ∨ 10 < L0.length ∨ a1 < 0
    · exact walk_no A0 c0 L0 a1 W hQ0.len hQ0.cap h
    · obtain ⟨a, rfl⟩ : ∃ a : Nat, a1 = a := ⟨a1.toNat, by omega⟩
      exact walk A0 c0 L0 a W (by omega) hQ0 (by omega) (by omega)

theorem over : Rows.frameTornRow.holds Tryd.pinned (OpenSpec.ofChange Rows.frameTornSpec) :=
  OpenClaim.holds_of_wide 6 Tryd.f6 rfl rfl rfl rfl rfl rfl rfl ⟨rfl, rfl, rfl, rfl, rfl⟩ rfl rfl rfl rfl rfl (by kernel_rfl) Tryd.func6 (by kernel_rfl)
    (of_decide_eq_true (by kernel_rfl)) (by unfold Func.isWrapper; first | (rw [if_pos (by decide +kernel)]; kernel_rfl) | (rw [if_neg (by decide +kernel)]; exact ⟨rfl, rfl⟩))
    (fun os started H enc _ => lifted os started H enc)

theorem proved : Rows.FrameTornCardSaid :=
  Claim7.holds_tied_plain_at .later [] [.data, .pinned] true (true, "b23d7652dd08339ba58d021077a9801cf880c861c5214500fa8176eedb20fa22") false over (fun _ h => by cases h) (by kernel_rfl) (fun _ h => by cases h) frameTorn_row_tie rfl ⟨rfl, rfl⟩ (by kernel_rfl) rfl
    (fun f fn hf hfn => by
      obtain rfl : f = 6 := Option.some.inj ((show Tryd.prog.funcNamed Rows.frameTornRow.func = some 6 by kernel_rfl).symm.trans hf) |>.symm
      obtain rfl : fn = Tryd.f6 := (Option.some.inj (Tryd.func6.symm.trans hfn)).symm
      exact ⟨by kernel_rfl, fun j t ht => by
        rw [Tryd.params6] at ht
        have hm : t ∈ [26, 3] := by simpa using Array.mem_of_getElem? ht
        have hall : ([26, 3].all fun u => !Tryd.prog.wantsStandIn u) = true := by kernel_rfl
        exact (show Tryd.prog.wantsStandIn t = false by simpa using List.all_eq_true.1 hall t hm)⟩)
    (by kernel_rfl)
#print axioms proved
end Go.Proofs.YtkmelhgpngochaaDoor.frameTorn
