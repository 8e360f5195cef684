/- No buffer has more than the budget, nor are more full than may be, whatever is asked, and a stall ends when the eldest is gone: the law answers true for all arguments. -/
import Derived.Test.YtmnhklfljfglhaaBact
import Derived.Test.YtmnhklfljfglhaaRows
import Derived.Deep.DeepCutAuto
import Derived.Deep.CutBlock
namespace Go.Proofs.Ytmnhklfljfglhaa.buffersBudget
set_option linter.unusedVariables false
set_option linter.unusedSimpArgs false
open Go.ChangeShapes Go.WideShapes Go.ChangeAt Go.RowKit Lift Bu

theorem own : ownKnob Try.prog.godebug = none := by kernel_rfl

/-- The verdict on a call, and the state behind it. -/
def Did (W : World) (g bu mo : Nat) (n : Int) (vd : Nat) (fs : List Nat) (ac : Nat) (w : World) : Prop := Own W g bu mo fs ac w ∧ (vd = 0 ∨ vd = Bu.ask bu mo fs.length ac n.toNat)
theorem Did.add {W w : World} {g bu mo ac : Nat} {n : Int} {fs : List Nat} (h : Own W g bu mo (addF bu mo fs ac n.toNat) (addA bu mo fs ac n.toNat) w) : Did W g bu mo n (Bu.ask bu mo fs.length ac n.toNat) (addF bu mo fs ac n.toNat) (addA bu mo fs ac n.toNat) w := by
  refine ⟨h, ?_⟩
  by_cases h0 : Bu.ask bu mo fs.length ac n.toNat = 0
  · exact .inl h0
  · right
    unfold addF addA
    rw [if_neg (fun h => h0 h.1), if_neg h0]
theorem ask_three (bu mo k ac n : Nat) : Bu.ask bu mo k ac n = 0 ∨ (Bu.ask bu mo k ac n = 1 ∧ ¬ bu < n ∧ mo ≤ k) ∨ (Bu.ask bu mo k ac n = 2 ∧ bu < n) := by
  unfold Bu.ask
  split
  · exact .inr (.inr ⟨rfl, by assumption⟩)
  · split
    · rename_i h; exact .inr (.inl ⟨rfl, by assumption, h.2⟩)
    · exact .inl rfl
set_option maxRecDepth 100000 in
set_option maxHeartbeats 1600000 in
theorem walk (bu mo : Nat) (A : Option Addr) (c : Nat) (L : List Ac) (W : World) (hbu : 1 ≤ bu ∧ bu ≤ 1073741824) (hmo : 1 ≤ mo ∧ mo ≤ 100) (hL : Acts W W.heap.size A c L) (hn : L.length ≤ 100) :
    Calls Try.prog 5 #[.int .i64 (bu : Int), .int .i64 (mo : Int), .slice A L.length c] W (Yes W) := by
  obtain ⟨hb1, hb2⟩ := hbu
  obtain ⟨hm1, hm2⟩ := hmo
  have HL := Lib.hid hL
  have hlc := hL.len
  have hcm := hL.cap
  unfold maxLen at hcm
  have d1 : decide ((bu : Int) < 1) = false := decide_eq_false (by omega)
  have d2 : decide ((1073741824 : Int) < (bu : Int)) = false := decide_eq_false (by omega)
  have d3 : decide ((mo : Int) < 1) = false := decide_eq_false (by omega)
  have d4 : decide ((100 : Int) < (mo : Int)) = false := decide_eq_false (by omega)
  clear hL
  go_enter Try.func5, Try.ntmps5
  go_wp2_with fail
  refine (alive_any _).mono ?_
  rintro e W1 ⟨rfl, hb1'⟩
  have HB1 := Lib.hid hb1'
  clear hb1'
  go_wp2_with fail
  have HN := Lib.hid (new_any (bu : Int) (mo : Int) (by omega) (by omega) W1)
  rw [lim_same hb1 hb2, lim_same hm1 hm2] at HN
  refine HN.out.mono ?_
  rintro e W2 ⟨rfl, hbu, hb2'⟩
  have HT : Hid (Own W W1.heap.size bu mo [] 0 W2) := Lib.hid ⟨_, hbu, HB1.out.trans (hb2'.mono HB1.out.size), fun k hk => by rw [hk]; exact HB1.out.size⟩
  clear hbu hb2' HN d1 d2 d3 d4
  generalize W1.heap.size = g at HT ⊢
  clear HB1 W1
  go_wp2_with fail
  go_loopw [9] (fun i wr => ∃ (j ac : Nat) (fs : List Nat), j ≤ L.length ∧ i = .int .i64 (j : Int) ∧ Hid (Own W g bu mo fs ac wr)) (fun i _ => L.length + 1 - (intOf i).toNat)
  case atStart => exact ⟨0, 0, [], Nat.zero_le _, rfl, HT⟩
  case round =>
    obtain ⟨j, ac, fs, hj, rfl, ho⟩ := hrel
    by_cases hlt : j < L.length
    · obtain ⟨d, hd⟩ : ∃ d, L[j]? = some d := ⟨_, List.getElem?_eq_getElem hlt⟩
      obtain ⟨ad, p, rfl, hp, hcells⟩ := HL.out.place hd
      have hok := HL.out.ok d (List.mem_of_getElem? hd)
      have hdn := i64_of hok.w1
      have hdw := i64_of hok.w0
      have HC := Lib.hid hcells
      have hbw : Below W.heap.size W wr := by obtain ⟨S, h1, h2, h3⟩ := ho.out; exact h2
      obtain ⟨q0, q1⟩ := hcells wr hbw
      have HBW := Lib.hid hbw
      clear hbw hd hok hcells
      have HADD := Lib.hid (ho.out.add d.n hdn)
      obtain ⟨S0, hbu0, hbw0, hS0⟩ := ho.out
      have HSEAL := Lib.hid (seal_any hbu0)
      have HDONE := Lib.hid (done_any hbu0)
      have HWENT := Lib.hid (fun (w' : World) (fs' : List Nat) (ac' : Nat) (h : Went wr g S0 bu mo fs' ac' w') => own_went hbw0 hS0 h)
      clear hbu0 hbw0 hS0
      go_upto_block 2 with fail
      go_cut [10] (fun v10 wx => ∃ (vd ac' : Nat) (fs' : List Nat), v10 = .int .i64 (vd : Int) ∧ Did W g bu mo d.n vd fs' ac' wx)
      case first =>
        by_cases hw2 : d.way = 2
        · have e2 : (d.way == 2) = true := by rw [beq_iff_eq]; exact hw2
          clear hw2
          go_wp2_with fail
          refine HSEAL.out.mono ?_
          rintro e W3 ⟨rfl, hw⟩
          have HO := Lib.hid (HWENT.out _ _ _ hw)
          clear hw
          go_wp2_with fail
          go_meet
          exact ⟨0, _, _, rfl, HO.out, .inl rfl⟩
        · have e2 : (d.way == 2) = false := by rw [beq_eq_false_iff_ne]; exact hw2
          by_cases hw3 : d.way = 3
          · have e3 : (d.way == 3) = true := by rw [beq_iff_eq]; exact hw3
            clear hw2 hw3
            go_wp2_with fail
            refine HDONE.out.mono ?_
            rintro e W3 ⟨rfl, hw⟩
            have HO := Lib.hid (HWENT.out _ _ _ hw)
            clear hw
            go_wp2_with fail
            go_meet
            exact ⟨0, _, _, rfl, HO.out, .inl rfl⟩
          · have e3 : (d.way == 3) = false := by rw [beq_eq_false_iff_ne]; exact hw3
            clear hw2 hw3
            go_wp2_with fail
            refine HADD.out.mono ?_
            rintro e W3 ⟨rfl, hw⟩
            have HO := Lib.hid (Did.add hw)
            clear hw
            go_wp2_with fail
            go_meet
            exact ⟨_, _, _, rfl, HO.out⟩
      case rest =>
      obtain ⟨vd, ac1, fs1, rfl, ho1, hvd⟩ := hcut
      obtain ⟨S1, hbu1, hbw1, hS1⟩ := id ho1
      have hok1 := hbu1.ok
      have HSZ := Lib.hid (sizes_any hbu1)
      have HO1 := Lib.hid ho1
      have HVD := Lib.hid hvd
      obtain ⟨K, hK⟩ : ∃ K, K = fs1 ++ [ac1] := ⟨_, rfl⟩
      have hkl : K.length = fs1.length + 1 := by rw [hK]; simp
      have hke : ∀ x, x ∈ K → x ≤ bu := fun x hx => by
        rw [hK] at hx
        exact (List.mem_append.1 hx).elim (hok1.each x) fun h => by rw [List.mem_singleton.1 h]; exact hok1.act
      have hf1 := hok1.len
      obtain ⟨M, hM⟩ : ∃ M, M = bu * (mo + 1) := ⟨_, rfl⟩
      have hks : K.sum ≤ M := by
        rw [hM]
        refine Nat.le_trans (sum_bound hke) ?_
        rw [Nat.mul_comm]
        exact Nat.mul_le_mul_left _ (by omega)
      have hM2 : M ≤ 108447924224 := by
        rw [hM]
        exact Nat.le_trans (Nat.mul_le_mul hb2 (show mo + 1 ≤ 101 by omega)) (by decide)
      have eM : (bu : Int) * ((mo : Int) + 1) = (M : Int) := by rw [hM]; push_cast; rfl
      have HKE := Lib.hid hke
      have HKL := Lib.hid hkl
      rw [← hK] at HSZ
      have HBYT : Hid (∀ w3, Own W g bu mo fs1 ac1 w3 → Calls Try.prog (35) #[.pointer (some ⟨g, 0, none⟩)] w3 fun e w' => e = .returned (vi K.sum) ∧ w3 = w') := Lib.hid fun w3 h => by rw [hK]; exact h.bytes
      have l1 : 1 ≤ K.length := by omega
      have l2 : K.length ≤ mo + 1 := by omega
      have g1 : decide ((K.length : Int) < 1) = false := decide_eq_false (by omega)
      have g2 : decide ((mo : Int) + 1 < (K.length : Int)) = false := decide_eq_false (by omega)
      have g3 : decide (M < K.sum) = false := decide_eq_false (by omega)
      have g4 : decide ((M : Int) < (K.sum : Int)) = false := decide_eq_false (by omega)
      have HF1 := Lib.hid hf1
      clear ho1 hvd hbu1 hbw1 hS1 hok1 hK hkl hke hf1 hM HADD HSEAL HDONE HWENT
      go_wp2_with fail
      refine HSZ.out.mono ?_
      rintro e W3 ⟨v, rfl, hov, hbv⟩
      obtain ⟨Av, cv, rfl, hcv, hmv, hlv⟩ := own_parts hov
      obtain ⟨av, rfl, -, hcellv⟩ := hlv.place (by rw [List.length_map]; omega)
      have HO3 := Lib.hid (HO1.out.below hbv)
      have HCV := Lib.hid hcellv
      clear hov hbv hlv hcellv
      go_wp2_with fail
      refine (HBYT.out _ HO3.out).mono ?_
      rintro e w' ⟨rfl, rfl⟩
      go_upto_block 3 with fail
      go_cut [] (fun wx => wx = W3)
      case first =>
        go_wp2_with fail
        go_loopw [12] (fun i w4 => ∃ k : Nat, k ≤ K.length ∧ i = .int .i64 (k : Int) ∧ w4 = W3) (fun i _ => K.length + 1 - (intOf i).toNat)
        case atStart => exact ⟨0, Nat.zero_le _, rfl, rfl⟩
        case round =>
          obtain ⟨k, hk, rfl, rfl⟩ := hrel
          by_cases hkk : k < K.length
          · obtain ⟨x, hx⟩ : ∃ x, K[k]? = some x := ⟨_, List.getElem?_eq_getElem hkk⟩
            have hc1 := HCV.out k _ (by rw [List.getElem?_map, hx]; rfl)
            have hxb := HKE.out x (List.mem_of_getElem? hx)
            have x1 : decide ((x : Int) < 0) = false := decide_eq_false (by omega)
            have x2 : decide (bu < x) = false := decide_eq_false (by omega)
            have x3 : decide ((bu : Int) < (x : Int)) = false := decide_eq_false (by omega)
            clear hx
            go_wp2_with fail
            go_roundw
            case rel => exact ⟨k + 1, by omega, by go_num, trivial⟩
            case measure => simp [intOf]; omega
          · obtain rfl : k = K.length := by omega
            go_wp2_with fail
            go_meet
            rfl
      case rest =>
      subst hcut
      rcases HVD.out with h0 | h0
      · subst h0
        go_wp2_with fail
        go_roundw
        case rel => exact ⟨j + 1, _, _, by omega, by go_num, HO3⟩
        case measure => simp [intOf]; omega
      · rcases ask_three bu mo fs1.length ac1 d.n.toNat with h1 | ⟨h1, h2, h3⟩ | ⟨h1, h2⟩
        · rw [h1] at h0
          subst h0
          clear h1
          go_wp2_with fail
          go_roundw
          case rel => exact ⟨j + 1, _, _, by omega, by go_num, HO3⟩
          case measure => simp [intOf]; omega
        · rw [h1] at h0
          subst h0
          have hfl : fs1.length = mo := by have := HF1.out; omega
          have g5 : (((K.length : Int)) != (mo : Int) + 1) = false := by rw [bne_eq_false_iff_eq, HKL.out, hfl]; push_cast; rfl
          obtain ⟨S3, t1, t2, t3⟩ := HO3.out
          have HD := Lib.hid (done_any t1)
          rw [decide_eq_true (show 0 < fs1.length by omega)] at HD
          have HW3 := Lib.hid (fun (w' : World) (fs' : List Nat) (ac' : Nat) (h : Went wc g S3 bu mo fs' ac' w') => own_went t2 t3 h)
          have HASK : Hid (Bu.ask bu mo fs1.tail.length ac1 d.n.toNat = 0) := Lib.hid (ask_zero h2 (.inr (by rw [List.length_tail]; omega)))
          clear h1 h2 h3 hfl t1 t2 t3
          go_wp2_with fail
          refine HD.out.mono ?_
          rintro e W5 ⟨rfl, hw⟩
          have HO5 := Lib.hid (HW3.out _ _ _ hw)
          have HA5 := Lib.hid (HO5.out.ask d.n hdn)
          rw [HASK.out] at HA5
          obtain ⟨y0, y1⟩ := HC.out W5 (by obtain ⟨S, h1, h2, h3⟩ := HO5.out; exact h2)
          clear hw
          go_wp2_with fail
          refine HA5.out.mono ?_
          rintro e w' ⟨rfl, m, rfl⟩
          have HO6 := Lib.hid (HO5.out.below (Joins.below_draws _ W5 m))
          go_wp2_with fail
          go_roundw
          case rel => exact ⟨j + 1, _, _, by omega, by go_num, HO6⟩
          case measure => simp [intOf]; omega
        · rw [h1] at h0
          subst h0
          obtain ⟨y0, y1⟩ := HC.out wc (by obtain ⟨S, h1, h2, h3⟩ := HO3.out; exact h2)
          have g6 : decide (d.n ≤ (bu : Int)) = false := decide_eq_false (by omega)
          clear h1 h2
          go_wp2_with fail
          go_roundw
          case rel => exact ⟨j + 1, _, _, by omega, by go_num, HO3⟩
          case measure => simp [intOf]; omega
    · obtain rfl : j = L.length := by omega
      have HB : Hid (Below W.heap.size W wr) := Lib.hid (by obtain ⟨S, h1, h2, h3⟩ := ho.out; exact h2)
      go_wp2_with fail
      go_ret
      exact ⟨rfl, HB.out⟩
set_option maxRecDepth 100000 in
set_option maxHeartbeats 800000 in
theorem walk_no (a b : Int) (A : Option Addr) (n c : Nat) (W : World) (h : ¬ (n ≤ 100 ∧ 1 ≤ a ∧ a ≤ 1073741824 ∧ 1 ≤ b ∧ b ≤ 100)) (hn : n ≤ c) (hm : c ≤ maxLen) :
    Calls Try.prog 5 #[.int .i64 a, .int .i64 b, .slice A n c] W (Yes W) := by
  unfold maxLen at hm
  go_enter Try.func5, Try.ntmps5
  go_wp2_with fail
  refine (alive_any _).mono ?_
  rintro e W1 ⟨rfl, hb1'⟩
  have HB1 := Lib.hid hb1'
  clear hb1'
  by_cases h0 : 100 < n
  · have e0 : decide (100 < n) = true := decide_eq_true h0
    have e0' : (100 : Int) < (n : Int) := by omega
    clear h
    go_wp2_with fail
    go_ret
    exact ⟨rfl, HB1.out⟩
  · have e0 : decide (100 < n) = false := decide_eq_false h0
    have e0' : decide ((100 : Int) < (n : Int)) = false := decide_eq_false (by omega)
    by_cases h1 : a < 1
    · clear h
      go_wp2_with fail
      go_ret
      exact ⟨rfl, HB1.out⟩
    · have d1 : decide (a < 1) = false := decide_eq_false h1
      by_cases h2 : 1073741824 < a
      · clear h
        go_wp2_with fail
        go_ret
        exact ⟨rfl, HB1.out⟩
      · have d2 : decide (1073741824 < a) = false := decide_eq_false h2
        by_cases h3 : b < 1
        · clear h
          go_wp2_with fail
          go_ret
          exact ⟨rfl, HB1.out⟩
        · have d3 : decide (b < 1) = false := decide_eq_false h3
          have h4 : 100 < b := by omega
          clear h
          go_wp2_with fail
          go_ret
          exact ⟨rfl, HB1.out⟩

set_option maxRecDepth 100000 in
theorem lifted (os : Os) (started : os.Started) (H : Type) (enc : TypeId × Value → H) :
    ReturnsInHanded {} Try.checked os 5 .any (Rows.buffersBudgetSpec.pre6 enc Try.prog Try.f5 Rows.buffersBudgetRow.domain false) (Rows.buffersBudgetSpec.post enc Try.prog Try.f5 false true false false) := by
  refine lift_true (C := Try.checked) own started (by kernel_rfl) Try.func5
    (ChangeSpec.witness6 (enc := enc) (C := Try.checked) false ⟨#[], #[.int .i64 0, .int .i64 0, .slice none 0 0], []⟩ 8 (by kernel_rfl) (by kernel_rfl) (by kernel_rfl) (by kernel_rfl))
    (by kernel_rfl) (by kernel_rfl) (by kernel_rfl) Try.underlying4 rfl ?_ ?_
  · intro ds hds
    match ds, hds with
    | [d1, d2, d3], _ => exact ⟨rfl, rfl, rfl⟩
  · intro W base args ds p hval0 hA0 hlt _
    have hval : ∀ (j : Nat) t v, Try.f5.params[j]? = some t → args[j]? = some v → Value.okWide Try.prog W .any base t v := hval0
    have hA : DataW.TrodAll enc Try.prog W 0 (fun _ => true) true Try.f5.params.toList args.toList ds p := hA0
    rw [Try.params5] at hA hval
    obtain ⟨v0, vs0, d0, ds0, p0, q0, hargs, rfl, rfl, h0, r0⟩ := trodAll_cons hA
    obtain ⟨v1, vs1, d1, ds1, p1, q1, rfl, rfl, rfl, h1, r1⟩ := trodAll_cons r0
    obtain ⟨v2, vs2, d2, ds2, p2, q2, rfl, rfl, rfl, h2, r2⟩ := trodAll_cons r1
    obtain ⟨rfl, rfl, rfl⟩ := trodAll_nil r2
    obtain rfl : args = #[v0, v1, v2] := by cases args; simp_all
    obtain ⟨a0, rfl, rfl, rfl, w0⟩ := open_int Try.underlying3 (hval 0 _ v0 rfl rfl) h0
    have b0 := i64_of w0
    obtain ⟨a1, rfl, rfl, rfl, w1⟩ := open_int Try.underlying3 (hval 1 _ v1 rfl rfl) h1
    have b1 := i64_of w1
    obtain ⟨A2, c2, L2, rfl, hE2⟩ := Bu.open_acts (hval 2 _ v2 rfl rfl) h2 (fun x hx => hlt x (by simp [hx]))
    by_cases h : L2.length ≤ 100 ∧ 1 ≤ a0 ∧ a0 ≤ 1073741824 ∧ 1 ≤ a1 ∧ a1 ≤ 100
    · obtain ⟨b, rfl⟩ : ∃ b : Nat, a0 = (b : Int) := ⟨a0.toNat, by omega⟩
      obtain ⟨m, rfl⟩ : ∃ m : Nat, a1 = (m : Int) := ⟨a1.toNat, by omega⟩
      exact walk b m A2 c2 L2 W ⟨by omega, by omega⟩ ⟨by omega, by omega⟩ hE2 h.1
    · exact walk_no a0 a1 A2 L2.length c2 W h hE2.len hE2.cap

theorem over : Rows.buffersBudgetRow.holds Try.pinned (OpenSpec.ofChange Rows.buffersBudgetSpec) :=
  OpenClaim.holds_of_wide 5 Try.f5 rfl rfl rfl rfl rfl rfl rfl ⟨rfl, rfl, rfl, rfl, rfl⟩ rfl rfl rfl rfl rfl (by kernel_rfl) Try.func5 (by kernel_rfl)
    (of_decide_eq_true (by kernel_rfl)) (by unfold Func.isWrapper; first | (rw [if_pos (by decide +kernel)]; kernel_rfl) | (rw [if_neg (by decide +kernel)]; exact ⟨rfl, rfl⟩))
    (fun os started H enc _ => lifted os started H enc)

theorem proved : Rows.BuffersBudgetSaid :=
  over
#print axioms proved
end Go.Proofs.Ytmnhklfljfglhaa.buffersBudget
