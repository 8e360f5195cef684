/- The document's own: files, RightEdit. -/
import Derived.Test.YthhmjjmjicmhdaaErr
namespace Go.Proofs.Ythhmjjmjicmhdaa.Ed
set_option linter.unusedVariables false
set_option linter.unusedSimpArgs false
open Go.RowKit Lift Ik
set_option maxRecDepth 100000 in
set_option maxHeartbeats 1600000 in
theorem files_any (A : Option Addr) (c B : Nat) (L : List D) (w : World) (hL : Runs w B A c L) (hn : L.length ≤ 1000) (hB : B ≤ w.heap.size) :
    Calls Try.prog 38 #[.slice A L.length c] w fun e w' => ∃ A2 c2, e = .returned (.slice A2 L.length c2) ∧ w'.ownsRow w.heap.size 3 1 (.slice A2 L.length c2) L.length ((L.map (·.file)).map vi) ∧ Below w.heap.size w w' := by
  have HL := Lib.hid hL
  clear hL
  go_enter Try.func38, Try.ntmps38
  go_wp2_with fail
  go_loopw [3, 4] (fun v i wr => ∃ k : Nat, k ≤ L.length ∧ i = .int .i64 (k : Int) ∧ Hid (wr.ownsRow w.heap.size 3 1 v k (((L.take k).map (·.file)).map vi)) ∧ Hid (Below w.heap.size w wr)) (fun _ i _ => L.length + 1 - (intOf i).toNat)
  case atStart => exact ⟨0, Nat.zero_le _, rfl, Lib.hid (World.ownsRow_nil _ _ _ _), Lib.hid (Below.refl _ _)⟩
  case round =>
    obtain ⟨k, hk, rfl, ho, hb⟩ := hrel
    by_cases hlt : k < L.length
    · obtain ⟨d, hd⟩ : ∃ d, L[k]? = some d := ⟨_, List.getElem?_eq_getElem hlt⟩
      obtain ⟨ad, p, rfl, hpb, hpp, q0, -⟩ := (HL.out.below (hb.out.mono hB)).place hd
      obtain ⟨v', w1, hrun, hown1, hb1, hs1⟩ := run_append_one (P := Try.prog) (u := .int .i64 d.file) 23 23 3 (.int .i64 0) 8 Try.underlying23 (by kernel_rfl) rfl rfl ho.out (by unfold maxLen; omega) (by omega) hb.out.size
      have HO1 : Hid (w1.ownsRow w.heap.size 3 1 v' (k + 1) (((L.take (k + 1)).map (·.file)).map vi)) := Lib.hid (by
        rw [List.take_add_one, hd]
        simpa using hown1)
      have HB1 := Lib.hid (hb.out.trans hb1)
      have HR1 := Lib.hid hrun
      clear hd hrun hown1 hb1 ho
      go_wp2_with (at_builtin; refine wpList_append_run rfl _ _ 23 rfl rfl rfl HR1.out ?_)
      go_roundw
      case rel => exact ⟨k + 1, by omega, by go_num, HO1, HB1⟩
      case measure => simp [intOf]; omega
    · obtain rfl : k = L.length := by omega
      have HO1 := ho.out
      rw [List.take_length] at HO1
      obtain ⟨A2, c2, rfl, -, -, -⟩ := own_parts HO1
      have HO2 := Lib.hid HO1
      clear HO1 ho
      go_wp2_with fail
      go_ret
      exact ⟨A2, c2, rfl, HO2.out, hb.out⟩
set_option maxRecDepth 100000 in
set_option maxHeartbeats 25600000 in
theorem rright_any (x : X) (B : Nat) (w : World) (hx : x.Ok w B) (hB : B ≤ w.heap.size) :
    Calls Try.prog 15 #[x.v] w fun e w' => e = .returned (.bool (right x.e)) ∧ Below w.heap.size w w' := by
  have b1 := i64_of hx.wn
  have b2 := i64_of hx.wl
  have b4 := hx.sq
  have b5 := Nat.le_trans hx.add.len hx.add.cap
  have b6 := Nat.le_trans hx.dc hx.dm
  have HB0 := Lib.hid (Joins.below_alloc1 w (.cells #[.slice x.addA x.add.length x.addC, .slice x.dropA x.drop.length x.dropC, .int .i64 x.next, .int .i64 x.log, .int .u64 (x.seq : Int)] 26))
  have HBX : Hid (Box (w.alloc (.cells #[.slice x.addA x.add.length x.addC, .slice x.dropA x.drop.length x.dropC, .int .i64 x.next, .int .i64 x.log, .int .u64 (x.seq : Int)] 26)) w.heap.size 26 [.slice x.addA x.add.length x.addC, .slice x.dropA x.drop.length x.dropC, .int .i64 x.next, .int .i64 x.log, .int .u64 (x.seq : Int)]) := Lib.hid (Box.new w 26 [.slice x.addA x.add.length x.addC, .slice x.dropA x.drop.length x.dropC, .int .i64 x.next, .int .i64 x.log, .int .u64 (x.seq : Int)])
  have HX1 := Lib.hid (hx.below (HB0.out.mono hB))
  clear hx
  unfold maxLen at b5 b6
  go_enter Try.func15, Try.ntmps15
  by_cases h0 : 100 < (x.add.length : Int)
  · have t0 : decide (100 < (x.add.length : Int)) = true := decide_eq_true h0
    have s0 : decide (100 < x.add.length) = true := decide_eq_true (by omega)
    have HY : Hid (right x.e = false) := Lib.hid (Bool.eq_false_iff.2 fun h => by have h := right_parts h; unfold okN X.e at h; simp only [decide_eq_true_eq, List.length_map] at h; omega)
    clear h0
    go_wp2_with fail
    go_ret
    exact ⟨by rw [HY.out]; rfl, HB0.out⟩
  · have t0 : decide (100 < (x.add.length : Int)) = false := decide_eq_false h0
    have s0 : decide (100 < x.add.length) = false := decide_eq_false (by omega)
    by_cases h1 : 100 < (x.drop.length : Int)
    · have t1 : decide (100 < (x.drop.length : Int)) = true := decide_eq_true h1
      have s1 : decide (100 < x.drop.length) = true := decide_eq_true (by omega)
      have HY : Hid (right x.e = false) := Lib.hid (Bool.eq_false_iff.2 fun h => by have h := right_parts h; unfold okN X.e at h; simp only [decide_eq_true_eq, List.length_map] at h; omega)
      clear h0 h1
      go_wp2_with fail
      go_ret
      exact ⟨by rw [HY.out]; rfl, HB0.out⟩
    · have t1 : decide (100 < (x.drop.length : Int)) = false := decide_eq_false h1
      have s1 : decide (100 < x.drop.length) = false := decide_eq_false (by omega)
      by_cases h2 : x.next < 0
      · have t2 : decide (x.next < 0) = true := decide_eq_true h2
        have HY : Hid (right x.e = false) := Lib.hid (Bool.eq_false_iff.2 fun h => by have h := right_parts h; unfold okN X.e at h; simp only [decide_eq_true_eq, List.length_map] at h; omega)
        clear h0 h1 h2
        go_wp2_with fail
        go_ret
        exact ⟨by rw [HY.out]; rfl, HB0.out⟩
      · have t2 : decide (x.next < 0) = false := decide_eq_false h2
        by_cases h3 : 1099511627776 < x.next
        · have t3 : decide (1099511627776 < x.next) = true := decide_eq_true h3
          have HY : Hid (right x.e = false) := Lib.hid (Bool.eq_false_iff.2 fun h => by have h := right_parts h; unfold okN X.e at h; simp only [decide_eq_true_eq, List.length_map] at h; omega)
          clear h0 h1 h2 h3
          go_wp2_with fail
          go_ret
          exact ⟨by rw [HY.out]; rfl, HB0.out⟩
        · have t3 : decide (1099511627776 < x.next) = false := decide_eq_false h3
          by_cases h4 : x.log < 0
          · have t4 : decide (x.log < 0) = true := decide_eq_true h4
            have HY : Hid (right x.e = false) := Lib.hid (Bool.eq_false_iff.2 fun h => by have h := right_parts h; unfold okN X.e at h; simp only [decide_eq_true_eq, List.length_map] at h; omega)
            clear h0 h1 h2 h3 h4
            go_wp2_with fail
            go_ret
            exact ⟨by rw [HY.out]; rfl, HB0.out⟩
          · have t4 : decide (x.log < 0) = false := decide_eq_false h4
            by_cases h5 : 1099511627776 < x.log
            · have t5 : decide (1099511627776 < x.log) = true := decide_eq_true h5
              have HY : Hid (right x.e = false) := Lib.hid (Bool.eq_false_iff.2 fun h => by have h := right_parts h; unfold okN X.e at h; simp only [decide_eq_true_eq, List.length_map] at h; omega)
              clear h0 h1 h2 h3 h4 h5
              go_wp2_with fail
              go_ret
              exact ⟨by rw [HY.out]; rfl, HB0.out⟩
            · have t5 : decide (1099511627776 < x.log) = false := decide_eq_false h5
              by_cases h6 : 72057594037927935 < (x.seq : Int)
              · have t6 : decide (72057594037927935 < (x.seq : Int)) = true := decide_eq_true h6
                have s6 : decide (72057594037927935 < x.seq) = true := decide_eq_true (by omega)
                have HY : Hid (right x.e = false) := Lib.hid (Bool.eq_false_iff.2 fun h => by have h := right_parts h; unfold okN X.e at h; simp only [decide_eq_true_eq, List.length_map] at h; omega)
                clear h0 h1 h2 h3 h4 h5 h6
                go_wp2_with fail
                go_ret
                exact ⟨by rw [HY.out]; rfl, HB0.out⟩
              · have t6 : decide (72057594037927935 < (x.seq : Int)) = false := decide_eq_false h6
                have s6 : decide (72057594037927935 < x.seq) = false := decide_eq_false (by omega)
                have hadd : x.add.length ≤ 100 := by omega
                have hdrop : x.drop.length ≤ 100 := by omega
                have HNUM : Hid (okN x.next = true ∧ okN x.log = true ∧ x.seq ≤ 72057594037927935) := Lib.hid ⟨decide_eq_true ⟨by omega, by omega⟩, decide_eq_true ⟨by omega, by omega⟩, by omega⟩
                clear h0 h1 h2 h3 h4 h5 h6
                go_wp2_with fail
                refine (files_any x.addA x.addC B x.add _ HX1.out.add (by omega) (Nat.le_trans hB HB0.out.size)).mono ?_
                rintro e W2 ⟨A2, c2, rfl, how2, hb2⟩
                obtain ⟨A2', c2', hv2, hc2, hm2, hl2⟩ := own_parts how2
                injection hv2 with hA2 _ hcc2
                subst hA2; subst hcc2
                have HB2 := Lib.hid (HB0.out.trans (hb2.mono HB0.out.size))
                have HL2 := Lib.hid hl2
                have HX2 := Lib.hid (HX1.out.below (hb2.mono (Nat.le_trans hB HB0.out.size)))
                have HBX2 := Lib.hid (HBX.out.below hb2 HBX.out.lt)
                clear how2 hb2 hl2
                have HON := once_any (x.add.map (·.file)) A2 c2 _ W2 HL2.out (by rw [List.length_map]; omega) (by rw [List.length_map]; exact hc2) hm2
                rw [List.length_map] at HON
                obtain ⟨b7, hb7⟩ : ∃ b, b = decide (x.add.map (·.file)).Nodup := ⟨_, rfl⟩
                rw [← hb7] at HON
                have HB7 := Lib.hid hb7
                have HONE := Lib.hid HON
                clear HON hb7
                go_wp2_with fail
                refine HONE.out.mono ?_
                rintro e W3 ⟨rfl, m3, rfl⟩
                have HB3 := Lib.hid (HB2.out.trans ((Joins.below_draws _ W2 m3).mono HB2.out.size))
                have HX3 : Hid (x.Ok (W2.drewN m3) B) := Lib.hid (HX2.out.below ((Joins.below_draws _ W2 m3).mono (Nat.le_trans hB HB2.out.size)))
                have HBX3 : Hid (Box (W2.drewN m3) w.heap.size 26 [.slice x.addA x.add.length x.addC, .slice x.dropA x.drop.length x.dropC, .int .i64 x.next, .int .i64 x.log, .int .u64 (x.seq : Int)]) := Lib.hid (HBX2.out.below (Joins.below_draws _ W2 m3) HBX2.out.lt)
                clear HX2 HBX2 HB2 HL2 HONE
                generalize W2.drewN m3 = W4 at HB3 HX3 HBX3 ⊢
                clear W2
                rcases b7
                · have HY : Hid (right x.e = false) := Lib.hid (Bool.eq_false_iff.2 fun h => by have h := (right_parts h).2.2.2.2.2.1; have h2 := of_decide_eq_false HB7.out.symm; unfold X.e at h; rw [List.map_map] at h; exact h2 h)
                  go_wp2_with fail
                  go_ret
                  exact ⟨by rw [HY.out]; rfl, HB3.out⟩
                · have hp1 := HBX3.out.cell 1
                  simp only [List.getElem?_cons_succ, List.getElem?_cons_zero] at hp1
                  have HON := once_any x.drop x.dropA x.dropC B W4 HX3.out.dl (by omega) HX3.out.dc HX3.out.dm
                  obtain ⟨b8, hb8⟩ : ∃ b, b = decide x.drop.Nodup := ⟨_, rfl⟩
                  rw [← hb8] at HON
                  have HB8 := Lib.hid hb8
                  have HONE := Lib.hid HON
                  clear HON hb8
                  go_wp2_with fail
                  refine HONE.out.mono ?_
                  rintro e W5 ⟨rfl, m5, rfl⟩
                  have HB5 := Lib.hid (HB3.out.trans ((Joins.below_draws _ W4 m5).mono HB3.out.size))
                  have HX5 : Hid (x.Ok (W4.drewN m5) B) := Lib.hid (HX3.out.below ((Joins.below_draws _ W4 m5).mono (Nat.le_trans hB HB3.out.size)))
                  have HBX5 : Hid (Box (W4.drewN m5) w.heap.size 26 [.slice x.addA x.add.length x.addC, .slice x.dropA x.drop.length x.dropC, .int .i64 x.next, .int .i64 x.log, .int .u64 (x.seq : Int)]) := Lib.hid (HBX3.out.below (Joins.below_draws _ W4 m5) HBX3.out.lt)
                  clear HX3 HBX3 HB3 HONE hp1
                  generalize W4.drewN m5 = W6 at HB5 HX5 HBX5 ⊢
                  clear W4
                  rcases b8
                  · have HY : Hid (right x.e = false) := Lib.hid (Bool.eq_false_iff.2 fun h => by have h := (right_parts h).2.2.2.2.2.2.1; have h2 := of_decide_eq_false HB8.out.symm; exact h2 h)
                    go_wp2_with fail
                    go_ret
                    exact ⟨by rw [HY.out]; rfl, HB5.out⟩
                  · go_wp2_with fail
                    go_loopw [3] (fun i wr => ∃ k : Nat, k ≤ x.add.length ∧ i = .int .i64 (k : Int) ∧ Hid (Below w.heap.size w wr ∧ x.Ok wr B ∧ Box wr w.heap.size 26 [.slice x.addA x.add.length x.addC, .slice x.dropA x.drop.length x.dropC, .int .i64 x.next, .int .i64 x.log, .int .u64 (x.seq : Int)]) ∧ Hid (∀ d, d ∈ x.add.take k → okR d.ru = true)) (fun i _ => x.add.length + 1 - (intOf i).toNat)
                    case atStart => exact ⟨0, Nat.zero_le _, rfl, Lib.hid ⟨HB5.out, HX5.out, HBX5.out⟩, Lib.hid fun d hd => by simp at hd⟩
                    case round =>
                      obtain ⟨k, hk, rfl, hin, hall⟩ := hrel
                      have hp0 := hin.out.2.2.cell 0
                      simp only [List.getElem?_cons_zero] at hp0
                      by_cases hlt : k < x.add.length
                      · obtain ⟨d, hd⟩ : ∃ d, x.add[k]? = some d := ⟨_, List.getElem?_eq_getElem hlt⟩
                        obtain ⟨ad, p, hA, -, hpp, q0, q1, q2, q3, q4, q5⟩ := hin.out.2.1.add.place hd
                        have HD := Lib.hid hd
                        rw [hA] at hp0
                        clear hA
                        have HRR := Lib.hid (rrun_any d B wr (hin.out.2.1.add.ok d (List.mem_of_getElem? hd)) (Nat.le_trans hB hin.out.1.size))
                        obtain ⟨b, hb⟩ : ∃ b, b = okR d.ru := ⟨_, rfl⟩
                        rw [← hb] at HRR
                        have HBB := Lib.hid hb
                        clear hd hb
                        go_wp2_with fail
                        refine HRR.out.mono ?_
                        rintro e W7 ⟨rfl, hb7⟩
                        have HIN : Hid (Below w.heap.size w W7 ∧ x.Ok W7 B ∧ Box W7 w.heap.size 26 [.slice x.addA x.add.length x.addC, .slice x.dropA x.drop.length x.dropC, .int .i64 x.next, .int .i64 x.log, .int .u64 (x.seq : Int)]) := Lib.hid ⟨hin.out.1.trans (hb7.mono hin.out.1.size), hin.out.2.1.below (hb7.mono (Nat.le_trans hB hin.out.1.size)), hin.out.2.2.below hb7 hin.out.2.2.lt⟩
                        clear hb7
                        rcases b
                        · have HY : Hid (right x.e = false) := Lib.hid (Bool.eq_false_iff.2 fun h => by
                            have h := (right_parts h).2.2.2.2.2.2.2.1 d.ru (List.mem_map_of_mem (List.mem_of_getElem? HD.out))
                            rw [← HBB.out] at h; cases h)
                          go_wp2_with fail
                          go_ret
                          exact ⟨by rw [HY.out]; rfl, HIN.out.1⟩
                        · go_wp2_with fail
                          go_roundw
                          case rel => exact ⟨k + 1, by omega, by go_num, HIN, Lib.hid fun d' hd' => by
                            rw [List.take_add_one, HD.out] at hd'
                            rcases List.mem_append.1 hd' with h | h
                            · exact hall.out d' h
                            · have : d' = d := by simpa using h
                              rw [this]; exact HBB.out.symm⟩
                          case measure => simp [intOf]; omega
                      · obtain rfl : k = x.add.length := by omega
                        go_wp2_with fail
                        go_loopw [4] (fun i wq => ∃ k : Nat, k ≤ x.drop.length ∧ i = .int .i64 (k : Int) ∧ Hid (Below w.heap.size w wq ∧ x.Ok wq B ∧ Box wq w.heap.size 26 [.slice x.addA x.add.length x.addC, .slice x.dropA x.drop.length x.dropC, .int .i64 x.next, .int .i64 x.log, .int .u64 (x.seq : Int)]) ∧ Hid (∀ n, n ∈ x.drop.take k → okF n = true)) (fun i _ => x.drop.length + 1 - (intOf i).toNat)
                        case atStart => exact ⟨0, Nat.zero_le _, rfl, hin, Lib.hid fun d hd => by simp at hd⟩
                        case round =>
                          obtain ⟨k, hk, rfl, hin, hdr⟩ := hrel
                          have hp1 := hin.out.2.2.cell 1
                          simp only [List.getElem?_cons_succ, List.getElem?_cons_zero] at hp1
                          by_cases hlt : k < x.drop.length
                          · obtain ⟨z, hz⟩ : ∃ z, x.drop[k]? = some z := ⟨_, List.getElem?_eq_getElem hlt⟩
                            obtain ⟨ad, hA, -, hc⟩ := hin.out.2.1.dl.place (by rw [List.length_map]; omega)
                            have hc1 := hc k _ (by rw [List.getElem?_map, hz]; rfl)
                            have HZ := Lib.hid hz
                            rw [hA] at hp1
                            clear hA
                            have hwz := i64_of (hin.out.2.1.dw z (List.mem_of_getElem? hz))
                            clear hc hz
                            by_cases z1 : z < 1
                            · have t1 : decide (z < 1) = true := decide_eq_true z1
                              have HY : Hid (right x.e = false) := Lib.hid (Bool.eq_false_iff.2 fun h => by
                                have h := of_decide_eq_true ((right_parts h).2.2.2.2.2.2.2.2 z (List.mem_of_getElem? HZ.out)); omega)
                              clear z1
                              go_wp2_with fail
                              go_ret
                              exact ⟨by rw [HY.out]; rfl, hin.out.1⟩
                            · have t1 : decide (z < 1) = false := decide_eq_false z1
                              by_cases z2 : 1099511627776 < z
                              · have t2 : decide (1099511627776 < z) = true := decide_eq_true z2
                                have HY : Hid (right x.e = false) := Lib.hid (Bool.eq_false_iff.2 fun h => by
                                  have h := of_decide_eq_true ((right_parts h).2.2.2.2.2.2.2.2 z (List.mem_of_getElem? HZ.out)); omega)
                                clear z1 z2
                                go_wp2_with fail
                                go_ret
                                exact ⟨by rw [HY.out]; rfl, hin.out.1⟩
                              · have t2 : decide (1099511627776 < z) = false := decide_eq_false z2
                                have HOK : Hid (okF z = true) := Lib.hid (decide_eq_true ⟨by omega, by omega⟩)
                                clear z1 z2
                                go_wp2_with fail
                                go_roundw
                                case rel => exact ⟨k + 1, by omega, by go_num, hin, Lib.hid fun n hn => ((take_mem HZ.out).1 hn).elim (hdr.out n) fun h => by rw [h]; exact HOK.out⟩
                                case measure => simp [intOf]; omega
                          · obtain rfl : k = x.drop.length := by omega
                            have HY : Hid (right x.e = true) := Lib.hid (by
                              have h1 := hall.out
                              have h2 := hdr.out
                              rw [List.take_length] at h1 h2
                              unfold right X.e
                              simp only [Bool.and_eq_true, decide_eq_true_eq, List.all_eq_true, List.length_map, List.map_map]
                              refine ⟨hadd, hdrop, HNUM.out.1, HNUM.out.2.1, HNUM.out.2.2, of_decide_eq_true HB7.out.symm, of_decide_eq_true HB8.out.symm, fun r hr => ?_, h2⟩
                              obtain ⟨d, hd, rfl⟩ := List.mem_map.1 hr
                              exact h1 d hd)
                            go_wp2_with fail
                            go_ret
                            exact ⟨by rw [HY.out]; rfl, hin.out.1⟩
end Go.Proofs.Ythhmjjmjicmhdaa.Ed
