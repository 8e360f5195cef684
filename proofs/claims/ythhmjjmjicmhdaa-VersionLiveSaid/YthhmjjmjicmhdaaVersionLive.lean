/- Proved: for any version, VersionLive of butterylaw17 answers true (Live of package version gives the files of all runs and the log, rising, each once), and its argument reads as before. Conditions: none beyond what the given row states. -/
import Derived.Test.YthhmjjmjicmhdaaVlw
import Derived.Test.YthhmjjmjicmhdaaVli2
namespace Go.Proofs.Ythhmjjmjicmhdaa.versionLive
set_option linter.unusedVariables false
set_option linter.unusedSimpArgs false
open Go.ChangeShapes Go.WideShapes Go.ChangeAt Go.RowKit Lift Ed Ve Ik

theorem own : ownKnob Try.prog.godebug = none := by kernel_rfl

def Iffb (b : Bool) (P : Prop) : Prop := b = true ↔ P
theorem Iffb.i {b : Bool} {P : Prop} (h : Iffb b P) : b = true ↔ P := h
theorem at_lies {w : World} {B : Nat} {ad : Addr} {Z : List Int} (h : Lies w B (some ad) (Z.map vi)) {k : Nat} {z : Int} (hz : Z[k]? = some z) : w.cell? (ad.add k) = some (.int .i64 z) := by
  obtain ⟨ad', e, -, hc⟩ := h.place (by rw [List.length_map]; have := (List.getElem?_eq_some_iff.1 hz).1; omega)
  injection e with e
  subst e
  exact hc k _ (by rw [List.getElem?_map, hz]; rfl)
theorem is_some {w : World} {B : Nat} {A : Option Addr} {Z : List Int} (h : Lies w B A (Z.map vi)) {k : Nat} (hk : k < Z.length) : ∃ ad, A = some ad := by
  obtain ⟨ad', e, -, -⟩ := h.place (by rw [List.length_map]; omega)
  exact ⟨ad', e⟩
set_option maxRecDepth 100000 in
set_option maxHeartbeats 12800000 in
theorem walk (y : Y) (w : World) (hy : y.Ok w w.heap.size) : Calls Try.prog 11 #[y.v] w (Yes w) := by
  have HY := Lib.hid hy
  have hb0 := Joins.below_alloc1 w y.box
  have b0 : Box (w.alloc y.box) w.heap.size 44 y.cells := Box.new w 44 y.cells
  have b5 := Nat.le_trans hy.runs.len hy.runs.cap
  unfold maxLen at b5
  clear hy
  go_enter Try.func11, Try.ntmps11
  go_wp2_with fail
  refine (valive_any _).mono ?_
  rintro e W1 ⟨rfl, hb1⟩
  have HB1 := Lib.hid (hb0.trans (hb1.mono hb0.size))
  have HY1 := Lib.hid (HY.out.next HB1.out)
  have HBX1 := Lib.hid (b0.below hb1 b0.lt)
  have HG := Lib.hid (bigv_any y W1 HY1.out)
  clear hb0 b0 hb1
  go_wp2_with (refine wpList_load_row rfl _ _ rfl w.heap.size rfl _ y.cells.toArray (0, 0) _ HBX1.out Try.underlying44 rfl (by kernel_rfl) ?_)
  refine HG.out.mono ?_
  rintro e W2 ⟨rfl, hb2⟩
  have HB2 := Lib.hid (HB1.out.trans (hb2.mono HB1.out.size))
  have HY2 := Lib.hid (HY1.out.next hb2)
  have HBX2 := Lib.hid (HBX1.out.below hb2 HBX1.out.lt)
  obtain ⟨big, hbig⟩ : ∃ b, b = bigV y := ⟨_, rfl⟩
  rw [← hbig]
  have HBIG := Lib.hid hbig
  clear hb2 HB1 HY1 HBX1 HG hbig
  rcases big with _ | _
  case true =>
    go_wp2_with fail
    go_ret
    exact ⟨rfl, HB2.out⟩
  case false =>
    have hfew := (bigv_parts HBIG.out.symm).2
    have HL := Lib.hid (vlive_any y W2 HY2.out (by omega))
    obtain ⟨Z, hZ⟩ : ∃ Z, Z = liveV y.t := ⟨_, rfl⟩
    rw [← hZ] at HL
    have HZ := Lib.hid hZ
    have HAS : Hid (Asc Z) := Lib.hid (by rw [hZ]; exact live_asc _)
    have HFL : Hid (∀ z, z ∈ Z ↔ (∃ d, d ∈ y.runs ∧ d.file = z) ∨ (z = y.log ∧ y.log ≠ 0)) := Lib.hid fun z => by
      rw [hZ, live_mem]
      unfold fileL Y.t
      rw [List.mem_append, List.map_map, List.mem_map]
      refine or_congr (Iff.rfl) ?_
      split
      · rename_i h; simp; intro _; exact h
      · rename_i h; simp; intro _; exact h
    have hzl : Z.length ≤ 1000 := by
      rw [hZ]; exact Nat.le_trans (live_len _) (by unfold fileL Y.t; rw [List.length_append, List.length_map, List.length_map]; split <;> simp <;> omega)
    have HZL := Lib.hid hzl
    clear hZ
    go_wp2_with (refine wpList_load_row rfl _ _ rfl w.heap.size rfl _ y.cells.toArray (0, 0) _ HBX2.out Try.underlying44 rfl (by kernel_rfl) ?_)
    refine HL.out.mono ?_
    rintro e W3 ⟨A, c, rfl, how, hb3⟩
    obtain ⟨_, _, e1, hc1, hm1, hl1⟩ := own_parts how
    injection e1 with ea _ ec
    subst ea; subst ec
    have HB3 := Lib.hid (HB2.out.trans (hb3.mono HB2.out.size))
    have HY3 := Lib.hid (HY2.out.next hb3)
    have HBX3 := Lib.hid (HBX2.out.below hb3 HBX2.out.lt)
    have HLZ := Lib.hid hl1
    have HCM := Lib.hid (show Z.length ≤ c ∧ c ≤ maxLen from ⟨hc1, hm1⟩)
    unfold maxLen at hm1
    clear how hb3 hl1 HB2 HY2 HBX2 HL
    go_wp2_with fail
    go_loopw [6] (fun i wr => ∃ k : Nat, 1 ≤ k ∧ (k ≤ Z.length ∨ k = 1) ∧ i = .int .i64 (k : Int) ∧ Hid (Below W3.heap.size W3 wr)) (fun i _ => Z.length + 2 - (intOf i).toNat)
    case atStart => exact ⟨1, Nat.le_refl _, .inr rfl, rfl, Lib.hid (Below.refl _ _)⟩
    case round =>
      obtain ⟨k, hk1, hk2, rfl, HW⟩ := hrel
      by_cases hlt : k < Z.length
      · obtain ⟨j, hj⟩ : ∃ j, k = j + 1 := ⟨k - 1, by omega⟩
        obtain ⟨ad, rfl⟩ := is_some HLZ.out hlt
        obtain ⟨a, ha⟩ : ∃ a, Z[k]? = some a := ⟨_, List.getElem?_eq_getElem hlt⟩
        obtain ⟨b, hb⟩ : ∃ a, Z[j]? = some a := ⟨_, List.getElem?_eq_getElem (by omega)⟩
        have hl2 : Lies wr W3.heap.size (some ad) (Z.map vi) := HLZ.out.below HW.out
        have q1 := at_lies hl2 ha
        have q2 := at_lies hl2 hb
        have hab : b < a := by
          have h1 := List.pairwise_iff_getElem.1 HAS.out j k (by omega) hlt (by omega)
          have e1 := (List.getElem?_eq_some_iff.1 ha).2
          have e2 := (List.getElem?_eq_some_iff.1 hb).2
          rw [e1, e2] at h1
          exact h1
        have t1 : decide (a ≤ b) = false := decide_eq_false (by omega)
        have hjl : j < Z.length := by omega
        have hwj : IntKind.i64.wrap ((k : Int) - 1) = (j : Int) := by rw [IntKind.wrap_i64]; omega
        have hsj : (k : Int) - 1 = (j : Int) := by omega
        have HJ := Lib.hid hj
        clear hj
        clear hl2 ha hb hab
        go_wp2_with fail
        go_quiet (fail)
        go_wp2_with fail
        go_roundw
        case rel => exact ⟨k + 1, by omega, .inl (by omega), by go_num, Lib.hid (HW.out.trans ((Joins.below_draws _ _ _).mono HW.out.size))⟩
        case measure => simp [intOf]; omega
      · have t0 : decide (k < Z.length) = false := decide_eq_false hlt
        have t1 : decide ((k : Int) < (Z.length : Int)) = false := decide_eq_false (by omega)
        clear hk1 hk2
        go_wp2_with fail
        go_loopw [7, 8] (fun nv i wr => ∃ k : Nat, k ≤ Z.length ∧ nv = .int .i64 (k : Int) ∧ i = .int .i64 (k : Int) ∧ Hid (Below W3.heap.size W3 wr)) (fun _ i _ => Z.length + 1 - (intOf i).toNat)
        case atStart => exact ⟨0, Nat.zero_le _, rfl, rfl, HW⟩
        case round =>
          clear HW hlt t0 t1
          obtain ⟨k, hk, rfl, rfl, HW⟩ := hrel
          obtain ⟨v0, v1, v2, v3⟩ := Ve.look (HBX3.out.below HW.out HBX3.out.lt)
          by_cases hlt : k < Z.length
          · obtain ⟨ad, rfl⟩ := is_some HLZ.out hlt
            obtain ⟨z, hz⟩ : ∃ a, Z[k]? = some a := ⟨_, List.getElem?_eq_getElem hlt⟩
            have q1 := at_lies (HLZ.out.below HW.out) hz
            have HIN := Lib.hid ((HFL.out z).1 (List.mem_of_getElem? hz))
            have HZK := Lib.hid hz
            clear hz
            go_upto_region 15 with fail
            go_cut [9] (fun bv wx => ∃ b : Bool, bv = .bool b ∧ (Iffb b (z = y.log ∧ y.log ≠ 0)) ∧ Below W3.heap.size W3 wx)
            case first =>
              by_cases hz : z = y.log
              · have t2 : (z == y.log) = true := by rw [beq_iff_eq]; exact hz
                by_cases h0 : y.log = 0
                · have t3 : (y.log != 0) = false := by rw [bne_eq_false_iff_eq]; exact h0
                  have HP : Hid (Iffb false (z = y.log ∧ y.log ≠ 0)) := Lib.hid ⟨fun h => (by cases h), fun h => absurd h0 h.2⟩
                  clear hz h0
                  go_quiet (fail)
                  go_wp2_with fail
                  go_meet
                  exact ⟨false, rfl, HP.out, HW.out.trans ((Joins.below_draws _ _ _).mono HW.out.size)⟩
                · have t3 : (y.log != 0) = true := by rw [bne_iff_ne]; exact h0
                  have HP : Hid (Iffb true (z = y.log ∧ y.log ≠ 0)) := Lib.hid ⟨fun _ => ⟨hz, h0⟩, fun _ => rfl⟩
                  clear hz h0
                  go_quiet (fail)
                  go_wp2_with fail
                  go_meet
                  exact ⟨true, rfl, HP.out, HW.out.trans ((Joins.below_draws _ _ _).mono HW.out.size)⟩
              · have t2 : (z == y.log) = false := by rw [beq_eq_false_iff_ne]; exact hz
                have HP : Hid (Iffb false (z = y.log ∧ y.log ≠ 0)) := Lib.hid ⟨fun h => (by cases h), fun h => absurd h.1 hz⟩
                clear hz
                go_quiet (fail)
                go_wp2_with fail
                go_meet
                exact ⟨false, rfl, HP.out, HW.out.trans ((Joins.below_draws _ _ _).mono HW.out.size)⟩
            case rest =>
            obtain ⟨b0, rfl, hb0, hw4⟩ := hcut
            have HB0 := Lib.hid hb0
            have HW4 := Lib.hid hw4
            clear hb0 hw4 v0 v1 v2 v3 q1 HW
            go_wp2_with fail
            go_loopw [9, 10] (fun bv i wq => ∃ (b : Bool) (j : Nat), j ≤ y.runs.length ∧ bv = .bool b ∧ i = .int .i64 (j : Int) ∧ Hid (Below W3.heap.size W3 wq) ∧ Hid (Iffb b ((∃ d, d ∈ y.runs.take j ∧ d.file = z) ∨ (z = y.log ∧ y.log ≠ 0)))) (fun _ i _ => y.runs.length + 1 - (intOf i).toNat)
            case atStart => exact ⟨b0, 0, Nat.zero_le _, rfl, rfl, HW4, Lib.hid (by unfold Iffb; rw [HB0.out.i]; simp)⟩
            case round =>
              clear HW4 HB0 b0
              obtain ⟨b, j, hj, rfl, rfl, HW, HP⟩ := hrel
              obtain ⟨v0, v1, v2, v3⟩ := Ve.look (HBX3.out.below HW.out HBX3.out.lt)
              by_cases hjl : j < y.runs.length
              · obtain ⟨d, hd⟩ : ∃ d, y.runs[j]? = some d := ⟨_, List.getElem?_eq_getElem hjl⟩
                obtain ⟨ad2, p, hA, -, hpp, q0, -⟩ := (HY3.out.below HW.out).runs.place hd
                rw [hA] at v0
                have q1 := at_lies (HLZ.out.below HW.out) HZK.out
                have HD : Hid (∀ e, e ∈ y.runs.take (j + 1) ↔ e ∈ y.runs.take j ∨ e = d) := Lib.hid fun e => by rw [List.take_add_one, hd]; simp
                clear hA hd
                rcases b
                · by_cases hz : d.file = z
                  · have t2 : (d.file == z) = true := by rw [beq_iff_eq]; exact hz
                    have HP2 : Hid (Iffb true ((∃ d, d ∈ y.runs.take (j + 1) ∧ d.file = z) ∨ (z = y.log ∧ y.log ≠ 0))) := Lib.hid ⟨fun _ => .inl ⟨d, (HD.out d).2 (.inr rfl), hz⟩, fun _ => rfl⟩
                    clear hz
                    go_wp2_with fail
                    go_quiet (fail)
                    go_wp2_with fail
                    go_roundw
                    case rel => exact ⟨true, j + 1, by omega, rfl, by go_num, Lib.hid (HW.out.trans ((Joins.below_draws _ _ _).mono HW.out.size)), HP2⟩
                    case measure => simp [intOf]; omega
                  · have t2 : (d.file == z) = false := by rw [beq_eq_false_iff_ne]; exact hz
                    have HP2 : Hid (Iffb false ((∃ d, d ∈ y.runs.take (j + 1) ∧ d.file = z) ∨ (z = y.log ∧ y.log ≠ 0))) := Lib.hid (by
                      unfold Iffb
                      rw [HP.out.i]
                      constructor
                      · rintro (⟨e, he, h⟩ | h)
                        · exact .inl ⟨e, (HD.out e).2 (.inl he), h⟩
                        · exact .inr h
                      · rintro (⟨e, he, h⟩ | h)
                        · rcases (HD.out e).1 he with h2 | rfl
                          · exact .inl ⟨e, h2, h⟩
                          · exact absurd h hz
                        · exact .inr h)
                    clear hz
                    go_wp2_with fail
                    go_quiet (fail)
                    go_wp2_with fail
                    go_roundw
                    case rel => exact ⟨false, j + 1, by omega, rfl, by go_num, Lib.hid (HW.out.trans ((Joins.below_draws _ _ _).mono HW.out.size)), HP2⟩
                    case measure => simp [intOf]; omega
                · have HP2 : Hid (Iffb true ((∃ d, d ∈ y.runs.take (j + 1) ∧ d.file = z) ∨ (z = y.log ∧ y.log ≠ 0))) := Lib.hid ⟨fun _ => (HP.out.i.1 rfl).imp (fun ⟨e, he, h⟩ => ⟨e, (HD.out e).2 (.inl he), h⟩) id, fun _ => rfl⟩
                  go_wp2_with fail
                  go_quiet (fail)
                  go_wp2_with fail
                  go_roundw
                  case rel => exact ⟨true, j + 1, by omega, rfl, by go_num, Lib.hid (HW.out.trans ((Joins.below_draws _ _ _).mono HW.out.size)), HP2⟩
                  case measure => simp [intOf]; omega
              · obtain rfl : j = y.runs.length := by omega
                obtain rfl : b = true := HP.out.i.2 (by rw [List.take_length]; exact HIN.out)
                go_wp2_with fail
                go_roundw
                case rel => exact ⟨k + 1, by omega, by go_num, by go_num, HW⟩
                case measure => simp [intOf]; omega
          · obtain rfl : k = Z.length := by omega
            go_wp2_with fail
            go_loopw [11] (fun i wr => ∃ k : Nat, k ≤ y.runs.length ∧ i = .int .i64 (k : Int) ∧ Hid (Below W3.heap.size W3 wr)) (fun i _ => y.runs.length + 1 - (intOf i).toNat)
            case atStart => exact ⟨0, Nat.zero_le _, rfl, HW⟩
            case round =>
              clear HW v0 v1 v2 v3
              obtain ⟨k, hk, rfl, HW⟩ := hrel
              obtain ⟨v0, v1, v2, v3⟩ := Ve.look (HBX3.out.below HW.out HBX3.out.lt)
              by_cases hlt2 : k < y.runs.length
              · obtain ⟨d, hd⟩ : ∃ d, y.runs[k]? = some d := ⟨_, List.getElem?_eq_getElem hlt2⟩
                have HD := Lib.hid hd
                have HIN : Hid (d.file ∈ Z) := Lib.hid ((HFL.out d.file).2 (.inl ⟨d, List.mem_of_getElem? hd, rfl⟩))
                clear hd
                go_wp2_with fail
                go_loopw [12, 13] (fun bv i wq => ∃ (b : Bool) (j : Nat), j ≤ Z.length ∧ bv = .bool b ∧ i = .int .i64 (j : Int) ∧ Hid (Below W3.heap.size W3 wq) ∧ Hid (Iffb b (d.file ∈ Z.take j))) (fun _ i _ => Z.length + 1 - (intOf i).toNat)
                case atStart => exact ⟨false, 0, Nat.zero_le _, rfl, rfl, HW, Lib.hid (by unfold Iffb; simp)⟩
                case round =>
                  clear HW v0 v1 v2 v3
                  obtain ⟨b, j, hj, rfl, rfl, HW, HP⟩ := hrel
                  obtain ⟨v0, v1, v2, v3⟩ := Ve.look (HBX3.out.below HW.out HBX3.out.lt)
                  by_cases hjl : j < Z.length
                  · obtain ⟨ad2, p, hA, -, hpp, q0, -⟩ := (HY3.out.below HW.out).runs.place HD.out
                    rw [hA] at v0
                    obtain ⟨ad, rfl⟩ := is_some HLZ.out hjl
                    obtain ⟨z, hz⟩ : ∃ a, Z[j]? = some a := ⟨_, List.getElem?_eq_getElem hjl⟩
                    have q1 := at_lies (HLZ.out.below HW.out) hz
                    have HM : Hid (d.file ∈ Z.take (j + 1) ↔ d.file ∈ Z.take j ∨ d.file = z) := Lib.hid (take_mem hz)
                    clear hA hz
                    rcases b
                    · by_cases he : z = d.file
                      · have t2 : (z == d.file) = true := by rw [beq_iff_eq]; exact he
                        have HP2 : Hid (Iffb true (d.file ∈ Z.take (j + 1))) := Lib.hid ⟨fun _ => HM.out.2 (.inr he.symm), fun _ => rfl⟩
                        clear he
                        go_wp2_with fail
                        go_quiet (fail)
                        go_wp2_with fail
                        go_roundw
                        case rel => exact ⟨true, j + 1, by omega, rfl, by go_num, Lib.hid (HW.out.trans ((Joins.below_draws _ _ _).mono HW.out.size)), HP2⟩
                        case measure => simp [intOf]; omega
                      · have t2 : (z == d.file) = false := by rw [beq_eq_false_iff_ne]; exact he
                        have HP2 : Hid (Iffb false (d.file ∈ Z.take (j + 1))) := Lib.hid (by
                          unfold Iffb
                          rw [HP.out.i, HM.out]
                          exact ⟨.inl, fun h => h.elim id fun h => absurd h.symm he⟩)
                        clear he
                        go_wp2_with fail
                        go_quiet (fail)
                        go_wp2_with fail
                        go_roundw
                        case rel => exact ⟨false, j + 1, by omega, rfl, by go_num, Lib.hid (HW.out.trans ((Joins.below_draws _ _ _).mono HW.out.size)), HP2⟩
                        case measure => simp [intOf]; omega
                    · have HP2 : Hid (Iffb true (d.file ∈ Z.take (j + 1))) := Lib.hid ⟨fun _ => HM.out.2 (.inl (HP.out.i.1 rfl)), fun _ => rfl⟩
                      go_wp2_with fail
                      go_quiet (fail)
                      go_wp2_with fail
                      go_roundw
                      case rel => exact ⟨true, j + 1, by omega, rfl, by go_num, Lib.hid (HW.out.trans ((Joins.below_draws _ _ _).mono HW.out.size)), HP2⟩
                      case measure => simp [intOf]; omega
                  · obtain rfl : j = Z.length := by omega
                    obtain rfl : b = true := HP.out.i.2 (by rw [List.take_length]; exact HIN.out)
                    go_wp2_with fail
                    go_roundw
                    case rel => exact ⟨k + 1, by omega, by go_num, HW⟩
                    case measure => simp [intOf]; omega
              · obtain rfl : k = y.runs.length := by omega
                have n1 : ((Z.length : Int) == (Z.length : Int)) = true := by simp
                have n2 : (Z.length == Z.length) = true := by simp
                by_cases h0 : y.log = 0
                · have t3 : (y.log == 0) = true := by rw [beq_iff_eq]; exact h0
                  clear h0
                  go_wp2_with fail
                  go_ret
                  exact ⟨rfl, HB3.out.trans (HW.out.mono HB3.out.size)⟩
                · have t3 : (y.log == 0) = false := by rw [beq_eq_false_iff_ne]; exact h0
                  clear h0
                  have HR := Lib.hid (rlive_any y wr (HY3.out.next HW.out) (by omega))
                  rw [← HZ.out] at HR
                  go_wp2_with fail
                  refine HR.out.mono ?_
                  rintro e W5 ⟨A5, c5, rfl, how5, hb5⟩
                  have hl5 := Lies.of_own how5
                  have HB5 := Lib.hid (HB3.out.trans ((HW.out.trans (hb5.mono HW.out.size)).mono HB3.out.size))
                  have HSI := Lib.hid (same_ints (c := c) (c' := c5) ((HLZ.out.below HW.out).below (hb5.mono HW.out.size)) hl5 (Nat.le_trans HZL.out (by decide)))
                  clear how5 hb5 hl5 HR
                  go_wp2_with fail
                  refine HSI.out.mono ?_
                  rintro e W6 ⟨rfl, hb6⟩
                  have HB6 := Lib.hid (HB5.out.trans (hb6.mono HB5.out.size))
                  clear hb6
                  go_wp2_with fail
                  go_ret
                  exact ⟨rfl, HB6.out⟩

set_option maxRecDepth 100000 in
theorem lifted (os : Os) (started : os.Started) (H : Type) (enc : TypeId × Value → H) :
    ReturnsInHanded {} Try.checked os 11 .any (Rows.versionLiveSpec.pre6 enc Try.prog Try.f11 Rows.versionLiveRow.domain false) (Rows.versionLiveSpec.post enc Try.prog Try.f11 false true false false) := by
  refine lift_true (C := Try.checked) own started (by kernel_rfl) Try.func11
    (ChangeSpec.witness6 (enc := enc) (C := Try.checked) false ⟨#[], #[.agg #[.slice none 0 0, .int .i64 0, .int .i64 0, .int .u64 0]], []⟩ 8 (by kernel_rfl) (by kernel_rfl) (by kernel_rfl) (by kernel_rfl))
    (by kernel_rfl) (by kernel_rfl) (by kernel_rfl) Try.underlying4 rfl ?_ ?_
  · intro ds hds
    match ds, hds with
    | [d1], _ => exact ⟨rfl, rfl, rfl⟩
  · intro W base args ds p hval0 hA0 hlt _
    have hval : ∀ (j : Nat) t v, Try.f11.params[j]? = some t → args[j]? = some v → Value.okWide Try.prog W .any base t v := hval0
    have hA : DataW.TrodAll enc Try.prog W 0 (fun _ => true) true Try.f11.params.toList args.toList ds p := hA0
    rw [Try.params11] at hA hval
    obtain ⟨v0, vs0, d0, ds0, p0, q0, hargs, rfl, rfl, h0, r0⟩ := trodAll_cons hA
    obtain ⟨rfl, rfl, rfl⟩ := trodAll_nil r0
    obtain rfl : args = #[v0] := by cases args; simp_all
    obtain ⟨Y0, rfl, hY0⟩ := Ve.open_version (hval 0 _ v0 rfl rfl) h0 (fun x hx => hlt x (by simp [hx]))
    exact walk Y0 W hY0

theorem over : Rows.versionLiveRow.holds Try.pinned (OpenSpec.ofChange Rows.versionLiveSpec) :=
  OpenClaim.holds_of_wide 11 Try.f11 rfl rfl rfl rfl rfl rfl rfl ⟨rfl, rfl, rfl, rfl, rfl⟩ rfl rfl rfl rfl rfl (by kernel_rfl) Try.func11 (by kernel_rfl)
    (of_decide_eq_true (by kernel_rfl)) (by unfold Func.isWrapper; first | (rw [if_pos (by decide +kernel)]; kernel_rfl) | (rw [if_neg (by decide +kernel)]; exact ⟨rfl, rfl⟩))
    (fun os started H enc _ => lifted os started H enc)

theorem proved : Rows.VersionLiveSaid :=
  over
#print axioms proved
end Go.Proofs.Ythhmjjmjicmhdaa.versionLive
