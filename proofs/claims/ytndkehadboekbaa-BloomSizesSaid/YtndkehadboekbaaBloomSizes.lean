/- Proved: for any keys and any number of bits, BloomSizes of butterylaw12 answers true (the length of a filter and the number of bits per key are as defined), and its arguments read as before. Conditions: none beyond what the given row states. -/
import Derived.Test.YtndkehadboekbaaLlaw
import Derived.Deep.DeepCutAuto
import Derived.Deep.RegionHeld3
import Derived.Deep.QuietTactic
import Derived.BigQuiet
import Derived.LoopTactic
namespace Go.Proofs.Ytndkehadboekbaa.bloomSizes
set_option linter.unusedVariables false
set_option linter.unusedSimpArgs false
open Go.ChangeShapes Go.WideShapes Go.ChangeAt Go.RowKit Lift Bl Ik Sq

theorem own : ownKnob Try.prog.godebug = none := by kernel_rfl

theorem cnt_place (f : List Nat) (i j b : Nat) (hj : j < 8) (hb : f[i]? = some b) : cntB f (8 * i + j + 1) = cntB f (8 * i + j) + (if b.testBit j = true then 1 else 0) := by
  rw [cntB_next]
  unfold on
  rw [show (8 * i + j) / 8 = i from by omega, show (8 * i + j) % 8 = j from by omega, List.getD_eq_getElem?_getD, hb]
  rfl
set_option maxRecDepth 100000 in
set_option maxHeartbeats 3200000 in
theorem walk (A : Option Addr) (c : Nat) (L : List E) (bits' : Int) (w : World) (h1 : Seqs w w.heap.size A c L) :
    Calls Try.prog 6 #[.slice A L.length c, .int .i64 bits'] w (Bl.Yes w) := by
  have H1 := Lib.hid h1
  have hc1 := h1.len
  have hm1 := h1.cap
  unfold maxLen at hm1
  clear h1
  go_enter Try.func6, Try.ntmps6
  go_wp2_with fail
  refine (alive_any _).mono ?_
  rintro e W1 ⟨rfl, hb1⟩
  have HB1 := Lib.hid hb1
  clear hb1
  go_wp2_with fail
  refine (big_any A c _ L W1 (H1.out.below HB1.out)).mono ?_
  rintro e W2 ⟨rfl, rfl⟩
  cases hg : bigS L
  · obtain ⟨hn60, hsm⟩ := big_no hg
    clear hg hsm
    by_cases ha : bits' < 1
    · have d1 : decide (bits' < 1) = true := decide_eq_true ha
      go_wp2_with fail
      go_ret
      exact ⟨rfl, HB1.out⟩
    · have d1 : decide (bits' < 1) = false := decide_eq_false ha
      by_cases hh : 40 < bits'
      · have d3 : decide (40 < bits') = true := decide_eq_true hh
        go_wp2_with fail
        go_ret
        exact ⟨rfl, HB1.out⟩
      · have d3 : decide (40 < bits') = false := decide_eq_false hh
        obtain ⟨be, rfl⟩ : ∃ a : Nat, bits' = (a : Int) := ⟨bits'.toNat, by omega⟩
        have hcb : clampB (be : Int) = be := by unfold clampB; omega
        have b2 : be ≤ 40 := by omega
        have hbo := obloom_any A c W1.heap.size L (be : Int) W1 ((H1.out.below HB1.out).up HB1.out.size) (Nat.le_refl _) (by omega)
        rw [hcb] at hbo
        have HBO := Lib.hid hbo
        obtain ⟨p1, p2, p3⟩ := bloom_parts (L.map E.bs) be
        have hcnt := bloom_count (L.map E.bs) be
        have hki := kOf_in be
        have hlen := bloomB_len (L.map E.bs) be
        have F8 := Lib.hid (bloomB_byte (L.map E.bs) be)
        rw [List.length_map] at p2 hcnt hlen
        have hPb : L.length * be ≤ 60 * 40 := Nat.mul_le_mul hn60 b2
        obtain ⟨P, hP⟩ : ∃ P, P = L.length * be := ⟨_, rfl⟩
        have hM : mOf L.length be = (max P 64 + 7) / 8 * 8 := by unfold mOf; rw [hP]
        rw [← hP] at hPb
        have eP : (L.length : Int) * (be : Int) = (P : Int) := by rw [hP]; exact (Int.natCast_mul _ _).symm
        have hPb' : P ≤ 2400 := hPb
        clear hbo hP hcb hPb
        generalize bloomB (L.map E.bs) be = G at *
        generalize kOf be = k at *
        generalize mOf L.length be = m at *
        obtain ⟨k1, k2⟩ := hki
        obtain ⟨r, hr⟩ : ∃ r, r = m / 8 := ⟨_, rfl⟩
        rw [← hr] at hlen
        have hrm : 8 * r = m := by omega
        have hGr : G[r]? = some k := by
          have h9 : r < G.length := by omega
          have h0 : G.length - 1 = r := by omega
          rw [h0, List.getD_eq_getElem?_getD, List.getElem?_eq_getElem h9] at p1
          rw [List.getElem?_eq_getElem h9]
          exact congrArg some p1
        have hkl : k * L.length ≤ 30 * 60 := Nat.mul_le_mul k2 hn60
        obtain ⟨KL, hKL⟩ : ∃ q, q = k * L.length := ⟨_, rfl⟩
        rw [← hKL] at hcnt hkl
        have eKL : (k : Int) * (L.length : Int) = (KL : Int) := by rw [hKL]; exact (Int.natCast_mul _ _).symm
        have hkl' : KL ≤ 1800 := hkl
        have HCNT := Lib.hid hcnt
        have HRM := Lib.hid hrm
        have HMM := Lib.hid hM
        have HLEN := Lib.hid hlen
        have HGR := Lib.hid hGr
        have hmb : m ≤ 3000 := by omega
        have hrb : r ≤ 400 := by omega
        clear p1 p2 p3 hcnt hrm hM hlen hGr hKL hkl hr
        go_wp2_with fail
        refine HBO.out.mono ?_
        intro e W2 hmade
        obtain ⟨v2, rfl, ho2, hb2⟩ := hmade
        obtain ⟨A2, c2, rfl, hc2, hm2, hl2⟩ := own_parts ho2
        have HB2 := Lib.hid (HB1.out.trans (hb2.mono HB1.out.size))
        obtain ⟨ad, rfl, -, hcell⟩ := hl2.place (by rw [List.length_map]; have := HLEN.out; omega)
        have HC := Lib.hid (cells_at hcell)
        have g0 := HC.out r k HGR.out
        unfold maxLen at hm2
        rw [HLEN.out] at hc2 ⊢
        clear ho2 hb2 hl2 HBO hcell
        go_upto_if 38 with fail
        go_cut [8] (fun e8 wx => e8 = .int .i64 ((max P 64 : Nat) : Int) ∧ wx = W2)
        case first =>
          by_cases h64 : P < 64
          · have d1 : decide ((P : Int) < 64) = true := decide_eq_true (by omega)
            have d2 : decide (P < 64) = true := decide_eq_true h64
            have E1 := Lib.hid (show ((max P 64 : Nat) : Int) = 64 by omega)
            go_wp2_with fail
            go_meet
            exact ⟨by rw [E1.out], rfl⟩
          · have d1 : decide ((P : Int) < 64) = false := decide_eq_false (by omega)
            have d2 : decide (P < 64) = false := decide_eq_false h64
            have E1 := Lib.hid (show ((max P 64 : Nat) : Int) = P by omega)
            go_wp2_with fail
            go_meet
            exact ⟨by rw [E1.out], rfl⟩
        case rest =>
        obtain ⟨rfl, hw⟩ := hcut
        rw [hw]
        clear hw wc
        obtain ⟨R, hR⟩ : ∃ R, R = max P 64 := ⟨_, rfl⟩
        rw [← hR]
        have hRb : R ≤ 3000 := by omega
        have eR : ((R : Int) + 7) / 8 = (r : Int) := by have := HMM.out; have := HRM.out; rw [← hR] at *; omega
        have er : (r : Int) + 1 - 1 = (r : Int) := by omega
        clear hR
        go_wp2_with fail
        go_loop [10, 11, 12] (fun v10 v11 v12 => ∃ i : Nat, i ≤ r ∧ v10 = .int .i64 ((cntB G (8 * i) : Nat) : Int) ∧ v11 = .int .i64 (i : Int)) (fun _ i _ => r + 1 - (intOf i).toNat)
        case atStart => exact ⟨0, Nat.zero_le _, rfl, rfl⟩
        case round =>
          obtain ⟨i, hi, rfl, rfl⟩ := hrel
          by_cases hlt : i < r
          · obtain ⟨b, hb⟩ : ∃ b, G[i]? = some b := ⟨_, List.getElem?_eq_getElem (by rw [HLEN.out]; omega)⟩
            have HCB : Hid (∀ n, cntB G n ≤ n) := Lib.hid fun n => by unfold cntB; exact Nat.le_trans List.countP_le_length (by rw [List.length_range]; exact Nat.le_refl _)
            have HGB := Lib.hid hb
            have b8 := F8.out b (List.mem_of_getElem? hb)
            have g1 := HC.out i b hb
            clear hb
            go_wp2_with fail
            go_loop [10, 12] (fun v10 v12 => ∃ j : Nat, j ≤ 8 ∧ v10 = .int .i64 ((cntB G (8 * i + j) : Nat) : Int) ∧ v12 = .int .i64 (j : Int)) (fun _ j => 10 - (intOf j).toNat)
            case atStart => exact ⟨0, by omega, by rw [Nat.add_zero], rfl⟩
            case round =>
              obtain ⟨j, hj, rfl, rfl⟩ := hrel
              have hcb := HCB.out (8 * i + j)
              by_cases hjl : j < 8
              · have HNX := Lib.hid (cnt_place G i j b hjl HGB.out)
                have e8 := bit_int (z := j) b8
                obtain ⟨C, hC⟩ : ∃ C, C = cntB G (8 * i + j) := ⟨_, rfl⟩
                rw [← hC] at hcb HNX ⊢
                have hCb : C ≤ 10000 := by omega
                clear hcb hC
                cases ht : b.testBit j
                · rw [ht] at e8 HNX
                  have e10 : bits .and .u8 ((b : Int) / 2 ^ j) 1 = 0 := e8
                  have HN : Hid (cntB G (8 * i + (j + 1)) = C) := Lib.hid (by rw [← Nat.add_assoc, HNX.out]; rfl)
                  clear e8 ht HNX
                  go_wp2_with fail
                  go_round
                  case rel => exact ⟨j + 1, by omega, by rw [HN.out], by go_num⟩
                  case measure => simp [intOf]; omega
                · rw [ht] at e8 HNX
                  have e10 : bits .and .u8 ((b : Int) / 2 ^ j) 1 = 1 := e8
                  have HN : Hid (cntB G (8 * i + (j + 1)) = C + 1) := Lib.hid (by rw [← Nat.add_assoc, HNX.out]; rfl)
                  clear e8 ht HNX
                  go_wp2_with fail
                  go_round
                  case rel => exact ⟨j + 1, by omega, by rw [HN.out]; first | rfl | simp, by go_num⟩
                  case measure => simp [intOf]; omega
              · obtain rfl : j = 8 := by omega
                obtain ⟨C, hC⟩ : ∃ C, C = cntB G (8 * i + 8) := ⟨_, rfl⟩
                have HC2 := Lib.hid hC
                rw [← hC]
                clear hcb hC
                go_wp2_with fail
                go_round
                case rel => exact ⟨i + 1, by omega, by rw [Nat.mul_succ, HC2.out], by go_num⟩
                case measure => simp [intOf]; omega
          · obtain rfl : i = r := by omega
            have hle : cntB G (8 * i) ≤ KL := by rw [HRM.out]; exact HCNT.out
            generalize cntB G (8 * i) = C at *
            have d5 : decide ((C : Int) ≤ (KL : Int)) = true := decide_eq_true (by omega)
            have d6 : decide (KL < C) = false := decide_eq_false (by omega)
            have d7 : decide (C ≤ KL) = true := decide_eq_true hle
            go_wp2_with fail
            go_ret
            exact ⟨rfl, HB2.out⟩
  · go_wp2_with fail
    go_ret
    exact ⟨rfl, HB1.out⟩

set_option maxRecDepth 100000 in
theorem lifted (os : Os) (started : os.Started) (H : Type) (enc : TypeId × Value → H) :
    ReturnsInHanded {} Try.checked os 6 .any (Rows.bloomSizesSpec.pre6 enc Try.prog Try.f6 Rows.bloomSizesRow.domain false) (Rows.bloomSizesSpec.post enc Try.prog Try.f6 false true false false) := by
  refine lift_true (C := Try.checked) own started (by kernel_rfl) Try.func6
    (ChangeSpec.witness6 (enc := enc) (C := Try.checked) false ⟨#[], #[.slice none 0 0, .int .i64 0], []⟩ 8 (by kernel_rfl) (by kernel_rfl) (by kernel_rfl) (by kernel_rfl))
    (by kernel_rfl) (by kernel_rfl) (by kernel_rfl) Try.underlying4 rfl ?_ ?_
  · intro ds hds
    match ds, hds with
    | [d1, d2], _ => exact ⟨rfl, rfl, rfl⟩
  · intro W base args ds p hval0 hA0 hlt _
    have hval : ∀ (j : Nat) t v, Try.f6.params[j]? = some t → args[j]? = some v → Value.okWide Try.prog W .any base t v := hval0
    have hA : DataW.TrodAll enc Try.prog W 0 (fun _ => true) true Try.f6.params.toList args.toList ds p := hA0
    rw [Try.params6] at hA hval
    obtain ⟨v0, vs0, d0, ds0, p0, q0, hargs, rfl, rfl, h0, r0⟩ := trodAll_cons hA
    obtain ⟨v1, vs1, d1, ds1, p1, q1, rfl, rfl, rfl, h1, r1⟩ := trodAll_cons r0
    obtain ⟨rfl, rfl, rfl⟩ := trodAll_nil r1
    obtain rfl : args = #[v0, v1] := by cases args; simp_all
    obtain ⟨A0, c0, L0, rfl, hQ0⟩ := Sq.open_seqs (hval 0 _ v0 rfl rfl) h0 (fun x hx => hlt x (by simp [hx]))
    obtain ⟨a1, rfl, rfl, rfl, w1⟩ := open_int Try.underlying3 (hval 1 _ v1 rfl rfl) h1
    have b1 := i64_of w1
    exact walk A0 c0 L0 a1 W hQ0

theorem over : Rows.bloomSizesRow.holds Try.pinned (OpenSpec.ofChange Rows.bloomSizesSpec) :=
  OpenClaim.holds_of_wide 6 Try.f6 rfl rfl rfl rfl rfl rfl rfl ⟨rfl, rfl, rfl, rfl, rfl⟩ rfl rfl rfl rfl rfl (by kernel_rfl) Try.func6 (by kernel_rfl)
    (of_decide_eq_true (by kernel_rfl)) (by unfold Func.isWrapper; first | (rw [if_pos (by decide +kernel)]; kernel_rfl) | (rw [if_neg (by decide +kernel)]; exact ⟨rfl, rfl⟩))
    (fun os started H enc _ => lifted os started H enc)

theorem proved : Rows.BloomSizesSaid :=
  over
#print axioms proved
end Go.Proofs.Ytndkehadboekbaa.bloomSizes
