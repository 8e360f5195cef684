/- The document's hash. -/
import Derived.Test.YtndkehadboekbaaLm
import Derived.Test.YtndkehadboekbaaByt
import Derived.Test.YtndkehadboekbaaOwn
import Derived.Laws.BitsAllLaws
import Derived.Deep.RegionHeld3
import Derived.Deep.QuietTactic
import Derived.BigQuiet
import Derived.LoopTactic
import Derived.Deep.DeepCutAuto
namespace Go.Proofs.Ytndkehadboekbaa.Bl
set_option linter.unusedVariables false
set_option linter.unusedSimpArgs false
open Go.RowKit Lift Ik
theorem fnv_int {H d : Nat} (hH : H < 4294967296) (hd : d < 256) : IntKind.u32.wrap (bits .xor .u32 (H : Int) (d : Int) * 16777619) = ((fnv H d : Nat) : Int) := by
  rw [u32_xor_nat H d hH (by omega), IntKind.wrap_u32]
  unfold fnv
  generalize H ^^^ d = x
  omega
theorem rot_int {h : Nat} (hh : h < 4294967296) : bits .or .u32 ((h : Int) / 131072) ((h : Int) * 32768 % 4294967296) = ((rot h : Nat) : Int) := by
  have e1 : (h : Int) / 131072 = ((h / 131072 : Nat) : Int) := by omega
  have e2 : (h : Int) * 32768 % 4294967296 = ((h * 32768 % 4294967296 : Nat) : Int) := by omega
  rw [e1, e2, u32_or_nat _ _ (by omega) (by omega)]
  rfl
theorem bit_int {b z : Nat} (hb : b < 256) : bits .and .u8 ((b : Int) / 2 ^ z) 1 = ((if b.testBit z = true then 1 else 0 : Nat) : Int) := by
  have e1 : (b : Int) / 2 ^ z = ((b / 2 ^ z : Nat) : Int) := by
    rw [show (2 : Int) ^ z = ((2 ^ z : Nat) : Int) from by rw [Int.natCast_pow]; rfl]
    exact (Int.natCast_ediv _ _).symm
  have h1 : b / 2 ^ z ≤ b := Nat.div_le_self _ _
  have h2 := u8_and_nat (b / 2 ^ z) 1 (by omega) (by omega)
  rw [e1, show (1 : Int) = ((1 : Nat) : Int) from rfl, h2, Nat.and_one_is_mod, Nat.testBit_eq_decide_div_mod_eq]
  by_cases h : b / 2 ^ z % 2 = 1
  · rw [h]; rfl
  · have : b / 2 ^ z % 2 = 0 := by omega
    rw [this]; rfl
theorem take_all (l : List Nat) : l.take l.length = l := List.take_length
set_option maxRecDepth 100000 in
set_option maxHeartbeats 800000 in
theorem rhsh_any (A : Option Addr) (c B : Nat) (bs : List Nat) (w : World) (hl : Lies w B A (bs.map vb)) (hc : bs.length ≤ c) (hm : c ≤ maxLen) (h8 : ∀ x, x ∈ bs → x < 256) :
    Calls Try.prog 13 #[.slice A bs.length c] w fun e w' => e = .returned (.int .u32 (hsh bs : Nat)) ∧ w = w' := by
  have HL := Lib.hid hl
  have H8 := Lib.hid h8
  unfold maxLen at hm
  clear hl h8
  go_enter Try.func13, Try.ntmps13
  go_wp2_with fail
  go_loop [3, 4] (fun v i => ∃ j H : Nat, j ≤ bs.length ∧ v = .int .u32 (H : Int) ∧ i = .int .i64 (j : Int) ∧ H < 4294967296 ∧ Hid (H = hsh (bs.take j))) (fun _ i => bs.length + 1 - (intOf i).toNat)
  case atStart => exact ⟨0, 2166136261, Nat.zero_le _, rfl, rfl, by omega, Lib.hid rfl⟩
  case round =>
    obtain ⟨j, H, hj, rfl, rfl, hH, hrel⟩ := hrel
    by_cases hlt : j < bs.length
    · obtain ⟨d, hd⟩ : ∃ d, bs[j]? = some d := ⟨_, List.getElem?_eq_getElem hlt⟩
      obtain ⟨ad, rfl, -, hcell⟩ := HL.out.place (by rw [List.length_map]; omega)
      have g0 := cells_at hcell j d hd
      have hd8 := H8.out d (List.mem_of_getElem? hd)
      have e1 := fnv_int hH hd8
      have HN : Hid (fnv H d = hsh (bs.take (j + 1))) := Lib.hid (by rw [hsh_next hd, hrel.out])
      have hf := fnv_lt H d
      clear hcell hd
      generalize fnv H d = F at *
      go_wp2_with fail
      go_round
      case rel => exact ⟨j + 1, F, by omega, by first | rfl | rw [e1], by go_num, hf, HN⟩
      case measure => simp [intOf]; omega
    · obtain rfl : j = bs.length := by omega
      have HN : Hid (H = hsh bs) := Lib.hid (by rw [hrel.out, take_all])
      go_wp2_with fail
      go_ret
      exact ⟨by rw [← HN.out]; rfl, rfl⟩
set_option maxRecDepth 100000 in
set_option maxHeartbeats 1600000 in
theorem rmay_any (A1 A2 : Option Addr) (c1 c2 B1 B2 : Nat) (f ky : List Nat) (w : World) (h1 : Lies w B1 A1 (f.map vb)) (hc1 : f.length ≤ c1) (hm1 : c1 ≤ maxLen) (f8 : ∀ x, x ∈ f → x < 256)
    (h2 : Lies w B2 A2 (ky.map vb)) (hc2 : ky.length ≤ c2) (hm2 : c2 ≤ maxLen) (k8 : ∀ x, x ∈ ky → x < 256) (hs : f.length ≤ 1000000) :
    Calls Try.prog 14 #[.slice A1 f.length c1, .slice A2 ky.length c2] w fun e w' => e = .returned (.bool (mayB f ky)) ∧ w = w' := by
  have H1 := Lib.hid h1
  have HH := Lib.hid (rhsh_any A2 c2 B2 ky w h2 hc2 hm2 k8)
  have F8 := Lib.hid f8
  have hhl := hsh_lt ky
  unfold maxLen at hm1 hm2
  clear h1 h2 f8 k8
  by_cases hl2 : f.length < 2
  · have HE : Hid (mayB f ky = true) := Lib.hid (by unfold mayB; rw [decide_eq_true hl2]; rfl)
    have d1 : decide ((f.length : Int) < 2) = true := decide_eq_true (by omega)
    go_enter Try.func14, Try.ntmps14
    go_wp2_with fail
    go_ret
    exact ⟨by rw [HE.out]; rfl, rfl⟩
  · obtain ⟨m, hm⟩ : ∃ m, f.length = m + 1 := ⟨f.length - 1, by omega⟩
    have d1 : decide ((f.length : Int) < 2) = false := decide_eq_false (by omega)
    obtain ⟨k, hk⟩ : ∃ k, f[m]? = some k := ⟨_, List.getElem?_eq_getElem (by omega)⟩
    obtain ⟨ad, rfl, -, hcell⟩ := H1.out.place (by rw [List.length_map]; omega)
    have g0 := cells_at hcell m k hk
    have ei : (f.length : Int) - 1 = (m : Int) := by omega
    have hkg : f.getD (f.length - 1) 0 = k := by rw [hm, List.getD_eq_getElem?_getD, Nat.add_sub_cancel, hk]; rfl
    have hk8 := F8.out k (List.mem_of_getElem? hk)
    have HC := Lib.hid (cells_at hcell)
    have hml : m < f.length := by omega
    have HM := Lib.hid hm
    by_cases hk30 : 30 < k
    · have HE : Hid (mayB f ky = true) := Lib.hid (by unfold mayB; rw [hkg, decide_eq_true hk30, Bool.true_or, Bool.or_true])
      have d2 : decide ((30 : Int) < (k : Int)) = true := decide_eq_true (by omega)
      have d3 : decide (30 < k) = true := decide_eq_true hk30
      clear hcell hk hkg hm
      go_enter Try.func14, Try.ntmps14
      go_wp2_with fail
      go_ret
      exact ⟨by rw [HE.out]; rfl, rfl⟩
    · have d2 : decide ((30 : Int) < (k : Int)) = false := decide_eq_false (by omega)
      have d3 : decide (30 < k) = false := decide_eq_false hk30
      have HE : Hid (mayB f ky = (List.range k).all fun j => on f (nth (hsh ky) (rot (hsh ky)) j % (8 * m))) := Lib.hid (by
        unfold mayB
        rw [hkg, decide_eq_false hl2, decide_eq_false hk30, Bool.false_or, Bool.false_or, show f.length - 1 = m from by omega])
      have e5 := rot_int hhl
      have hrl := rot_lt hhl
      have HZ := Lib.hid (nth_zero (d := rot (hsh ky)) hhl)
      have HM0 := Lib.hid (show 0 < m by omega)
      clear hcell hk hkg hm hl2
      generalize hsh ky = h at *
      generalize rot h = d at *
      go_enter Try.func14, Try.ntmps14
      go_wp2_with fail
      refine HH.out.mono ?_
      rintro e w' ⟨rfl, rfl⟩
      clear HH
      go_wp2_with fail
      go_loop [6, 8, 9] (fun v6 v8 v9 => ∃ j : Nat, j ≤ k ∧ v6 = .int .u32 ((nth h d j : Nat) : Int) ∧ v8 = .int .i64 (j : Int) ∧ Hid (∀ i, i < j → on f (nth h d i % (8 * m)) = true)) (fun _ i _ => k + 1 - (intOf i).toNat)
      case atStart => exact ⟨0, Nat.zero_le _, by rw [HZ.out], rfl, Lib.hid fun i hi => by omega⟩
      case round =>
        obtain ⟨j, hj, rfl, rfl, hon⟩ := hrel
        by_cases hlt : j < k
        · obtain ⟨H, hH⟩ : ∃ H, H = nth h d j := ⟨_, rfl⟩
          obtain ⟨X, hX⟩ : ∃ X, X = H % (8 * m) := ⟨_, rfl⟩
          have hm0 : 0 < m := HM0.out
          have hXl : X < 8 * m := by rw [hX]; exact Nat.mod_lt _ (by omega)
          have q0 : (H : Int) % (8 * (m : Int)) = (X : Int) := by rw [show (8 * (m : Int)) = ((8 * m : Nat) : Int) from by omega, hX]; exact (Int.natCast_emod _ _).symm
          obtain ⟨b, hb⟩ : ∃ b, f[X / 8]? = some b := ⟨_, List.getElem?_eq_getElem (by have := HM.out; omega)⟩
          have g1 := HC.out _ b hb
          have hH32 : H < 4294967296 := by rw [hH]; exact nth_lt _ _ _
          have HHH := Lib.hid hH
          have HXX := Lib.hid hX
          have HB := Lib.hid hb
          have b8 := F8.out b (List.mem_of_getElem? hb)
          rw [← hH]
          obtain ⟨Y, hY⟩ : ∃ Y, Y = X / 8 := ⟨_, rfl⟩
          obtain ⟨Z, hZ⟩ : ∃ Z, Z = X % 8 := ⟨_, rfl⟩
          have q1 : (X : Int) / 8 = (Y : Int) := by omega
          have q2 : (X : Int) % 8 = (Z : Int) := by omega
          have hYl : Y < f.length := by omega
          have hZ8 : Z < 8 := by omega
          have hX32 : X < 4294967296 := by omega
          have n0 : ¬ 8 * (m : Int) = 0 := by omega
          rw [← hY] at g1
          have HY := Lib.hid hY
          have HZZ := Lib.hid hZ
          clear hH hX hb hY hZ
          have hon2 : on f (nth h d j % (8 * m)) = b.testBit Z := by
            unfold on
            rw [← HHH.out, ← HXX.out, List.getD_eq_getElem?_getD, HB.out, HZZ.out]
            rfl
          have HO2 := Lib.hid hon2
          have e8 := bit_int (z := Z) b8
          have e9 : ((H : Int) + (d : Int)) % 4294967296 = ((nth h d (j + 1) : Nat) : Int) := by rw [← nth_next, ← HHH.out]; omega
          clear hon2
          cases ht : b.testBit Z
          · rw [ht] at e8
            have e10 : bits .and .u8 ((b : Int) / 2 ^ Z) 1 = 0 := e8
            have HF : Hid (mayB f ky = false) := Lib.hid (by
              rw [HE.out, List.all_eq_false]
              exact ⟨j, List.mem_range.2 hlt, by rw [HO2.out, ht]; decide⟩)
            clear e8 ht
            go_wp2_with fail
            go_ret
            exact ⟨by rw [HF.out]; rfl, rfl⟩
          · rw [ht] at e8
            have e10 : bits .and .u8 ((b : Int) / 2 ^ Z) 1 = 1 := e8
            have HN : Hid (∀ i, i < j + 1 → on f (nth h d i % (8 * m)) = true) := Lib.hid fun i hi => by
              by_cases h : i = j
              · rw [h, HO2.out, ht]
              · exact hon.out i (by omega)
            clear e8 ht
            go_wp2_with fail
            go_round
            case rel => exact ⟨j + 1, by omega, by first | rfl | rw [e9], by go_num, HN⟩
            case measure => simp [intOf]; omega
        · obtain rfl : j = k := by omega
          have HF : Hid (mayB f ky = true) := Lib.hid (by
            rw [HE.out, List.all_eq_true]
            intro i hi
            exact hon.out i (List.mem_range.1 hi))
          go_wp2_with fail
          go_ret
          exact ⟨by rw [HF.out]; rfl, rfl⟩
end Go.Proofs.Ytndkehadboekbaa.Bl
