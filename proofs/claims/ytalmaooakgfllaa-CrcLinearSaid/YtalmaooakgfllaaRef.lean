/- What the document's own sums answer, when two tables are called the same, and the example of the document. -/
import Derived.Test.YtalmaooakgfllaaSum
namespace Go.Proofs.Ytalmaooakgfllaa.Crc
set_option linter.unusedVariables false
open Go.RowKit Lift
theorem spot_and {r c : Nat} (hr : r < 4294967296) (hc : c < 256) : bits .and .u32 (bits .xor .u32 (r : Int) (c : Int)) 255 = ((spot r c : Nat) : Int) := by
  have h1 := u32_xor_nat r c hr (by omega)
  have h2 := u32_and_nat (r ^^^ c) 255 (xor_lt hr (by omega)) (by decide)
  rw [show ((255 : Nat) : Int) = 255 from rfl] at h2
  rw [h1, h2, show (r ^^^ c) &&& 255 = (r ^^^ c) % 2 ^ 8 from Nat.and_two_pow_sub_one_eq_mod (r ^^^ c) 8, Nat.xor_mod_two_pow]
  unfold spot
  rw [show c % 2 ^ 8 = c from Nat.mod_eq_of_lt hc]

set_option maxRecDepth 100000 in
set_option maxHeartbeats 400000 in
theorem crc_any (Ab : Option Addr) (cb B : Nat) (bs : List Nat) (w : World) (hb : Lies w B Ab (bs.map vb)) (hcb : bs.length ≤ cb) (hm : bs.length ≤ maxLen) (b8 : ∀ c, c ∈ bs → c < 256) :
    Calls Try.prog 13 #[.slice Ab bs.length cb] w fun e w' => e = .returned (.int .u32 (crc ent bs : Nat)) ∧ w = w' := by
  unfold maxLen at hm
  have HB := Lib.hid hb
  have B8 := Lib.hid b8
  clear hb b8
  go_enter Try.func13, Try.ntmps13
  go_wp2_with fail
  go_loop [3, 4] (fun x i => ∃ k r : Nat, k ≤ bs.length ∧ r ≤ 4294967295 ∧ i = .int .i64 k ∧ x = .int .u32 r ∧ Hid (r = reg ent 4294967295 (bs.take k))) (fun _ i => bs.length + 1 - (intOf i).toNat)
  case atStart => exact ⟨0, 4294967295, by omega, by omega, rfl, rfl, Lib.hid rfl⟩
  case round =>
    obtain ⟨k, r, hk, hr, rfl, rfl, hd⟩ := hrel
    by_cases hlt : k < bs.length
    · obtain ⟨ab, hab, _, hcell⟩ := HB.out.place (by simp; omega)
      subst hab
      obtain ⟨c, hc⟩ : ∃ c : Nat, bs[k]? = some c := ⟨_, List.getElem?_eq_getElem hlt⟩
      have c8 := B8.out c (List.mem_of_getElem? hc)
      have hs := spot_lt (r := r) c8
      have hv := ent_ok _ hs
      have h1 := cells_at hcell k c hc
      have e := spot_and (r := r) (by omega) c8
      have HC := Lib.hid hc
      clear hcell hc
      go_wp2_with (refine (step_any (spot r c) _ (by omega)).mono ?_; rintro e w' ⟨rfl, rfl⟩)
      go_round
      case rel =>
        have hr2 := turn_lt32 (T := ent) (r := r) (c := c) (by omega) hv rfl
        exact ⟨k + 1, turn ent r c, by omega, by omega, by go_num, by rw [turn_int (by omega) hv rfl], Lib.hid (by rw [take_snoc HC.out, reg_snoc, hd.out])⟩
      case measure => simp [intOf]; omega
    · have hk2 : k = bs.length := by omega
      have HK := Lib.hid hk2
      clear hk2
      go_wp2_with fail
      go_ret
      exact ⟨ret_u32 (by rw [not_int (by omega), hd.out, HK.out, List.take_length]; rfl), rfl⟩

set_option maxRecDepth 100000 in
set_option maxHeartbeats 400000 in
theorem sumby_tab (ad : Addr) (Ab : Option Addr) (ct cb B : Nat) (ts bs : List Nat) (w : World) (ht : ts.length = 256) (hct : 256 ≤ ct) (hl : ∀ j u, (ts.map vw)[j]? = some u → w.cell? (ad.add j) = some u)
    (hb : Lies w B Ab (bs.map vb)) (hcb : bs.length ≤ cb) (hm : bs.length ≤ maxLen) (t32 : ∀ x, x ∈ ts → x < 4294967296) (b8 : ∀ c, c ∈ bs → c < 256) :
    Calls Try.prog 14 #[.slice (some ad) 256 ct, .slice Ab bs.length cb] w fun e w' => e = .returned (.int .u32 (crc (look ts) bs : Nat)) ∧ w = w' := by
  unfold maxLen at hm
  have HT := Lib.hid (cells_at hl)
  have HB := Lib.hid hb
  have T32 := Lib.hid t32
  have B8 := Lib.hid b8
  have HL := Lib.hid ht
  clear ht hl hb t32 b8
  go_enter Try.func14, Try.ntmps14
  go_wp2_with fail
  go_loop [5, 6] (fun x i => ∃ k r : Nat, k ≤ bs.length ∧ r ≤ 4294967295 ∧ i = .int .i64 k ∧ x = .int .u32 r ∧ Hid (r = reg (look ts) 4294967295 (bs.take k))) (fun _ i => bs.length + 1 - (intOf i).toNat)
  case atStart => exact ⟨0, 4294967295, by omega, by omega, rfl, rfl, Lib.hid rfl⟩
  case round =>
    obtain ⟨k, r, hk, hr, rfl, rfl, hd⟩ := hrel
    by_cases hlt : k < bs.length
    · obtain ⟨ab, hab, _, hcell⟩ := HB.out.place (by simp; omega)
      subst hab
      obtain ⟨c, hc⟩ : ∃ c : Nat, bs[k]? = some c := ⟨_, List.getElem?_eq_getElem hlt⟩
      have c8 := B8.out c (List.mem_of_getElem? hc)
      have hs := spot_lt (r := r) c8
      obtain ⟨v, hv0⟩ : ∃ v : Nat, ts[spot r c]? = some v := ⟨_, List.getElem?_eq_getElem (by rw [HL.out]; exact hs)⟩
      have v32 := T32.out v (List.mem_of_getElem? hv0)
      have h2 := HT.out _ v hv0
      have hv := look_at hv0
      have h1 := cells_at hcell k c hc
      have e := spot_int (r := r) c8
      have HC := Lib.hid hc
      have HV := Lib.hid hv
      clear hcell hc hv hv0
      go_wp2_with fail
      go_round
      case rel =>
        have hr2 := turn_lt32 (T := look ts) (r := r) (c := c) (by omega) v32 HV.out
        exact ⟨k + 1, turn (look ts) r c, by omega, by omega, by go_num, by rw [turn_int (by omega) v32 HV.out], Lib.hid (by rw [take_snoc HC.out, reg_snoc, hd.out])⟩
      case measure => simp [intOf]; omega
    · have hk2 : k = bs.length := by omega
      have HK := Lib.hid hk2
      clear hk2
      go_wp2_with fail
      go_ret
      exact ⟨ret_u32 (by rw [not_int (by omega), hd.out, HK.out, List.take_length]; rfl), rfl⟩

theorem sumby_no (At Ab : Option Addr) (n ct cb B : Nat) (bs : List Nat) (w : World) (hn : n ≠ 256)
    (hb : Lies w B Ab (bs.map vb)) (hcb : bs.length ≤ cb) (hm : bs.length ≤ maxLen) (b8 : ∀ c, c ∈ bs → c < 256) :
    Calls Try.prog 14 #[.slice At n ct, .slice Ab bs.length cb] w fun e w' => e = .returned (.int .u32 (crc ent bs : Nat)) ∧ w = w' := by
  have hc := Lib.hid (crc_any Ab cb B bs w hb hcb hm b8)
  have hne : ((n : Int) != 256) = true := by rw [bne_iff_ne]; omega
  clear hb hcb hm b8 hn
  go_enter Try.func14, Try.ntmps14
  go_wp2_with fail
  refine hc.out.mono ?_; rintro e w' ⟨rfl, rfl⟩
  go_wp2_with fail
  go_ret
  exact ⟨rfl, rfl⟩

set_option maxRecDepth 100000 in
set_option maxHeartbeats 400000 in
theorem same_any (A1 A2 : Option Addr) (c1 c2 B : Nat) (ts : List Nat) (w : World) (h1 : Lies w B A1 (ts.map vw)) (h2 : Lies w B A2 (ts.map vw)) (hc1 : ts.length ≤ c1) (hc2 : ts.length ≤ c2) (hm : ts.length ≤ maxLen) :
    Calls Try.prog 10 #[.slice A1 ts.length c1, .slice A2 ts.length c2] w fun e w' => e = .returned (.bool true) ∧ ∃ n, w' = w.drewN n := by
  unfold maxLen at hm
  have H1 := Lib.hid h1
  have H2 := Lib.hid h2
  clear h1 h2
  go_enter Try.func10, Try.ntmps10
  go_wp2_with fail
  go_loopw [5] (fun i wr => ∃ k n : Nat, k ≤ ts.length ∧ i = .int .i64 k ∧ Hid (wr = w.drewN n)) (fun i _ => ts.length + 1 - (intOf i).toNat)
  case atStart => exact ⟨0, 0, by omega, rfl, Lib.hid rfl⟩
  case round =>
    obtain ⟨k, n, hk, rfl, hd⟩ := hrel
    by_cases hlt : k < ts.length
    · obtain ⟨a1, e1, _, g1⟩ := H1.out.place (by simp; omega)
      obtain ⟨a2, e2, _, g2⟩ := H2.out.place (by simp; omega)
      subst e1
      subst e2
      obtain ⟨c, hc⟩ : ∃ c : Nat, ts[k]? = some c := ⟨_, List.getElem?_eq_getElem hlt⟩
      have d1 : wr.cell? (a1.add k) = some (vw c) := by rw [hd.out]; simpa using cells_at g1 k c hc
      have d2 : wr.cell? (a2.add k) = some (vw c) := by rw [hd.out]; simpa using cells_at g2 k c hc
      clear hc g1 g2
      go_wp2_with fail
      go_quiet (fail)
      go_wp2_with fail
      go_roundw
      case rel => exact ⟨k + 1, n + nq, by omega, by go_num, Lib.hid (by rw [hd.out, World.drewN_drewN])⟩
      case measure => simp [intOf]; omega
    · go_wp2_with fail
      go_ret
      exact ⟨rfl, n, hd.out⟩
end Go.Proofs.Ytalmaooakgfllaa.Crc
