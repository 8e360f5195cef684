/- What the document's own sums answer, when two tables are called the same, and the example of the document. -/
import Derived.Test.YtobjiamdljjkjaaSum
namespace Go.Proofs.Ytobjiamdljjkjaa.Crc
set_option linter.unusedVariables false
open Go.RowKit Lift
theorem spot_and {r c : Nat} (hr : r < 4294967296) (hc : c < 256) : bits .and .u32 (bits .xor .u32 (r : Int) (c : Int)) 255 = ((spot r c : Nat) : Int) := by
  have h1 := u32_xor_nat r c hr (by omega)
  have h2 := u32_and_nat (r ^^^ c) 255 (xor_lt hr (by omega)) (by decide)
  rw [show ((255 : Nat) : Int) = 255 from rfl] at h2
  rw [h1, h2, show (r ^^^ c) &&& 255 = (r ^^^ c) % 2 ^ 8 from Nat.and_two_pow_sub_one_eq_mod (r ^^^ c) 8, Nat.xor_mod_two_pow]
  unfold spot
  rw [show c % 2 ^ 8 = c from Nat.mod_eq_of_lt hc]

set_option maxRecDepth 100000 in
set_option maxHeartbeats 400000 in
theorem crc_any (Ab : Option Addr) (cb B : Nat) (bs : List Nat) (w : World) (hb : Lies w B Ab (bs.map vb)) (hcb : bs.length ≤ cb) (hm : bs.length ≤ maxLen) (b8 : ∀ c, c ∈ bs → c < 256) :
    Calls Try.prog 73 #[.slice Ab bs.length cb] w fun e w' => e = .returned (.int .u32 (crc ent bs : Nat)) ∧ w = w' := by
  unfold maxLen at hm
  have HB := Lib.hid hb
  have B8 := Lib.hid b8
  clear hb b8
  go_enter Try.func73, Try.ntmps73
  go_wp2_with fail
  go_loop [3, 4] (fun x i => ∃ k r : Nat, k ≤ bs.length ∧ r ≤ 4294967295 ∧ i = .int .i64 k ∧ x = .int .u32 r ∧ Hid (r = reg ent 4294967295 (bs.take k))) (fun _ i => bs.length + 1 - (intOf i).toNat)
  case atStart => exact ⟨0, 4294967295, by omega, by omega, rfl, rfl, Lib.hid rfl⟩
  case round =>
    obtain ⟨k, r, hk, hr, rfl, rfl, hd⟩ := hrel
    by_cases hlt : k < bs.length
    · obtain ⟨ab, hab, _, hcell⟩ := HB.out.place (by simp; omega)
      subst hab
      obtain ⟨c, hc⟩ : ∃ c : Nat, bs[k]? = some c := ⟨_, List.getElem?_eq_getElem hlt⟩
      have c8 := B8.out c (List.mem_of_getElem? hc)
      have hs := spot_lt (r := r) c8
      have hv := ent_ok _ hs
      have h1 := cells_at hcell k c hc
      have e := spot_and (r := r) (by omega) c8
      have HC := Lib.hid hc
      clear hcell hc
      go_wp2_with (refine (step_any (spot r c) _ (by omega)).mono ?_; rintro e w' ⟨rfl, rfl⟩)
      go_round
      case rel =>
        have hr2 := turn_lt32 (T := ent) (r := r) (c := c) (by omega) hv rfl
        exact ⟨k + 1, turn ent r c, by omega, by omega, by go_num, by rw [turn_int (by omega) hv rfl], Lib.hid (by rw [take_snoc HC.out, reg_snoc, hd.out])⟩
      case measure => simp [intOf]; omega
    · have hk2 : k = bs.length := by omega
      have HK := Lib.hid hk2
      clear hk2
      go_wp2_with fail
      go_ret
      exact ⟨ret_u32 (by rw [not_int (by omega), hd.out, HK.out, List.take_length]; rfl), rfl⟩

end Go.Proofs.Ytobjiamdljjkjaa.Crc
