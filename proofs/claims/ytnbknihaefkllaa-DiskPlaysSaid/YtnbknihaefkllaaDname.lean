/- Which bytes and which names the disk takes. -/
import Derived.Test.YtnbknihaefkllaaDat
import Derived.Lib.ConvBytes
namespace Go.Proofs.Ytnbknihaefkllaa.Dk
set_option linter.unusedVariables false
set_option linter.unusedSimpArgs false
open Go.RowKit Go.Maps Lift Ik

def inN (c : Nat) : Bool := (decide (97 ≤ c) && decide (c ≤ 122)) || (decide (65 ≤ c) && decide (c ≤ 90)) || (decide (48 ≤ c) && decide (c ≤ 57)) || decide (c = 46) || decide (c = 45)

set_option maxHeartbeats 1000000 in
theorem inNames_any (c : Nat) (h : c < 256) (w : World) : Calls Try.prog 50 #[.int .u8 (c : Int)] w fun e w' => e = .returned (.bool (inN c)) ∧ w = w' := by
  rcases (show (0 ≤ c ∧ c ≤ 44) ∨ c = 45 ∨ c = 46 ∨ c = 47 ∨ (48 ≤ c ∧ c ≤ 57) ∨ (58 ≤ c ∧ c ≤ 64) ∨ (65 ≤ c ∧ c ≤ 90) ∨ (91 ≤ c ∧ c ≤ 96) ∨ (97 ≤ c ∧ c ≤ 122) ∨ (123 ≤ c ∧ c ≤ 255) by omega) with ⟨k1, k2⟩ | rfl | rfl | rfl | ⟨k1, k2⟩ | ⟨k1, k2⟩ | ⟨k1, k2⟩ | ⟨k1, k2⟩ | ⟨k1, k2⟩ | ⟨k1, k2⟩
  · have hr : inN c = false := by simp [inN]; omega
    have da : decide ((97 : Int) ≤ (c : Int)) = false := by simp; omega
    have db : decide ((c : Int) ≤ 122) = true := by simp; omega
    have dd : decide ((65 : Int) ≤ (c : Int)) = false := by simp; omega
    have de : decide ((c : Int) ≤ 90) = true := by simp; omega
    have df : decide ((48 : Int) ≤ (c : Int)) = false := by simp; omega
    have dg : decide ((c : Int) ≤ 57) = true := by simp; omega
    have e1 : ((c : Int) == 46) = false := by rw [beq_eq_false_iff_ne]; omega
    have e2 : ((c : Int) == 45) = false := by rw [beq_eq_false_iff_ne]; omega
    rw [hr]
    clear k1 k2 hr
    go_enter Try.func50, Try.ntmps50
    go_wp2_with fail
    go_ret
    exact ⟨rfl, rfl⟩
  · rw [show inN 45 = true by decide]
    go_enter Try.func50, Try.ntmps50
    go_wp2_with fail
    go_ret
    exact ⟨rfl, rfl⟩
  · rw [show inN 46 = true by decide]
    go_enter Try.func50, Try.ntmps50
    go_wp2_with fail
    go_ret
    exact ⟨rfl, rfl⟩
  · rw [show inN 47 = false by decide]
    go_enter Try.func50, Try.ntmps50
    go_wp2_with fail
    go_ret
    exact ⟨rfl, rfl⟩
  · have hr : inN c = true := by simp [inN]; omega
    have da : decide ((97 : Int) ≤ (c : Int)) = false := by simp; omega
    have db : decide ((c : Int) ≤ 122) = true := by simp; omega
    have dd : decide ((65 : Int) ≤ (c : Int)) = false := by simp; omega
    have de : decide ((c : Int) ≤ 90) = true := by simp; omega
    have df : decide ((48 : Int) ≤ (c : Int)) = true := by simp; omega
    have dg : decide ((c : Int) ≤ 57) = true := by simp; omega
    have e1 : ((c : Int) == 46) = false := by rw [beq_eq_false_iff_ne]; omega
    have e2 : ((c : Int) == 45) = false := by rw [beq_eq_false_iff_ne]; omega
    rw [hr]
    clear k1 k2 hr
    go_enter Try.func50, Try.ntmps50
    go_wp2_with fail
    go_ret
    exact ⟨rfl, rfl⟩
  · have hr : inN c = false := by simp [inN]; omega
    have da : decide ((97 : Int) ≤ (c : Int)) = false := by simp; omega
    have db : decide ((c : Int) ≤ 122) = true := by simp; omega
    have dd : decide ((65 : Int) ≤ (c : Int)) = false := by simp; omega
    have de : decide ((c : Int) ≤ 90) = true := by simp; omega
    have df : decide ((48 : Int) ≤ (c : Int)) = true := by simp; omega
    have dg : decide ((c : Int) ≤ 57) = false := by simp; omega
    have e1 : ((c : Int) == 46) = false := by rw [beq_eq_false_iff_ne]; omega
    have e2 : ((c : Int) == 45) = false := by rw [beq_eq_false_iff_ne]; omega
    rw [hr]
    clear k1 k2 hr
    go_enter Try.func50, Try.ntmps50
    go_wp2_with fail
    go_ret
    exact ⟨rfl, rfl⟩
  · have hr : inN c = true := by simp [inN]; omega
    have da : decide ((97 : Int) ≤ (c : Int)) = false := by simp; omega
    have db : decide ((c : Int) ≤ 122) = true := by simp; omega
    have dd : decide ((65 : Int) ≤ (c : Int)) = true := by simp; omega
    have de : decide ((c : Int) ≤ 90) = true := by simp; omega
    have df : decide ((48 : Int) ≤ (c : Int)) = true := by simp; omega
    have dg : decide ((c : Int) ≤ 57) = false := by simp; omega
    have e1 : ((c : Int) == 46) = false := by rw [beq_eq_false_iff_ne]; omega
    have e2 : ((c : Int) == 45) = false := by rw [beq_eq_false_iff_ne]; omega
    rw [hr]
    clear k1 k2 hr
    go_enter Try.func50, Try.ntmps50
    go_wp2_with fail
    go_ret
    exact ⟨rfl, rfl⟩
  · have hr : inN c = false := by simp [inN]; omega
    have da : decide ((97 : Int) ≤ (c : Int)) = false := by simp; omega
    have db : decide ((c : Int) ≤ 122) = true := by simp; omega
    have dd : decide ((65 : Int) ≤ (c : Int)) = true := by simp; omega
    have de : decide ((c : Int) ≤ 90) = false := by simp; omega
    have df : decide ((48 : Int) ≤ (c : Int)) = true := by simp; omega
    have dg : decide ((c : Int) ≤ 57) = false := by simp; omega
    have e1 : ((c : Int) == 46) = false := by rw [beq_eq_false_iff_ne]; omega
    have e2 : ((c : Int) == 45) = false := by rw [beq_eq_false_iff_ne]; omega
    rw [hr]
    clear k1 k2 hr
    go_enter Try.func50, Try.ntmps50
    go_wp2_with fail
    go_ret
    exact ⟨rfl, rfl⟩
  · have hr : inN c = true := by simp [inN]; omega
    have da : decide ((97 : Int) ≤ (c : Int)) = true := by simp; omega
    have db : decide ((c : Int) ≤ 122) = true := by simp; omega
    have dd : decide ((65 : Int) ≤ (c : Int)) = true := by simp; omega
    have de : decide ((c : Int) ≤ 90) = false := by simp; omega
    have df : decide ((48 : Int) ≤ (c : Int)) = true := by simp; omega
    have dg : decide ((c : Int) ≤ 57) = false := by simp; omega
    have e1 : ((c : Int) == 46) = false := by rw [beq_eq_false_iff_ne]; omega
    have e2 : ((c : Int) == 45) = false := by rw [beq_eq_false_iff_ne]; omega
    rw [hr]
    clear k1 k2 hr
    go_enter Try.func50, Try.ntmps50
    go_wp2_with fail
    go_ret
    exact ⟨rfl, rfl⟩
  · have hr : inN c = false := by simp [inN]; omega
    have da : decide ((97 : Int) ≤ (c : Int)) = true := by simp; omega
    have db : decide ((c : Int) ≤ 122) = false := by simp; omega
    have dd : decide ((65 : Int) ≤ (c : Int)) = true := by simp; omega
    have de : decide ((c : Int) ≤ 90) = false := by simp; omega
    have df : decide ((48 : Int) ≤ (c : Int)) = true := by simp; omega
    have dg : decide ((c : Int) ≤ 57) = false := by simp; omega
    have e1 : ((c : Int) == 46) = false := by rw [beq_eq_false_iff_ne]; omega
    have e2 : ((c : Int) == 45) = false := by rw [beq_eq_false_iff_ne]; omega
    rw [hr]
    clear k1 k2 hr
    go_enter Try.func50, Try.ntmps50
    go_wp2_with fail
    go_ret
    exact ⟨rfl, rfl⟩

/-- A file name. -/
def nmB (s : ByteArray) : Bool := decide (1 ≤ s.size) && decide (s.size ≤ 40) && s.data.toList.all fun b => inN b.toNat
theorem str_len (s : ByteArray) : s.data.toList.length = s.size := Array.length_toList
theorem conv_str (s : ByteArray) (w : World) : ∃ (ad : Addr) (c : Nat) (w' : World), Sem.run Try.prog (convert 9 31 (.string s)) w = .ok (.slice (some ad) s.size c) w' ∧ Below w.heap.size w w' ∧
    ∀ j b, s.data.toList[j]? = some b → w'.cell? (ad.add j) = some (.int .u8 (b.toNat : Int)) := by
  refine ⟨⟨w.heap.size, 0, none⟩, _, _, Lib.run_convert_string_bytes w _ _ 5 s Try.underlying9 Try.underlying31 Try.underlying5, ⟨rfl, rfl, rfl, by rw [Lib.bytesWorld_size]; omega, fun k hk => Lib.bytesWorld_at_old _ _ _ _ hk⟩, fun j b hj => ?_⟩
  have e : (⟨w.heap.size, 0, none⟩ : Addr).add j = ⟨w.heap.size, j, none⟩ := by unfold Addr.add; split <;> simp_all
  have hlt : j < s.size := by
    have := (List.getElem?_eq_some_iff.1 hj).1
    rwa [str_len] at this
  rw [e, Lib.bytesWorld_cell _ _ _ _ hlt, List.getD_eq_getElem?_getD, hj]
  rfl

set_option maxRecDepth 100000 in
set_option maxHeartbeats 400000 in
theorem valid_any (s : ByteArray) (w : World) : Calls Try.prog 40 #[.string s] w fun e w' => e = .returned (.bool (nmB s)) ∧ Below w.heap.size w w' := by
  by_cases k1 : s.size < 1
  · have hr : nmB s = false := by simp [nmB]; omega
    have d1 : decide ((s.size : Int) < 1) = true := by simp; omega
    rw [hr]
    clear k1 hr
    go_enter Try.func40, Try.ntmps40
    go_wp2_with fail
    go_ret
    exact ⟨rfl, Below.refl _ _⟩
  · have d1 : decide ((s.size : Int) < 1) = false := by simp; omega
    by_cases k2 : 40 < s.size
    · have hr : nmB s = false := by simp [nmB]; omega
      have d2 : decide ((40 : Int) < (s.size : Int)) = true := by simp; omega
      rw [hr]
      clear k1 k2 hr
      go_enter Try.func40, Try.ntmps40
      go_wp2_with fail
      go_ret
      exact ⟨rfl, Below.refl _ _⟩
    · have d2 : decide ((40 : Int) < (s.size : Int)) = false := by simp; omega
      have hr : nmB s = s.data.toList.all fun b => inN b.toNat := by unfold nmB; rw [decide_eq_true (by omega), decide_eq_true (by omega)]; rfl
      obtain ⟨ad, c, w1, hcv, hb1, hcell⟩ := conv_str s w
      have hn := str_len s
      have HR := Lib.hid hr
      have HB := Lib.hid hb1
      have HC := Lib.hid hcell
      clear k1 hr hb1 hcell
      go_enter Try.func40, Try.ntmps40
      go_wp2_with fail
      go_loop [16] (fun i => ∃ j : Nat, j ≤ s.size ∧ i = .int .i64 j ∧ Hid (nmB s = (s.data.toList.drop j).all fun b => inN b.toNat)) (fun i => s.size + 1 - (intOf i).toNat)
      case atStart => exact ⟨0, by omega, rfl, Lib.hid HR.out⟩
      case round =>
        obtain ⟨j, hj, rfl, hb⟩ := hrel
        by_cases hlt : j < s.size
        · obtain ⟨b, hd⟩ : ∃ b, s.data.toList[j]? = some b := ⟨_, List.getElem?_eq_getElem (by omega)⟩
          have h1 := HC.out j b hd
          have hb8 : b.toNat < 256 := b.toNat_lt
          have HD := Lib.hid (Ik.drop_cons hd)
          clear hd
          obtain ⟨x, hx⟩ : ∃ x, x = b.toNat := ⟨_, rfl⟩
          rw [← hx] at h1 hb8
          have HX := Lib.hid hx
          clear hx
          cases hi : inN x
          · have e : Hid (nmB s = false) := Lib.hid (by rw [hb.out, HD.out, List.all_cons, ← HX.out, hi]; rfl)
            go_wp2_with fail
            refine (inNames_any x hb8 _).mono ?_
            rintro e w' ⟨rfl, rfl⟩
            rw [hi]
            clear hi
            go_wp2_with fail
            go_ret
            exact ⟨by rw [e.out]; rfl, HB.out⟩
          · have e : Hid (nmB s = (s.data.toList.drop (j + 1)).all fun b => inN b.toNat) := Lib.hid (by rw [hb.out, HD.out, List.all_cons, ← HX.out, hi]; rfl)
            go_wp2_with fail
            refine (inNames_any x hb8 _).mono ?_
            rintro e w' ⟨rfl, rfl⟩
            rw [hi]
            clear hi
            go_wp2_with fail
            go_round
            case rel => exact ⟨j + 1, by omega, by go_num, e⟩
            case measure => simp [intOf]; omega
        · obtain rfl : j = s.size := by omega
          have e : Hid (nmB s = true) := Lib.hid (by rw [hb.out, List.drop_of_length_le (by omega)]; rfl)
          go_wp2_with fail
          go_ret
          exact ⟨by rw [e.out]; rfl, HB.out⟩
end Go.Proofs.Ytnbknihaefkllaa.Dk
