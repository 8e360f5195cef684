/- What the document's own Named answers. -/
import Derived.Test.YtnbknihaefkllaaDname
namespace Go.Proofs.Ytnbknihaefkllaa.Dk
set_option linter.unusedVariables false
set_option linter.unusedSimpArgs false
open Go.RowKit Go.Maps Lift Ik

theorem index_at {s : ByteArray} {j : Nat} {b : UInt8} (h : s.data.toList[j]? = some b) (W : World) : Sem.run Try.prog (Instr.index 9 (.string s) (.int .i64 (j : Int))) W = .ok (.int .u8 (b.toNat : Int)) W := by
  have hlt : j < s.size := by
    have := (List.getElem?_eq_some_iff.1 h).1
    rwa [str_len] at this
  rw [run_index_string (w := W) 9 s .i64 (j : Int) Try.underlying9, dif_pos (by constructor <;> omega)]
  have e : ∀ (k : Nat) (hk : k < s.size), k = j → s[k]'hk = b := by
    intro k hk e
    subst e
    have := (List.getElem?_eq_some_iff.1 h).2
    rw [← this]
    rfl
  rw [e _ _ (Int.toNat_natCast j)]

set_option maxRecDepth 100000 in
set_option maxHeartbeats 4000000 in
theorem named_any (s : ByteArray) (w : World) (hs : s.size ≤ 1000) : Calls Try.prog 43 #[.string s] w fun e w' => e = .returned (.bool (nmB s)) ∧ w = w' := by
  have hn := str_len s
  go_enter Try.func43, Try.ntmps43
  go_wp2_with fail
  go_loop [3] (fun i => ∃ j : Nat, j ≤ s.size ∧ i = .int .i64 j ∧ Hid ((s.data.toList.all fun b => inN b.toNat) = (s.data.toList.drop j).all fun b => inN b.toNat)) (fun i => s.size + 1 - (intOf i).toNat)
  case atStart => exact ⟨0, by omega, rfl, Lib.hid rfl⟩
  case round =>
    obtain ⟨j, hj, rfl, hb⟩ := hrel
    by_cases hlt : j < s.size
    · obtain ⟨b, hd⟩ : ∃ b, s.data.toList[j]? = some b := ⟨_, List.getElem?_eq_getElem (by omega)⟩
      have hix := index_at hd
      have hb8 : b.toNat < 256 := b.toNat_lt
      have HD := Lib.hid (Ik.drop_cons hd)
      clear hd
      obtain ⟨c, hc⟩ : ∃ c, c = b.toNat := ⟨_, rfl⟩
      rw [← hc] at hix hb8
      have HX := Lib.hid hc
      clear hc
      rcases (show (0 ≤ c ∧ c ≤ 44) ∨ c = 45 ∨ c = 46 ∨ c = 47 ∨ (48 ≤ c ∧ c ≤ 57) ∨ (58 ≤ c ∧ c ≤ 64) ∨ (65 ≤ c ∧ c ≤ 90) ∨ (91 ≤ c ∧ c ≤ 96) ∨ (97 ≤ c ∧ c ≤ 122) ∨ (123 ≤ c ∧ c ≤ 255) by omega) with ⟨k1, k2⟩ | rfl | rfl | rfl | ⟨k1, k2⟩ | ⟨k1, k2⟩ | ⟨k1, k2⟩ | ⟨k1, k2⟩ | ⟨k1, k2⟩ | ⟨k1, k2⟩
      · have hr : inN c = false := by simp [inN]; omega
        have da : decide ((c : Int) < 97) = true := by simp; omega
        have db : decide ((122 : Int) < (c : Int)) = false := by simp; omega
        have dd : decide ((c : Int) < 65) = true := by simp; omega
        have de : decide ((90 : Int) < (c : Int)) = false := by simp; omega
        have df : decide ((c : Int) < 48) = true := by simp; omega
        have dg : decide ((57 : Int) < (c : Int)) = false := by simp; omega
        have e1 : ((c : Int) != 46) = true := by rw [bne_iff_ne]; omega
        have e2 : ((c : Int) != 45) = true := by rw [bne_iff_ne]; omega
        clear k1 k2
        have e : Hid (nmB s = false) := Lib.hid (by unfold nmB; rw [hb.out, HD.out, List.all_cons, ← HX.out, hr]; simp)
        clear hr
        go_wp2_with fail
        go_ret
        exact ⟨by rw [e.out]; rfl, rfl⟩
      · have hr : inN 45 = true := by decide
        have e : Hid ((s.data.toList.all fun b => inN b.toNat) = (s.data.toList.drop (j + 1)).all fun b => inN b.toNat) := Lib.hid (by rw [hb.out, HD.out, List.all_cons, ← HX.out, hr]; rfl)
        clear hr
        go_wp2_with fail
        go_round
        case rel => exact ⟨j + 1, by omega, by go_num, e⟩
        case measure => simp [intOf]; omega
      · have hr : inN 46 = true := by decide
        have e : Hid ((s.data.toList.all fun b => inN b.toNat) = (s.data.toList.drop (j + 1)).all fun b => inN b.toNat) := Lib.hid (by rw [hb.out, HD.out, List.all_cons, ← HX.out, hr]; rfl)
        clear hr
        go_wp2_with fail
        go_round
        case rel => exact ⟨j + 1, by omega, by go_num, e⟩
        case measure => simp [intOf]; omega
      · have hr : inN 47 = false := by decide
        have e : Hid (nmB s = false) := Lib.hid (by unfold nmB; rw [hb.out, HD.out, List.all_cons, ← HX.out, hr]; simp)
        clear hr
        go_wp2_with fail
        go_ret
        exact ⟨by rw [e.out]; rfl, rfl⟩
      · have hr : inN c = true := by simp [inN]; omega
        have da : decide ((c : Int) < 97) = true := by simp; omega
        have db : decide ((122 : Int) < (c : Int)) = false := by simp; omega
        have dd : decide ((c : Int) < 65) = true := by simp; omega
        have de : decide ((90 : Int) < (c : Int)) = false := by simp; omega
        have df : decide ((c : Int) < 48) = false := by simp; omega
        have dg : decide ((57 : Int) < (c : Int)) = false := by simp; omega
        have e1 : ((c : Int) != 46) = true := by rw [bne_iff_ne]; omega
        have e2 : ((c : Int) != 45) = true := by rw [bne_iff_ne]; omega
        clear k1 k2
        have e : Hid ((s.data.toList.all fun b => inN b.toNat) = (s.data.toList.drop (j + 1)).all fun b => inN b.toNat) := Lib.hid (by rw [hb.out, HD.out, List.all_cons, ← HX.out, hr]; rfl)
        clear hr
        go_wp2_with fail
        go_round
        case rel => exact ⟨j + 1, by omega, by go_num, e⟩
        case measure => simp [intOf]; omega
      · have hr : inN c = false := by simp [inN]; omega
        have da : decide ((c : Int) < 97) = true := by simp; omega
        have db : decide ((122 : Int) < (c : Int)) = false := by simp; omega
        have dd : decide ((c : Int) < 65) = true := by simp; omega
        have de : decide ((90 : Int) < (c : Int)) = false := by simp; omega
        have df : decide ((c : Int) < 48) = false := by simp; omega
        have dg : decide ((57 : Int) < (c : Int)) = true := by simp; omega
        have e1 : ((c : Int) != 46) = true := by rw [bne_iff_ne]; omega
        have e2 : ((c : Int) != 45) = true := by rw [bne_iff_ne]; omega
        clear k1 k2
        have e : Hid (nmB s = false) := Lib.hid (by unfold nmB; rw [hb.out, HD.out, List.all_cons, ← HX.out, hr]; simp)
        clear hr
        go_wp2_with fail
        go_ret
        exact ⟨by rw [e.out]; rfl, rfl⟩
      · have hr : inN c = true := by simp [inN]; omega
        have da : decide ((c : Int) < 97) = true := by simp; omega
        have db : decide ((122 : Int) < (c : Int)) = false := by simp; omega
        have dd : decide ((c : Int) < 65) = false := by simp; omega
        have de : decide ((90 : Int) < (c : Int)) = false := by simp; omega
        have df : decide ((c : Int) < 48) = false := by simp; omega
        have dg : decide ((57 : Int) < (c : Int)) = true := by simp; omega
        have e1 : ((c : Int) != 46) = true := by rw [bne_iff_ne]; omega
        have e2 : ((c : Int) != 45) = true := by rw [bne_iff_ne]; omega
        clear k1 k2
        have e : Hid ((s.data.toList.all fun b => inN b.toNat) = (s.data.toList.drop (j + 1)).all fun b => inN b.toNat) := Lib.hid (by rw [hb.out, HD.out, List.all_cons, ← HX.out, hr]; rfl)
        clear hr
        go_wp2_with fail
        go_round
        case rel => exact ⟨j + 1, by omega, by go_num, e⟩
        case measure => simp [intOf]; omega
      · have hr : inN c = false := by simp [inN]; omega
        have da : decide ((c : Int) < 97) = true := by simp; omega
        have db : decide ((122 : Int) < (c : Int)) = false := by simp; omega
        have dd : decide ((c : Int) < 65) = false := by simp; omega
        have de : decide ((90 : Int) < (c : Int)) = true := by simp; omega
        have df : decide ((c : Int) < 48) = false := by simp; omega
        have dg : decide ((57 : Int) < (c : Int)) = true := by simp; omega
        have e1 : ((c : Int) != 46) = true := by rw [bne_iff_ne]; omega
        have e2 : ((c : Int) != 45) = true := by rw [bne_iff_ne]; omega
        clear k1 k2
        have e : Hid (nmB s = false) := Lib.hid (by unfold nmB; rw [hb.out, HD.out, List.all_cons, ← HX.out, hr]; simp)
        clear hr
        go_wp2_with fail
        go_ret
        exact ⟨by rw [e.out]; rfl, rfl⟩
      · have hr : inN c = true := by simp [inN]; omega
        have da : decide ((c : Int) < 97) = false := by simp; omega
        have db : decide ((122 : Int) < (c : Int)) = false := by simp; omega
        have dd : decide ((c : Int) < 65) = false := by simp; omega
        have de : decide ((90 : Int) < (c : Int)) = true := by simp; omega
        have df : decide ((c : Int) < 48) = false := by simp; omega
        have dg : decide ((57 : Int) < (c : Int)) = true := by simp; omega
        have e1 : ((c : Int) != 46) = true := by rw [bne_iff_ne]; omega
        have e2 : ((c : Int) != 45) = true := by rw [bne_iff_ne]; omega
        clear k1 k2
        have e : Hid ((s.data.toList.all fun b => inN b.toNat) = (s.data.toList.drop (j + 1)).all fun b => inN b.toNat) := Lib.hid (by rw [hb.out, HD.out, List.all_cons, ← HX.out, hr]; rfl)
        clear hr
        go_wp2_with fail
        go_round
        case rel => exact ⟨j + 1, by omega, by go_num, e⟩
        case measure => simp [intOf]; omega
      · have hr : inN c = false := by simp [inN]; omega
        have da : decide ((c : Int) < 97) = false := by simp; omega
        have db : decide ((122 : Int) < (c : Int)) = true := by simp; omega
        have dd : decide ((c : Int) < 65) = false := by simp; omega
        have de : decide ((90 : Int) < (c : Int)) = true := by simp; omega
        have df : decide ((c : Int) < 48) = false := by simp; omega
        have dg : decide ((57 : Int) < (c : Int)) = true := by simp; omega
        have e1 : ((c : Int) != 46) = true := by rw [bne_iff_ne]; omega
        have e2 : ((c : Int) != 45) = true := by rw [bne_iff_ne]; omega
        clear k1 k2
        have e : Hid (nmB s = false) := Lib.hid (by unfold nmB; rw [hb.out, HD.out, List.all_cons, ← HX.out, hr]; simp)
        clear hr
        go_wp2_with fail
        go_ret
        exact ⟨by rw [e.out]; rfl, rfl⟩
    · obtain rfl : j = s.size := by omega
      have hall : (s.data.toList.all fun b => inN b.toNat) = true := by rw [hb.out, List.drop_of_length_le (by omega)]; rfl
      by_cases k1 : 1 ≤ s.size
      · have d1 : decide ((1 : Int) ≤ (s.size : Int)) = true := by simp; omega
        by_cases k2 : s.size ≤ 40
        · have d2 : decide ((s.size : Int) ≤ 40) = true := by simp; omega
          have e : Hid (nmB s = true) := Lib.hid (by unfold nmB; rw [hall, decide_eq_true k1, decide_eq_true k2]; rfl)
          clear k1 k2 hall
          go_wp2_with fail
          go_ret
          exact ⟨by rw [e.out]; rfl, rfl⟩
        · have d2 : decide ((s.size : Int) ≤ 40) = false := by simp; omega
          have e : Hid (nmB s = false) := Lib.hid (by unfold nmB; rw [decide_eq_false k2]; simp)
          clear k1 k2 hall
          go_wp2_with fail
          go_ret
          exact ⟨by rw [e.out]; rfl, rfl⟩
      · have d1 : decide ((1 : Int) ≤ (s.size : Int)) = false := by simp; omega
        have e : Hid (nmB s = false) := Lib.hid (by unfold nmB; rw [decide_eq_false k1]; simp)
        clear k1 hall
        go_wp2_with fail
        go_ret
        exact ⟨by rw [e.out]; rfl, rfl⟩
end Go.Proofs.Ytnbknihaefkllaa.Dk
