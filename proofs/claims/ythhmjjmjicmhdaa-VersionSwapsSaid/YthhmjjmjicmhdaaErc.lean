/- The document's own: CompareBytes (taken out of ikey/XKcmp, for seats without that package's calls). -/
import Derived.Test.YthhmjjmjicmhdaaErm
namespace Go.Proofs.Ythhmjjmjicmhdaa.Ed
set_option linter.unusedVariables false
set_option linter.unusedSimpArgs false
open Go.RowKit Lift Ik
set_option maxRecDepth 100000 in
set_option maxHeartbeats 400000 in
theorem rbcmp_any (A1 A2 : Option Addr) (c1 c2 B1 B2 : Nat) (x y : List Nat) (w : World) (h1 : Lies w B1 A1 (x.map vb)) (h2 : Lies w B2 A2 (y.map vb)) (hc1 : x.length ≤ c1) (hc2 : y.length ≤ c2)
    (hm1 : x.length ≤ maxLen) (hm2 : y.length ≤ maxLen) (hx : ∀ a, a ∈ x → a < 256) (hy : ∀ a, a ∈ y → a < 256) :
    Calls Try.prog 70 #[.slice A1 x.length c1, .slice A2 y.length c2] w fun e w' => e = .returned (.int .i64 (cmpB x y)) ∧ ∃ n, w' = w.drewN n := by
  unfold maxLen at hm1 hm2
  have H1 := Lib.hid h1
  have H2 := Lib.hid h2
  have X8 := Lib.hid hx
  have Y8 := Lib.hid hy
  clear h1 h2 hx hy
  go_enter Try.func70, Try.ntmps70
  go_wp2_with fail
  go_loopw [5] (fun i wr => ∃ k n : Nat, k ≤ x.length ∧ k ≤ y.length ∧ i = .int .i64 k ∧ Hid (wr = w.drewN n) ∧ Hid (cmpB x y = cmpB (x.drop k) (y.drop k))) (fun i _ => x.length + 1 - (intOf i).toNat)
  case atStart => exact ⟨0, 0, by omega, by omega, rfl, Lib.hid rfl, Lib.hid rfl⟩
  case round =>
    obtain ⟨k, n, hk1, hk2, rfl, hd, hv⟩ := hrel
    by_cases hlt : k < x.length ∧ k < y.length
    · obtain ⟨l1, l2⟩ := hlt
      obtain ⟨a1, e1, _, g1⟩ := H1.out.place (by simp; omega)
      obtain ⟨a2, e2, _, g2⟩ := H2.out.place (by simp; omega)
      subst e1
      subst e2
      obtain ⟨a, ha⟩ : ∃ c : Nat, x[k]? = some c := ⟨_, List.getElem?_eq_getElem l1⟩
      obtain ⟨b, hb⟩ : ∃ c : Nat, y[k]? = some c := ⟨_, List.getElem?_eq_getElem l2⟩
      have d1 : wr.cell? (a1.add k) = some (vb a) := by rw [hd.out]; simpa using cells_at g1 k a ha
      have d2 : wr.cell? (a2.add k) = some (vb b) := by rw [hd.out]; simpa using cells_at g2 k b hb
      have hs := cmpB_drop ha hb
      have HS := Lib.hid hs
      clear ha hb g1 g2 hs
      by_cases hab : a < b
      · rw [if_pos hab] at HS
        have t1 : ((a : Int) != (b : Int)) = true := by rw [bne_iff_ne]; omega
        go_wp2_with fail
        go_quiet (fail)
        go_wp2_with fail
        go_quiet (fail)
        go_wp2_with fail
        go_ret
        exact ⟨by rw [hv.out, HS.out]; rfl, _, by rw [hd.out, World.drewN_drewN, World.drewN_drewN]⟩
      · by_cases hba : b < a
        · rw [if_neg hab, if_pos hba] at HS
          have t1 : ((a : Int) != (b : Int)) = true := by rw [bne_iff_ne]; omega
          have t2 : decide ((a : Int) < (b : Int)) = false := by simp; omega
          go_wp2_with fail
          go_quiet (fail)
          go_wp2_with fail
          go_quiet (fail)
          go_wp2_with fail
          go_ret
          exact ⟨by rw [hv.out, HS.out]; rfl, _, by rw [hd.out, World.drewN_drewN, World.drewN_drewN]⟩
        · rw [if_neg hab, if_neg hba] at HS
          obtain rfl : a = b := by omega
          go_wp2_with fail
          go_quiet (fail)
          go_wp2_with fail
          go_roundw
          case rel => exact ⟨k + 1, n + nq, by omega, by omega, by go_num, Lib.hid (by rw [hd.out, World.drewN_drewN]), Lib.hid (by rw [hv.out, HS.out])⟩
          case measure => simp [intOf]; omega
    · have he := cmpB_end (x := x) (y := y) (k := k) (by omega) hk1 hk2
      have HE := Lib.hid he
      clear he
      by_cases l1 : k < x.length
      · have e : cmp3 (x.length : Int) y.length = 1 := by unfold cmp3; rw [if_neg (by omega), if_pos (by omega)]
        have q : Hid (cmpB x y = 1) := Lib.hid (by rw [hv.out, HE.out, e])
        have l2 : k = y.length := by omega
        subst l2
        clear hlt e
        go_wp2_with fail
        go_ret
        exact ⟨by rw [q.out]; rfl, n, hd.out⟩
      · have l2 : k = x.length := by omega
        subst l2
        clear hlt l1
        by_cases l3 : x.length < y.length
        · have e : cmp3 (x.length : Int) y.length = -1 := by unfold cmp3; rw [if_pos (by omega)]
          have q : Hid (cmpB x y = -1) := Lib.hid (by rw [hv.out, HE.out, e])
          clear e
          go_wp2_with fail
          go_ret
          exact ⟨by rw [q.out]; rfl, n, hd.out⟩
        · have e : cmp3 (x.length : Int) y.length = 0 := by unfold cmp3; rw [if_neg (by omega), if_neg (by omega)]
          have q : Hid (cmpB x y = 0) := Lib.hid (by rw [hv.out, HE.out, e])
          clear e
          go_wp2_with fail
          go_ret
          exact ⟨by rw [q.out]; rfl, n, hd.out⟩
end Go.Proofs.Ythhmjjmjicmhdaa.Ed
