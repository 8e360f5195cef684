/- What the document's own GetVar answers, for all bytes and all places. -/
import Derived.Test.YthhmjjmjicmhdaaGet
namespace Go.Proofs.Ythhmjjmjicmhdaa.Vt
set_option linter.unusedVariables false
open Go.RowKit Lift Vn

set_option maxRecDepth 100000 in
set_option maxHeartbeats 400000 in
theorem getv_any (ad : Addr) (cap at' : Nat) (bs : List Nat) (w : World) (hat : at' < bs.length) (hcap : bs.length ≤ cap) (hm : bs.length ≤ maxLen) (hb : ∀ (j c : Nat), bs[j]? = some c → c < 256)
    (hc : ∀ (j c : Nat), bs[j]? = some c → w.cell? (ad.add j) = some (.int .u8 (c : Int))) :
    Calls Try.prog 78 #[.slice (some ad) bs.length cap, .int .i64 at'] w fun e w' => e = ans at' (decAt bs at') ∧ w = w' := by
  unfold maxLen at hm
  have hb' := Lib.hid hb
  have hc' := Lib.hid hc
  clear hb hc
  have d1 : decide ((at' : Int) < 0) = false := by simp
  have d2 : decide (bs.length < at') = false := by simp; omega
  go_enter Try.func78, Try.ntmps78
  go_wp2_with fail
  go_loop [7, 8] (fun x i => ∃ k y : Nat, k ≤ 9 ∧ k ≤ bs.length - at' ∧ Hid (y < 2 ^ (7 * k)) ∧ i = .int .i64 k ∧ x = .int .u64 y ∧ Hid (decAt bs at' = dec (bs.drop (at' + k)) k y)) (fun _ i => 100 - (intOf i).toNat)
  case atStart => exact ⟨0, 0, by omega, by omega, Lib.hid (by simp), rfl, rfl, rfl⟩
  case round =>
    obtain ⟨k, y, hk9, hk, hy, rfl, rfl, hd⟩ := hrel
    by_cases hlt : k < bs.length - at'
    · obtain ⟨c, hcc⟩ : ∃ c : Nat, bs[at' + k]? = some c := ⟨_, List.getElem?_eq_getElem (by omega)⟩
      have c256 := hb'.out _ _ hcc
      have hcell : w.cell? (ad.add (at' + k)) = some (.int .u8 c) := hc'.out _ _ hcc
      have hstep : Hid (bs.drop (at' + k) = c :: bs.drop (at' + (k + 1))) := by
        apply Lib.hid
        rw [List.drop_eq_getElem?_toList_append]
        rw [hcc]; rfl
      clear hcc hb' hc' hat hcap d1 d2
      rcases Nat.lt_or_eq_of_le hk9 with k9 | k9
      · have t9 : ((k : Int) == 9) = false := by rw [beq_eq_false_iff_ne]; omega
        clear hk9
        by_cases k0 : 0 < k
        · by_cases c0 : c = 0
          · subst c0
            go_wp2_with fail
            go_ret3
            exact ⟨ans_bad (by rw [hd.out, hstep.out]; exact dec_bad (.inr ⟨k0, rfl⟩)), rfl⟩
          · have t0 : ((c : Int) == 0) = false := by rw [beq_eq_false_iff_ne]; omega
            by_cases c8 : c < 128
            · go_wp2_with fail
              go_ret3
              exact ⟨ans_ok (by rw [hd.out, hstep.out]; exact dec_ok (by omega) c8) (group_low' k y c k9 hy.out c256), rfl⟩
            · go_wp2_with fail
              go_round
              case rel => exact ⟨k + 1, put k y c, by omega, by omega, Lib.hid (put_lt _ _ _ hy.out), by go_num, by rw [group_low' k y c k9 hy.out c256], Lib.hid (by rw [hd.out, hstep.out]; exact dec_go (by omega) (by omega))⟩
              case measure => simp [intOf]; omega
        · by_cases c8 : c < 128
          · go_wp2_with fail
            go_ret3
            exact ⟨ans_ok (by rw [hd.out, hstep.out]; exact dec_ok (by omega) c8) (group_low' k y c k9 hy.out c256), rfl⟩
          · go_wp2_with fail
            go_round
            case rel => exact ⟨k + 1, put k y c, by omega, by omega, Lib.hid (put_lt _ _ _ hy.out), by go_num, by rw [group_low' k y c k9 hy.out c256], Lib.hid (by rw [hd.out, hstep.out]; exact dec_go (by omega) (by omega))⟩
            case measure => simp [intOf]; omega
      · have t9 : ((k : Int) == 9) = true := by rw [beq_iff_eq]; omega
        have k0 : 0 < k := by omega
        have K9 := Lib.hid k9
        clear k9
        by_cases c1 : 1 < c
        · have t1 : decide (1 < (c : Int)) = true := by simp; omega
          go_wp2_with fail
          go_ret3
          exact ⟨ans_bad (by rw [hd.out, hstep.out]; exact dec_bad (.inl ⟨K9.out, c1⟩)), rfl⟩
        · have t1 : decide (1 < (c : Int)) = false := by simp; omega
          by_cases c0 : c = 0
          · have t0 : ((c : Int) == 0) = true := by rw [beq_iff_eq]; omega
            have C0 := Lib.hid c0
            clear c0
            go_wp2_with fail
            go_ret3
            exact ⟨ans_bad (by rw [hd.out, hstep.out]; exact dec_bad (.inr ⟨k0, C0.out⟩)), rfl⟩
          · have t0 : ((c : Int) == 0) = false := by rw [beq_eq_false_iff_ne]; omega
            have c8 : c < 128 := by omega
            go_wp2_with fail
            go_ret3
            exact ⟨ans_ok (by rw [hd.out, hstep.out]; exact dec_ok (by omega) c8) (group_last' k y c K9.out hy.out (by omega)), rfl⟩
    · have hz : at' + k = bs.length := by omega
      have Hz := Lib.hid hz
      clear hz hb' hc'
      go_wp2_with fail
      go_ret3
      exact ⟨ans_short (by rw [hd.out, Hz.out]; simp [dec]), rfl⟩

theorem getv_end (A : Option Addr) (cap : Nat) (bs : List Nat) (w : World) (hcap : bs.length ≤ cap) (hm : bs.length ≤ maxLen) :
    Calls Try.prog 78 #[.slice A bs.length cap, .int .i64 bs.length] w fun e w' => e = ans bs.length (decAt bs bs.length) ∧ w = w' := by
  unfold maxLen at hm
  have hd : Hid (decAt bs bs.length = (0, 0, 4)) := Lib.hid (by simp [decAt, dec])
  have d1 : decide ((bs.length : Int) < 0) = false := by simp
  go_enter Try.func78, Try.ntmps78
  go_wp2_with fail
  refine wp_loop_rounds 1 ?_
  rw [rounds_succ]
  go_wp2_with fail
  go_ret3
  exact ⟨ans_short hd.out, rfl⟩

theorem getv_off (A : Option Addr) (cap : Nat) (n : Nat) (at' : Int) (w : World) (h : at' < 0 ∨ (n : Int) < at') :
    Calls Try.prog 78 #[.slice A n cap, .int .i64 at'] w fun e w' => e = .returned (.tuple #[.int .u64 0, .int .i64 0, .int .i64 1]) ∧ w = w' := by
  by_cases h0 : at' < 0
  · clear h
    go_enter Try.func78, Try.ntmps78
    go_wp2_with fail
    go_ret3
    exact ⟨rfl, rfl⟩
  · have h1 : (n : Int) < at' := by omega
    have h2 : decide (at' < 0) = false := by simp; omega
    clear h h0
    go_enter Try.func78, Try.ntmps78
    go_wp2_with fail
    go_ret3
    exact ⟨rfl, rfl⟩

theorem getv_calls (A : Option Addr) (cap B : Nat) (bs : List Nat) (at' : Int) (w : World) (hl : Lies w B A (bs.map vb)) (hcap : bs.length ≤ cap) (hm : bs.length ≤ maxLen) (hb : ∀ c, c ∈ bs → c < 256) :
    Calls Try.prog 78 #[.slice A bs.length cap, .int .i64 at'] w fun e w' => e = told (res bs at') ∧ w = w' := by
  by_cases h : at' < 0 ∨ (bs.length : Int) < at'
  · refine (getv_off A cap _ at' w h).mono ?_
    rintro e w' ⟨rfl, rfl⟩
    exact ⟨by simp [told, res, h], rfl⟩
  · obtain ⟨k, rfl⟩ : ∃ k : Nat, at' = (k : Int) := ⟨at'.toNat, by omega⟩
    have e1 : told (res bs (k : Int)) = ans k (decAt bs k) := by
      simp only [told, res, if_neg h, Int.toNat_natCast, ans]
    rw [e1]
    by_cases hk : k < bs.length
    · obtain ⟨ad, rfl, _, hc⟩ := hl.place (by simp; omega)
      exact getv_any ad cap k bs w hk hcap hm (fun j c hj => hb c (List.mem_of_getElem? hj)) (bytes_at hc)
    · obtain rfl : k = bs.length := by omega
      exact getv_end A cap bs w hcap hm
theorem ret_num {k : IntKind} {a b : Int} (h : a = b) : Ending.returned (.int k a) = .returned (.int k b) := by rw [h]
end Go.Proofs.Ythhmjjmjicmhdaa.Vt
