/- What Get of package varint, and the document's own GetVar, answer: one contract each, for all bytes and all places. -/
import Derived.Test.YthhmjjmjicmhdaaRows
import Derived.Test.YthhmjjmjicmhdaaLift
import Derived.Test.YthhmjjmjicmhdaaVar
import Derived.Test.YthhmjjmjicmhdaaVnum
import Derived.WalkLawsBesides
import Derived.WalkSpells
import Derived.Deep.QuietTactic
import Derived.BigQuiet
import Derived.RowKit3
import Derived.LoopTactic
import Derived.Outline
namespace Go.Proofs.Ythhmjjmjicmhdaa.Vt
set_option linter.unusedVariables false
open Go.RowKit Lift Vn
/-- A byte. -/
abbrev vb (c : Nat) : Value := .int .u8 (c : Int)
theorem bytes_at {w : World} {ad : Addr} {bs : List Nat} (h : ∀ (j : Nat) (u : Value), (bs.map vb)[j]? = some u → w.cell? (ad.add j) = some u) :
    ∀ (j c : Nat), bs[j]? = some c → w.cell? (ad.add j) = some (.int .u8 (c : Int)) :=
  fun j c hj => h j _ (by rw [List.getElem?_map, hj]; rfl)
/-- What Get and GetVar answer. -/
def ans (at' : Nat) (r : Nat × Nat × Nat) : Ending := .returned (.tuple #[.int .u64 (r.1 : Int), .int .i64 ((if r.2.2 = 0 then at' + r.2.1 else 0 : Nat) : Int), .int .i64 (r.2.2 : Int)])

theorem ans_ok {at' k : Nat} {n : Int} {m : Nat} {r : Nat × Nat × Nat} (h : r = (m, k + 1, 0)) (hn : n = (m : Int)) :
    Ending.returned (.tuple #[.int .u64 n, .int .i64 ((at' : Int) + (k : Int) + 1), .int .i64 0]) = ans at' r := by
  subst h; subst hn
  simp only [ans, if_true]
  rfl
theorem ans_bad {at' : Nat} {r : Nat × Nat × Nat} (h : r = (0, 0, 2)) :
    Ending.returned (.tuple #[.int .u64 0, .int .i64 0, .int .i64 2]) = ans at' r := by
  subst h; simp [ans]
theorem ans_short {at' : Nat} {r : Nat × Nat × Nat} (h : r = (0, 0, 4)) :
    Ending.returned (.tuple #[.int .u64 0, .int .i64 0, .int .i64 4]) = ans at' r := by
  subst h; simp [ans]

theorem dec_ok {c k y : Nat} {l : List Nat} (h : ¬ ((k = 9 ∧ 1 < c) ∨ (0 < k ∧ c = 0))) (hc : c < 128) : dec (c :: l) k y = (put k y c, k + 1, 0) := by
  simp only [dec]; rw [if_neg h, if_pos hc]
theorem dec_bad {c k y : Nat} {l : List Nat} (h : (k = 9 ∧ 1 < c) ∨ (0 < k ∧ c = 0)) : dec (c :: l) k y = (0, 0, 2) := by
  simp only [dec]; rw [if_pos h]
theorem dec_go {c k y : Nat} {l : List Nat} (h : ¬ ((k = 9 ∧ 1 < c) ∨ (0 < k ∧ c = 0))) (hc : 128 ≤ c) : dec (c :: l) k y = dec l (k + 1) (put k y c) := by
  simp only [dec]; rw [if_neg h, if_neg (by omega)]

set_option maxRecDepth 100000 in
set_option maxHeartbeats 400000 in
theorem get_any (ad : Addr) (cap at' : Nat) (bs : List Nat) (w : World) (hat : at' < bs.length) (hcap : bs.length ≤ cap) (hm : bs.length ≤ maxLen) (hb : ∀ (j c : Nat), bs[j]? = some c → c < 256)
    (hc : ∀ (j c : Nat), bs[j]? = some c → w.cell? (ad.add j) = some (.int .u8 (c : Int))) :
    Calls Try.prog 93 #[.slice (some ad) bs.length cap, .int .i64 at'] w fun e w' => e = ans at' (decAt bs at') ∧ w = w' := by
  unfold maxLen at hm
  have hb' := Lib.hid hb
  have hc' := Lib.hid hc
  clear hb hc
  have hne : ¬ cap = at' := by omega
  have d1 : decide ((at' : Int) < 0) = false := by simp
  have d2 : decide (bs.length < at') = false := by simp; omega
  go_enter Try.func93, Try.ntmps93
  go_wp2_with fail
  go_loop [7, 24] (fun x i => ∃ k y : Nat, k ≤ 9 ∧ k ≤ bs.length - at' ∧ Hid (y < 2 ^ (7 * k)) ∧ i = .int .i64 k ∧ x = .int .u64 y ∧ Hid (decAt bs at' = dec (bs.drop (at' + k)) k y)) (fun _ i => 100 - (intOf i).toNat)
  case atStart => exact ⟨0, 0, by omega, by omega, Lib.hid (by simp), rfl, rfl, rfl⟩
  case round =>
    obtain ⟨k, y, hk9, hk, hy, rfl, rfl, hd⟩ := hrel
    by_cases hlt : k < bs.length - at'
    · obtain ⟨c, hcc⟩ : ∃ c : Nat, bs[at' + k]? = some c := ⟨_, List.getElem?_eq_getElem (by omega)⟩
      have c256 := hb'.out _ _ hcc
      have hcell : w.cell? ((ad.add at').add k) = some (.int .u8 c) := by rw [add_add]; exact hc'.out _ _ hcc
      have hstep : Hid (bs.drop (at' + k) = c :: bs.drop (at' + (k + 1))) := by
        apply Lib.hid
        rw [List.drop_eq_getElem?_toList_append]
        rw [hcc]; rfl
      clear hcc hb' hc' hat hcap d1 d2
      rcases Nat.lt_or_eq_of_le hk9 with k9 | k9
      · have t9 : ((k : Int) == 9) = false := by rw [beq_eq_false_iff_ne]; omega
        clear hk9
        by_cases k0 : 0 < k
        · by_cases c0 : c = 0
          · subst c0
            go_wp2_with fail
            go_ret3
            exact ⟨ans_bad (by rw [hd.out, hstep.out]; exact dec_bad (.inr ⟨k0, rfl⟩)), rfl⟩
          · have t0 : ((c : Int) == 0) = false := by rw [beq_eq_false_iff_ne]; omega
            by_cases c8 : c < 128
            · go_wp2_with fail
              go_ret3
              exact ⟨ans_ok (by rw [hd.out, hstep.out]; exact dec_ok (by omega) c8) (group_low k y c k9 hy.out c256), rfl⟩
            · go_wp2_with fail
              go_round
              case rel => exact ⟨k + 1, put k y c, by omega, by omega, Lib.hid (put_lt _ _ _ hy.out), by go_num, by rw [group_low k y c k9 hy.out c256], Lib.hid (by rw [hd.out, hstep.out]; exact dec_go (by omega) (by omega))⟩
              case measure => simp [intOf]; omega
        · by_cases c8 : c < 128
          · go_wp2_with fail
            go_ret3
            exact ⟨ans_ok (by rw [hd.out, hstep.out]; exact dec_ok (by omega) c8) (group_low k y c k9 hy.out c256), rfl⟩
          · go_wp2_with fail
            go_round
            case rel => exact ⟨k + 1, put k y c, by omega, by omega, Lib.hid (put_lt _ _ _ hy.out), by go_num, by rw [group_low k y c k9 hy.out c256], Lib.hid (by rw [hd.out, hstep.out]; exact dec_go (by omega) (by omega))⟩
            case measure => simp [intOf]; omega
      · have t9 : ((k : Int) == 9) = true := by rw [beq_iff_eq]; omega
        have k0 : 0 < k := by omega
        have K9 := Lib.hid k9
        clear k9
        by_cases c1 : 1 < c
        · have t1 : decide (1 < (c : Int)) = true := by simp; omega
          go_wp2_with fail
          go_ret3
          exact ⟨ans_bad (by rw [hd.out, hstep.out]; exact dec_bad (.inl ⟨K9.out, c1⟩)), rfl⟩
        · have t1 : decide (1 < (c : Int)) = false := by simp; omega
          by_cases c0 : c = 0
          · have t0 : ((c : Int) == 0) = true := by rw [beq_iff_eq]; omega
            have C0 := Lib.hid c0
            clear c0
            go_wp2_with fail
            go_ret3
            exact ⟨ans_bad (by rw [hd.out, hstep.out]; exact dec_bad (.inr ⟨k0, C0.out⟩)), rfl⟩
          · have t0 : ((c : Int) == 0) = false := by rw [beq_eq_false_iff_ne]; omega
            have c8 : c < 128 := by omega
            go_wp2_with fail
            go_ret3
            exact ⟨ans_ok (by rw [hd.out, hstep.out]; exact dec_ok (by omega) c8) (group_last k y c K9.out hy.out (by omega)), rfl⟩
    · have hz : at' + k = bs.length := by omega
      have Hz := Lib.hid hz
      clear hz hb' hc'
      go_wp2_with fail
      go_ret3
      exact ⟨ans_short (by rw [hd.out, Hz.out]; simp [dec]), rfl⟩

theorem get_end (A : Option Addr) (cap : Nat) (bs : List Nat) (w : World) (hcap : bs.length ≤ cap) (hm : bs.length ≤ maxLen) :
    Calls Try.prog 93 #[.slice A bs.length cap, .int .i64 bs.length] w fun e w' => e = ans bs.length (decAt bs bs.length) ∧ w = w' := by
  unfold maxLen at hm
  have hd : Hid (decAt bs bs.length = (0, 0, 4)) := Lib.hid (by simp [decAt, dec])
  have d1 : decide ((bs.length : Int) < 0) = false := by simp
  have hs : ∀ W : World, ∃ A' : Option Addr, Sem.run Try.prog (Instr.slice 29 (.slice A bs.length cap) (some (.int .i64 bs.length)) none none) W = .ok (.slice A' 0 (cap - bs.length)) W := fun W => by
    by_cases hc : cap = bs.length
    · exact ⟨A, by go_simp⟩
    · exact ⟨Option.map (fun x => x.add bs.length) A, by go_simp⟩
  obtain ⟨A', hs'⟩ := hs w
  go_enter Try.func93, Try.ntmps93
  go_wp2_with fail
  refine wp_loop_rounds 1 ?_
  rw [rounds_succ]
  go_wp2_with fail
  go_ret3
  exact ⟨ans_short hd.out, rfl⟩

theorem get_off (A : Option Addr) (cap : Nat) (n : Nat) (at' : Int) (w : World) (h : at' < 0 ∨ (n : Int) < at') :
    Calls Try.prog 93 #[.slice A n cap, .int .i64 at'] w fun e w' => e = .returned (.tuple #[.int .u64 0, .int .i64 0, .int .i64 1]) ∧ w = w' := by
  by_cases h0 : at' < 0
  · clear h
    go_enter Try.func93, Try.ntmps93
    go_wp2_with fail
    go_ret3
    exact ⟨rfl, rfl⟩
  · have h1 : (n : Int) < at' := by omega
    have h2 : decide (at' < 0) = false := by simp; omega
    clear h h0
    go_enter Try.func93, Try.ntmps93
    go_wp2_with fail
    go_ret3
    exact ⟨rfl, rfl⟩

/-- What is answered of all bytes, at all places. -/
def res (bs : List Nat) (at' : Int) : Nat × Nat × Nat :=
  if at' < 0 ∨ (bs.length : Int) < at' then (0, 0, 1) else ((decAt bs at'.toNat).1, if (decAt bs at'.toNat).2.2 = 0 then at'.toNat + (decAt bs at'.toNat).2.1 else 0, (decAt bs at'.toNat).2.2)
def told (r : Nat × Nat × Nat) : Ending := .returned (.tuple #[.int .u64 (r.1 : Int), .int .i64 (r.2.1 : Int), .int .i64 (r.2.2 : Int)])

theorem get_calls (A : Option Addr) (cap B : Nat) (bs : List Nat) (at' : Int) (w : World) (hl : Lies w B A (bs.map vb)) (hcap : bs.length ≤ cap) (hm : bs.length ≤ maxLen) (hb : ∀ c, c ∈ bs → c < 256) :
    Calls Try.prog 93 #[.slice A bs.length cap, .int .i64 at'] w fun e w' => e = told (res bs at') ∧ w = w' := by
  by_cases h : at' < 0 ∨ (bs.length : Int) < at'
  · refine (get_off A cap _ at' w h).mono ?_
    rintro e w' ⟨rfl, rfl⟩
    exact ⟨by simp [told, res, h], rfl⟩
  · obtain ⟨k, rfl⟩ : ∃ k : Nat, at' = (k : Int) := ⟨at'.toNat, by omega⟩
    have e1 : told (res bs (k : Int)) = ans k (decAt bs k) := by
      simp only [told, res, if_neg h, Int.toNat_natCast, ans]
    rw [e1]
    by_cases hk : k < bs.length
    · obtain ⟨ad, rfl, _, hc⟩ := hl.place (by simp; omega)
      exact get_any ad cap k bs w hk hcap hm (fun j c hj => hb c (List.mem_of_getElem? hj)) (bytes_at hc)
    · obtain rfl : k = bs.length := by omega
      exact get_end A cap bs w hcap hm
end Go.Proofs.Ythhmjjmjicmhdaa.Vt
