/- Package block: a reader of packed entries: what take and next answer. -/
import Derived.Test.YtaopbgildkjpcaaOlay
import Derived.Test.YtaopbgildkjpcaaOrk
import Derived.Test.YtaopbgildkjpcaaGet
import Derived.Deep.DeepCutAuto
namespace Go.Proofs.Ytaopbgildkjpcaa.Bk
set_option linter.unusedVariables false
set_option linter.unusedSimpArgs false
open Go.RowKit Lift Ik Sk Vn
open Vt (res)
theorem dec_len : ∀ (l : List Nat) (i y : Nat), (dec l i y).2.2 = 0 → i + 1 ≤ (dec l i y).2.1 ∧ (dec l i y).2.1 ≤ i + l.length := by
  intro l
  induction l with
  | nil => intro i y h; simp [dec] at h
  | cons c l ih =>
    intro i y h
    simp only [dec] at h ⊢
    split
    · rename_i h1
      rw [if_pos h1] at h
      cases h
    · rename_i h1
      rw [if_neg h1] at h
      split
      · simp
      · rename_i h2
        rw [if_neg h2] at h
        have := ih _ _ h
        simp
        omega

theorem res_ok {bs : List Nat} {p c a : Nat} (h : res bs (p : Nat) = (c, a, 0)) : c < 18446744073709551616 ∧ p < a ∧ a ≤ bs.length := by
  unfold Vt.res at h
  by_cases h1 : ((p : Nat) : Int) < 0 ∨ (bs.length : Int) < ((p : Nat) : Int)
  · rw [if_pos h1] at h
    injection h with _ h
    injection h with _ h
    cases h
  · rw [if_neg h1, Int.toNat_natCast] at h
    injection h with hc h
    injection h with ha he
    rw [if_pos he] at ha
    have h2 := dec_len (bs.drop p) 0 0 he
    have h3 : (decAt bs p).2.1 = (dec (bs.drop p) 0 0).2.1 := rfl
    rw [List.length_drop] at h2
    refine ⟨by rw [← hc]; exact dec_lt _ 0 0 (by omega) (by simp), by omega, by omega⟩
section
variable {bs last : List Nat} {p c a n d v q f : Nat}
theorem step_a (h : (res bs p).2.2 ≠ 0 ∨ last.length < (res bs p).1) : step bs p last = none := by unfold step; rw [if_pos h]
theorem step_b (r1 : res bs p = (c, a, 0)) (hc : ¬ last.length < c) (h : (res bs (a : Nat)).2.2 ≠ 0) : step bs p last = none := by
  unfold step
  rw [r1]
  simp only
  rw [if_neg (by simpa using hc), if_pos h]
theorem step_c (r1 : res bs p = (c, a, 0)) (hc : ¬ last.length < c) (r2 : res bs (a : Nat) = (n, d, 0)) (h : (res bs (d : Nat)).2.2 ≠ 0 ∨ bs.length - (res bs (d : Nat)).2.1 < n ∨ bs.length - (res bs (d : Nat)).2.1 - n < (res bs (d : Nat)).1) : step bs p last = none := by
  unfold step
  rw [r1]
  simp only
  rw [if_neg (by simpa using hc), r2]
  simp only
  rw [if_neg (by simp), if_pos h]
theorem step_d (r1 : res bs p = (c, a, 0)) (hc : ¬ last.length < c) (r2 : res bs (a : Nat) = (n, d, 0)) (r3 : res bs (d : Nat) = (v, q, 0)) (h1 : ¬ bs.length - q < n) (h2 : ¬ bs.length - q - n < v) :
    step bs p last = if resE (last.take c ++ (bs.drop q).take n) ≠ 0 then none else some (⟨resK (last.take c ++ (bs.drop q).take n), (bs.drop (q + n)).take v⟩, last.take c ++ (bs.drop q).take n, q + n + v) := by
  unfold step
  rw [r1]
  simp only
  rw [if_neg (by simpa using hc), r2]
  simp only
  rw [if_neg (by simp), r3]
  simp only
  rw [if_neg (by omega)]
theorem loose_end (h : bs.length ≤ p) : loose bs (f + 1) p last = some [] := by unfold loose; rw [if_pos h]
theorem loose_no (h : p < bs.length) (hs : step bs p last = none) : loose bs (f + 1) p last = none := by unfold loose; rw [if_neg (by omega), hs]
theorem loose_one {t : T} {kb : List Nat} (h : p < bs.length) (hs : step bs p last = some (t, kb, q)) : loose bs (f + 1) p last = (loose bs f q kb).map (t :: ·) := by
  have e : loose bs (f + 1) p last = (if bs.length ≤ p then some [] else match step bs p last with
    | none => none
    | some (t, kb, qq) => (loose bs f qq kb).map (t :: ·)) := rfl
  rw [e, if_neg (by omega), hs]
end
theorem cut_to64 (A : Option Addr) (n c k : Nat) (h : k ≤ c) (hc : n ≤ c) (hm : c ≤ maxLen) (W : World) : Sem.run Try.prog (Instr.slice 25 (.slice A n c) none (some (.int .u64 (k : Int))) none) W = .ok (.slice A k c) W := by
  unfold maxLen at hm
  go_simp

/-- A reader's cells. -/
abbrev rcells (A : Option Addr) (n c p : Nat) (K : Value) : List Value := [.slice A n c, .int .i64 (p : Int), K]
/-- What take answers. -/
def Took (w : World) (g : Nat) (A : Option Addr) (bs : List Nat) (c p : Nat) (K : Value) (n : Nat) (e : Ending) (w' : World) : Prop :=
  (bs.length - p < n ∧ e = .returned (.tuple #[.slice none 0 0, .bool false]) ∧ ∃ q, w' = w.drewN q) ∨
  (n ≤ bs.length - p ∧ ∃ A' : Option Addr, (0 < n → A' = A.map (·.add p)) ∧ A'.isSome = A.isSome ∧ e = .returned (.tuple #[.slice A' n (c - p), .bool true]) ∧ Keep (· = g) w w' ∧ Lift.Box w' g 106 (rcells A bs.length c (p + n) K))
set_option maxRecDepth 100000 in
set_option maxHeartbeats 800000 in
theorem otake_any (g c p n : Nat) (A : Option Addr) (K : Value) (bs : List Nat) (w : World) (hx : Lift.Box w g 106 (rcells A bs.length c p K)) (hp : p ≤ bs.length) (hc : bs.length ≤ c) (hm : c ≤ maxLen) (hs : bs.length ≤ 100000000) (hn : n < 18446744073709551616) :
    Calls Try.prog 79 #[.pointer (some ⟨g, 0, none⟩), .int .u64 (n : Int)] w (Took w g A bs c p K n) := by
  have HX := Lib.hid hx
  obtain ⟨x0, x1, x2, f0, f1, f2⟩ := hx.facts3
  obtain ⟨A', hA, hsome, hcut⟩ := cut_from A bs.length c p hp hc hm
  obtain ⟨m, hmm⟩ : ∃ m, bs.length - p = m := ⟨_, rfl⟩
  have hmp : m + p = bs.length := by omega
  have hmc : m ≤ c - p := by omega
  have hcm : c - p ≤ maxLen := Nat.le_trans (Nat.sub_le _ _) hm
  have hm1 := hm
  unfold maxLen at hm1
  have HA := Lib.hid hA
  have HSO := Lib.hid hsome
  unfold Took
  rw [hmm] at hcut ⊢
  clear hx hA hsome
  have HMP := Lib.hid hmp
  by_cases h : n ≤ m
  · have hcut2 := cut_to64 A' m (c - p) n (by omega) hmc hcm
    have d1 : decide (m < n) = false := decide_eq_false (by omega)
    have d2 : decide ((m : Int) < (n : Int)) = false := decide_eq_false (by omega)
    have hn1 : n ≤ 100000000 := by omega
    have hp1 : p ≤ 100000000 := by omega
    clear hmm hmp
    go_enter Try.func79, Try.ntmps79
    go_wp2_with fail
    go_quiet (fail)
    go_wp2_with fail
    have hbd := Joins.below_draws w.heap.size w nq
    have hk1 : Keep (· = g) w ((w.drewN nq).setCell ⟨g, 1, none⟩ (.int .i64 ((p : Int) + (n : Int)))) := Keep.setCell (S := (· = g)) (p := ⟨g, 1, none⟩) (below_keep hbd) (.inr rfl) _
    have hb1 := (HX.out.below hbd HX.out.lt).set 1 (.int .i64 ((p : Int) + (n : Int)))
    have HK1 := Lib.hid hk1
    have HB1 := Lib.hid hb1
    clear hbd hk1 hb1
    generalize (w.drewN nq).setCell ⟨g, 1, none⟩ (.int .i64 ((p : Int) + (n : Int))) = W1 at *
    go_returns
    refine .inr ⟨h, A', fun h0 => HA.out (by have := HMP.out; omega), HSO.out, rfl, HK1.out, ?_⟩
    exact HB1.out
  · have d1 : decide (m < n) = true := decide_eq_true (by omega)
    have d2 : (m : Int) < (n : Int) := by omega
    have hp1 : p ≤ 100000000 := by omega
    clear hmm hmp
    go_enter Try.func79, Try.ntmps79
    go_wp2_with fail
    go_quiet (fail)
    go_wp2_with fail
    go_returns
    exact .inl ⟨by omega, rfl, _, rfl⟩
end Go.Proofs.Ytaopbgildkjpcaa.Bk
