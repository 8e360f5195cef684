/- Which keys are valid, whether two keys are one, and the example of the document: what the code answers. -/
import Derived.Test.YtobjiamdljjkjaaKord
namespace Go.Proofs.Ytobjiamdljjkjaa.Ik
set_option linter.unusedVariables false
set_option linter.unusedSimpArgs false
open Go.RowKit Lift

/-- A valid key's form. -/
def okB (n : Nat) (s : Nat) (k : Int) : Bool := decide (1 ≤ n ∧ n ≤ 256 ∧ s ≤ 72057594037927935 ∧ (k = 0 ∨ k = 1))

set_option maxHeartbeats 400000 in
theorem right_any (A : Option Addr) (c n s : Nat) (k : Int) (w : World) :
    Calls Try.prog 91 #[.agg #[.slice A n c, .int .u64 (s : Int), .int .i64 k]] w fun e w' => e = .returned (.bool (okB n s k)) ∧ Below w.heap.size w w' := by
  by_cases h1 : 1 ≤ n
  · have d1 : decide ((1 : Int) ≤ (n : Int)) = true := by simp; omega
    by_cases h2 : n ≤ 256
    · have d2 : decide ((n : Int) ≤ 256) = true := by simp; omega
      by_cases h3 : s ≤ 72057594037927935
      · have d3 : decide ((s : Int) ≤ 72057594037927935) = true := by simp; omega
        by_cases h4 : k = 0
        · subst h4
          have e : okB n s 0 = true := by simp [okB]; omega
          rw [e]
          clear e
          go_enter Try.func91, Try.ntmps91
          go_wp2_with fail
          go_ret
          exact ⟨rfl, Joins.below_alloc1 _ _⟩
        · have d4 : (k == 0) = false := by simpa using h4
          by_cases h5 : k = 1
          · subst h5
            have e : okB n s 1 = true := by simp [okB]; omega
            rw [e]
            clear e
            go_enter Try.func91, Try.ntmps91
            go_wp2_with fail
            go_ret
            exact ⟨rfl, Joins.below_alloc1 _ _⟩
          · have d5 : (k == 1) = false := by simpa using h5
            have e : okB n s k = false := by simp [okB]; omega
            rw [e]
            clear e
            go_enter Try.func91, Try.ntmps91
            go_wp2_with fail
            go_ret
            exact ⟨rfl, Joins.below_alloc1 _ _⟩
      · have d3 : decide ((s : Int) ≤ 72057594037927935) = false := by simp; omega
        by_cases h4 : k = 0
        · subst h4
          have e : okB n s 0 = false := by simp [okB]; omega
          rw [e]
          clear e
          go_enter Try.func91, Try.ntmps91
          go_wp2_with fail
          go_ret
          exact ⟨rfl, Joins.below_alloc1 _ _⟩
        · have d4 : (k == 0) = false := by simpa using h4
          by_cases h5 : k = 1
          · subst h5
            have e : okB n s 1 = false := by simp [okB]; omega
            rw [e]
            clear e
            go_enter Try.func91, Try.ntmps91
            go_wp2_with fail
            go_ret
            exact ⟨rfl, Joins.below_alloc1 _ _⟩
          · have d5 : (k == 1) = false := by simpa using h5
            have e : okB n s k = false := by simp [okB]; omega
            rw [e]
            clear e
            go_enter Try.func91, Try.ntmps91
            go_wp2_with fail
            go_ret
            exact ⟨rfl, Joins.below_alloc1 _ _⟩
    · have d2 : decide ((n : Int) ≤ 256) = false := by simp; omega
      by_cases h4 : k = 0
      · subst h4
        have e : okB n s 0 = false := by simp [okB]; omega
        rw [e]
        clear e
        go_enter Try.func91, Try.ntmps91
        go_wp2_with fail
        go_ret
        exact ⟨rfl, Joins.below_alloc1 _ _⟩
      · have d4 : (k == 0) = false := by simpa using h4
        by_cases h5 : k = 1
        · subst h5
          have e : okB n s 1 = false := by simp [okB]; omega
          rw [e]
          clear e
          go_enter Try.func91, Try.ntmps91
          go_wp2_with fail
          go_ret
          exact ⟨rfl, Joins.below_alloc1 _ _⟩
        · have d5 : (k == 1) = false := by simpa using h5
          have e : okB n s k = false := by simp [okB]; omega
          rw [e]
          clear e
          go_enter Try.func91, Try.ntmps91
          go_wp2_with fail
          go_ret
          exact ⟨rfl, Joins.below_alloc1 _ _⟩
  · have d1 : decide ((1 : Int) ≤ (n : Int)) = false := by simp; omega
    by_cases h4 : k = 0
    · subst h4
      have e : okB n s 0 = false := by simp [okB]; omega
      rw [e]
      clear e
      go_enter Try.func91, Try.ntmps91
      go_wp2_with fail
      go_ret
      exact ⟨rfl, Joins.below_alloc1 _ _⟩
    · have d4 : (k == 0) = false := by simpa using h4
      by_cases h5 : k = 1
      · subst h5
        have e : okB n s 1 = false := by simp [okB]; omega
        rw [e]
        clear e
        go_enter Try.func91, Try.ntmps91
        go_wp2_with fail
        go_ret
        exact ⟨rfl, Joins.below_alloc1 _ _⟩
      · have d5 : (k == 1) = false := by simpa using h5
        have e : okB n s k = false := by simp [okB]; omega
        rw [e]
        clear e
        go_enter Try.func91, Try.ntmps91
        go_wp2_with fail
        go_ret
        exact ⟨rfl, Joins.below_alloc1 _ _⟩

set_option maxHeartbeats 400000 in
theorem rright_any (A : Option Addr) (c n s : Nat) (k : Int) (w : World) :
    Calls Try.prog 95 #[.agg #[.slice A n c, .int .u64 (s : Int), .int .i64 k]] w fun e w' => e = .returned (.bool (okB n s k)) ∧ Below w.heap.size w w' := by
  by_cases h1 : 1 ≤ n
  · have d1 : decide ((1 : Int) ≤ (n : Int)) = true := by simp; omega
    by_cases h2 : n ≤ 256
    · have d2 : decide ((n : Int) ≤ 256) = true := by simp; omega
      by_cases h3 : s ≤ 72057594037927935
      · have d3 : decide ((s : Int) ≤ 72057594037927935) = true := by simp; omega
        by_cases h4 : k = 0
        · subst h4
          have e : okB n s 0 = true := by simp [okB]; omega
          rw [e]
          clear e
          go_enter Try.func95, Try.ntmps95
          go_wp2_with fail
          go_ret
          exact ⟨rfl, Joins.below_alloc1 _ _⟩
        · have d4 : (k == 0) = false := by simpa using h4
          by_cases h5 : k = 1
          · subst h5
            have e : okB n s 1 = true := by simp [okB]; omega
            rw [e]
            clear e
            go_enter Try.func95, Try.ntmps95
            go_wp2_with fail
            go_ret
            exact ⟨rfl, Joins.below_alloc1 _ _⟩
          · have d5 : (k == 1) = false := by simpa using h5
            have e : okB n s k = false := by simp [okB]; omega
            rw [e]
            clear e
            go_enter Try.func95, Try.ntmps95
            go_wp2_with fail
            go_ret
            exact ⟨rfl, Joins.below_alloc1 _ _⟩
      · have d3 : decide ((s : Int) ≤ 72057594037927935) = false := by simp; omega
        by_cases h4 : k = 0
        · subst h4
          have e : okB n s 0 = false := by simp [okB]; omega
          rw [e]
          clear e
          go_enter Try.func95, Try.ntmps95
          go_wp2_with fail
          go_ret
          exact ⟨rfl, Joins.below_alloc1 _ _⟩
        · have d4 : (k == 0) = false := by simpa using h4
          by_cases h5 : k = 1
          · subst h5
            have e : okB n s 1 = false := by simp [okB]; omega
            rw [e]
            clear e
            go_enter Try.func95, Try.ntmps95
            go_wp2_with fail
            go_ret
            exact ⟨rfl, Joins.below_alloc1 _ _⟩
          · have d5 : (k == 1) = false := by simpa using h5
            have e : okB n s k = false := by simp [okB]; omega
            rw [e]
            clear e
            go_enter Try.func95, Try.ntmps95
            go_wp2_with fail
            go_ret
            exact ⟨rfl, Joins.below_alloc1 _ _⟩
    · have d2 : decide ((n : Int) ≤ 256) = false := by simp; omega
      by_cases h4 : k = 0
      · subst h4
        have e : okB n s 0 = false := by simp [okB]; omega
        rw [e]
        clear e
        go_enter Try.func95, Try.ntmps95
        go_wp2_with fail
        go_ret
        exact ⟨rfl, Joins.below_alloc1 _ _⟩
      · have d4 : (k == 0) = false := by simpa using h4
        by_cases h5 : k = 1
        · subst h5
          have e : okB n s 1 = false := by simp [okB]; omega
          rw [e]
          clear e
          go_enter Try.func95, Try.ntmps95
          go_wp2_with fail
          go_ret
          exact ⟨rfl, Joins.below_alloc1 _ _⟩
        · have d5 : (k == 1) = false := by simpa using h5
          have e : okB n s k = false := by simp [okB]; omega
          rw [e]
          clear e
          go_enter Try.func95, Try.ntmps95
          go_wp2_with fail
          go_ret
          exact ⟨rfl, Joins.below_alloc1 _ _⟩
  · have d1 : decide ((1 : Int) ≤ (n : Int)) = false := by simp; omega
    by_cases h4 : k = 0
    · subst h4
      have e : okB n s 0 = false := by simp [okB]; omega
      rw [e]
      clear e
      go_enter Try.func95, Try.ntmps95
      go_wp2_with fail
      go_ret
      exact ⟨rfl, Joins.below_alloc1 _ _⟩
    · have d4 : (k == 0) = false := by simpa using h4
      by_cases h5 : k = 1
      · subst h5
        have e : okB n s 1 = false := by simp [okB]; omega
        rw [e]
        clear e
        go_enter Try.func95, Try.ntmps95
        go_wp2_with fail
        go_ret
        exact ⟨rfl, Joins.below_alloc1 _ _⟩
      · have d5 : (k == 1) = false := by simpa using h5
        have e : okB n s k = false := by simp [okB]; omega
        rw [e]
        clear e
        go_enter Try.func95, Try.ntmps95
        go_wp2_with fail
        go_ret
        exact ⟨rfl, Joins.below_alloc1 _ _⟩

/-- true, and all old memory as it was. -/
def Yes (w : World) (e : Ending) (w' : World) : Prop := e = .returned (.bool true) ∧ Below w.heap.size w w'
def sameK (a b : K) : Bool := decide (a.key = b.key ∧ a.seq = b.seq ∧ a.kind = b.kind)
theorem run_str {w : World} {B c : Nat} {A : Option Addr} {bs : List Nat} (hl : Lies w B A (bs.map vb)) : Sem.run Try.prog (convert 25 9 (.slice A bs.length c)) w = .ok (.string (str bs)) w :=
  run_string_lies (P := Try.prog) (c := c) _ _ 5 Try.underlying25 Try.underlying5 Try.underlying9 hl

set_option maxRecDepth 100000 in
set_option maxHeartbeats 400000 in
theorem rcmp_any (A1 A2 : Option Addr) (c1 c2 : Nat) (a b : K) (w : World) (h1 : At w w.heap.size A1 c1 a) (h2 : At w w.heap.size A2 c2 b) :
    Calls Try.prog 24 #[key A1 c1 a, key A2 c2 b] w fun e w' => e = .returned (.int .i64 (cmpK a b)) ∧ Below w.heap.size w w' := by
  have hb := Joins.below_alloc2 w (.cells #[.slice A1 a.key.length c1, .int .u64 (a.seq : Int), .int .i64 a.kind] 38) (.cells #[.slice A2 b.key.length c2, .int .u64 (b.seq : Int), .int .i64 b.kind] 38)
  have hr := rbcmp_any A1 A2 c1 c2 _ _ a.key b.key _ (h1.1.below hb) (h2.1.below hb) h1.2.1 h2.2.1 (Nat.le_trans h1.2.1 h1.2.2.1) (Nat.le_trans h2.2.1 h2.2.2.1) h1.2.2.2.1 h2.2.2.2.1
  clear h1 h2
  have HR := Lib.hid hr
  have HB := Lib.hid hb
  clear hr hb
  by_cases k1 : cmpB a.key b.key = 0
  · have d1 : (cmpB a.key b.key != 0) = false := by simpa using k1
    by_cases k2 : b.seq < a.seq
    · have d2 : decide ((b.seq : Int) < (a.seq : Int)) = true := by simp; omega
      have e : cmpK a b = -1 := by simp [cmpK, cmp3, *]
      rw [e]
      clear e
      go_enter Try.func24, Try.ntmps24
      go_wp2_with fail
      refine HR.out.mono ?_; rintro e w' ⟨rfl, n, rfl⟩
      go_wp2_with fail
      go_ret
      exact ⟨rfl, HB.out.trans (Joins.below_draws _ _ _)⟩
    · have d2 : decide ((b.seq : Int) < (a.seq : Int)) = false := by simp; omega
      by_cases k3 : a.seq < b.seq
      · have d3 : decide ((a.seq : Int) < (b.seq : Int)) = true := by simp; omega
        have e : cmpK a b = 1 := by simp [cmpK, cmp3, *]
        rw [e]
        clear e
        go_enter Try.func24, Try.ntmps24
        go_wp2_with fail
        refine HR.out.mono ?_; rintro e w' ⟨rfl, n, rfl⟩
        go_wp2_with fail
        go_ret
        exact ⟨rfl, HB.out.trans (Joins.below_draws _ _ _)⟩
      · have d3 : decide ((a.seq : Int) < (b.seq : Int)) = false := by simp; omega
        by_cases k4 : b.kind < a.kind
        · have d4 : decide (b.kind < a.kind) = true := by simpa using k4
          have e : cmpK a b = -1 := by simp [cmpK, cmp3, *]
          rw [e]
          clear e
          go_enter Try.func24, Try.ntmps24
          go_wp2_with fail
          refine HR.out.mono ?_; rintro e w' ⟨rfl, n, rfl⟩
          go_wp2_with fail
          go_ret
          exact ⟨rfl, HB.out.trans (Joins.below_draws _ _ _)⟩
        · have d4 : decide (b.kind < a.kind) = false := by simpa using k4
          by_cases k5 : a.kind < b.kind
          · have d5 : decide (a.kind < b.kind) = true := by simpa using k5
            have e : cmpK a b = 1 := by simp [cmpK, cmp3, *]
            rw [e]
            clear e
            go_enter Try.func24, Try.ntmps24
            go_wp2_with fail
            refine HR.out.mono ?_; rintro e w' ⟨rfl, n, rfl⟩
            go_wp2_with fail
            go_ret
            exact ⟨rfl, HB.out.trans (Joins.below_draws _ _ _)⟩
          · have d5 : decide (a.kind < b.kind) = false := by simpa using k5
            have e : cmpK a b = 0 := by simp [cmpK, cmp3, *]
            rw [e]
            clear e
            go_enter Try.func24, Try.ntmps24
            go_wp2_with fail
            refine HR.out.mono ?_; rintro e w' ⟨rfl, n, rfl⟩
            go_wp2_with fail
            go_ret
            exact ⟨rfl, HB.out.trans (Joins.below_draws _ _ _)⟩
  · have d1 : (cmpB a.key b.key != 0) = true := by simpa using k1
    have e : cmpK a b = cmpB a.key b.key := by simp [cmpK, cmp3, *]
    rw [e]
    clear e
    go_enter Try.func24, Try.ntmps24
    go_wp2_with fail
    refine HR.out.mono ?_; rintro e w' ⟨rfl, n, rfl⟩
    go_wp2_with fail
    go_ret
    exact ⟨rfl, HB.out.trans (Joins.below_draws _ _ _)⟩
end Go.Proofs.Ytobjiamdljjkjaa.Ik
