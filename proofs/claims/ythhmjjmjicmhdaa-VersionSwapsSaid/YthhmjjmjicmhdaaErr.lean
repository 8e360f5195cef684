/- The document's own: files, rightRun, RightEdit. -/
import Derived.Test.YthhmjjmjicmhdaaErc
namespace Go.Proofs.Ythhmjjmjicmhdaa.Ed
set_option linter.unusedVariables false
set_option linter.unusedSimpArgs false
open Go.RowKit Lift Ik
set_option maxRecDepth 100000 in
set_option maxHeartbeats 25600000 in
theorem rrun_any (d : D) (B : Nat) (w : World) (hd : d.Ok w (· < B)) (hB : B ≤ w.heap.size) :
    Calls Try.prog 39 #[d.v] w fun e w' => e = .returned (.bool (okR d.ru)) ∧ Below w.heap.size w w' := by
  have b1 := i64_of hd.w0
  have b2 := i64_of hd.w1
  have b3 := i64_of hd.w2
  have b4 := hd.sq
  have b5 := Nat.le_trans hd.fc hd.fm
  have b6 := Nat.le_trans hd.lc hd.lm
  have HB0 := Lib.hid (Joins.below_alloc1 w (.cells #[.int .i64 d.file, .int .i64 d.bytes, .int .i64 d.count, .slice d.firstA d.first.length d.firstC, .slice d.lastA d.last.length d.lastC, .int .u64 (d.seq : Int)] 41))
  have hlt : ∀ k, k < B → (w.alloc (.cells #[.int .i64 d.file, .int .i64 d.bytes, .int .i64 d.count, .slice d.firstA d.first.length d.firstC, .slice d.lastA d.last.length d.lastC, .int .u64 (d.seq : Int)] 41)).heap[k]? = w.heap[k]? := fun k hk => HB0.out.block k (Nat.lt_of_lt_of_le hk hB)
  have HC := Lib.hid (rbcmp_any d.firstA d.lastA d.firstC d.lastC B B d.first d.last (w.alloc (.cells #[.int .i64 d.file, .int .i64 d.bytes, .int .i64 d.count, .slice d.firstA d.first.length d.firstC, .slice d.lastA d.last.length d.lastC, .int .u64 (d.seq : Int)] 41))
    ((hd.fl.later hlt fun _ h => h).lies fun _ h => h) ((hd.ll.later hlt fun _ h => h).lies fun _ h => h) hd.fc hd.lc b5 b6 hd.f8 hd.l8)
  have HBE := Lib.hid fun m => HB0.out.trans ((Joins.below_draws _ (w.alloc (.cells #[.int .i64 d.file, .int .i64 d.bytes, .int .i64 d.count, .slice d.firstA d.first.length d.firstC, .slice d.lastA d.last.length d.lastC, .int .u64 (d.seq : Int)] 41)) m).mono HB0.out.size)
  clear hd hlt
  unfold maxLen at b5 b6
  go_enter Try.func39, Try.ntmps39
  by_cases h0 : 1 ≤ d.file
  · have t0 : decide (1 ≤ d.file) = true := decide_eq_true h0
    by_cases h1 : d.file ≤ 1099511627776
    · have t1 : decide (d.file ≤ 1099511627776) = true := decide_eq_true h1
      by_cases h2 : 1 ≤ d.bytes
      · have t2 : decide (1 ≤ d.bytes) = true := decide_eq_true h2
        by_cases h3 : d.bytes ≤ 16777216
        · have t3 : decide (d.bytes ≤ 16777216) = true := decide_eq_true h3
          by_cases h4 : 1 ≤ d.count
          · have t4 : decide (1 ≤ d.count) = true := decide_eq_true h4
            by_cases h5 : d.count ≤ 16777216
            · have t5 : decide (d.count ≤ 16777216) = true := decide_eq_true h5
              by_cases h6 : 1 ≤ (d.first.length : Int)
              · have t6 : decide (1 ≤ (d.first.length : Int)) = true := decide_eq_true h6
                have s6 : decide (1 ≤ d.first.length) = true := decide_eq_true (by omega)
                by_cases h7 : (d.first.length : Int) ≤ 256
                · have t7 : decide ((d.first.length : Int) ≤ 256) = true := decide_eq_true h7
                  have s7 : decide (d.first.length ≤ 256) = true := decide_eq_true (by omega)
                  by_cases h8 : 1 ≤ (d.last.length : Int)
                  · have t8 : decide (1 ≤ (d.last.length : Int)) = true := decide_eq_true h8
                    have s8 : decide (1 ≤ d.last.length) = true := decide_eq_true (by omega)
                    by_cases h9 : (d.last.length : Int) ≤ 256
                    · have t9 : decide ((d.last.length : Int) ≤ 256) = true := decide_eq_true h9
                      have s9 : decide (d.last.length ≤ 256) = true := decide_eq_true (by omega)
                      by_cases h10 : cmpB d.first d.last ≤ 0
                      · have t10 : decide (cmpB d.first d.last ≤ 0) = true := decide_eq_true h10
                        by_cases h11 : 1 ≤ (d.seq : Int)
                        · have t11 : decide (1 ≤ (d.seq : Int)) = true := decide_eq_true h11
                          have s11 : decide (1 ≤ d.seq) = true := decide_eq_true (by omega)
                          by_cases h12 : (d.seq : Int) ≤ 72057594037927935
                          · have t12 : decide ((d.seq : Int) ≤ 72057594037927935) = true := decide_eq_true h12
                            have s12 : decide (d.seq ≤ 72057594037927935) = true := decide_eq_true (by omega)
                            have HY : Hid (okR d.ru = true) := Lib.hid (by unfold okR D.ru; simp only [Bool.and_eq_true, decide_eq_true_eq]; exact ⟨⟨h0, h1⟩, ⟨h2, h3⟩, ⟨h4, h5⟩, ⟨by omega, by omega⟩, ⟨by omega, by omega⟩, h10, by omega, by omega⟩)
                            clear h0 h1 h2 h3 h4 h5 h6 h7 h8 h9 h10 h11 h12
                            go_wp2_with fail
                            refine HC.out.mono ?_
                            rintro e w' ⟨rfl, m, rfl⟩
                            go_wp2_with fail
                            go_ret
                            exact ⟨by rw [HY.out]; rfl, HBE.out _⟩
                          · have t12 : decide ((d.seq : Int) ≤ 72057594037927935) = false := decide_eq_false h12
                            have s12 : decide (d.seq ≤ 72057594037927935) = false := decide_eq_false (by omega)
                            have HY : Hid (okR d.ru = false) := Lib.hid (Bool.eq_false_iff.2 fun h => by have h := okR_parts h; simp only [D.ru] at h; omega)
                            clear h0 h1 h2 h3 h4 h5 h6 h7 h8 h9 h10 h11 h12
                            go_wp2_with fail
                            refine HC.out.mono ?_
                            rintro e w' ⟨rfl, m, rfl⟩
                            go_wp2_with fail
                            go_ret
                            exact ⟨by rw [HY.out]; rfl, HBE.out _⟩
                        · have t11 : decide (1 ≤ (d.seq : Int)) = false := decide_eq_false h11
                          have s11 : decide (1 ≤ d.seq) = false := decide_eq_false (by omega)
                          have HY : Hid (okR d.ru = false) := Lib.hid (Bool.eq_false_iff.2 fun h => by have h := okR_parts h; simp only [D.ru] at h; omega)
                          clear h0 h1 h2 h3 h4 h5 h6 h7 h8 h9 h10 h11
                          go_wp2_with fail
                          refine HC.out.mono ?_
                          rintro e w' ⟨rfl, m, rfl⟩
                          go_wp2_with fail
                          go_ret
                          exact ⟨by rw [HY.out]; rfl, HBE.out _⟩
                      · have t10 : decide (cmpB d.first d.last ≤ 0) = false := decide_eq_false h10
                        have HY : Hid (okR d.ru = false) := Lib.hid (Bool.eq_false_iff.2 fun h => by have h := okR_parts h; simp only [D.ru] at h; omega)
                        clear h0 h1 h2 h3 h4 h5 h6 h7 h8 h9 h10
                        go_wp2_with fail
                        refine HC.out.mono ?_
                        rintro e w' ⟨rfl, m, rfl⟩
                        go_wp2_with fail
                        go_ret
                        exact ⟨by rw [HY.out]; rfl, HBE.out _⟩
                    · have t9 : decide ((d.last.length : Int) ≤ 256) = false := decide_eq_false h9
                      have s9 : decide (d.last.length ≤ 256) = false := decide_eq_false (by omega)
                      have HY : Hid (okR d.ru = false) := Lib.hid (Bool.eq_false_iff.2 fun h => by have h := okR_parts h; simp only [D.ru] at h; omega)
                      clear h0 h1 h2 h3 h4 h5 h6 h7 h8 h9
                      go_wp2_with fail
                      go_ret
                      exact ⟨by rw [HY.out]; rfl, HB0.out⟩
                  · have t8 : decide (1 ≤ (d.last.length : Int)) = false := decide_eq_false h8
                    have s8 : decide (1 ≤ d.last.length) = false := decide_eq_false (by omega)
                    have HY : Hid (okR d.ru = false) := Lib.hid (Bool.eq_false_iff.2 fun h => by have h := okR_parts h; simp only [D.ru] at h; omega)
                    clear h0 h1 h2 h3 h4 h5 h6 h7 h8
                    go_wp2_with fail
                    go_ret
                    exact ⟨by rw [HY.out]; rfl, HB0.out⟩
                · have t7 : decide ((d.first.length : Int) ≤ 256) = false := decide_eq_false h7
                  have s7 : decide (d.first.length ≤ 256) = false := decide_eq_false (by omega)
                  have HY : Hid (okR d.ru = false) := Lib.hid (Bool.eq_false_iff.2 fun h => by have h := okR_parts h; simp only [D.ru] at h; omega)
                  clear h0 h1 h2 h3 h4 h5 h6 h7
                  go_wp2_with fail
                  go_ret
                  exact ⟨by rw [HY.out]; rfl, HB0.out⟩
              · have t6 : decide (1 ≤ (d.first.length : Int)) = false := decide_eq_false h6
                have s6 : decide (1 ≤ d.first.length) = false := decide_eq_false (by omega)
                have HY : Hid (okR d.ru = false) := Lib.hid (Bool.eq_false_iff.2 fun h => by have h := okR_parts h; simp only [D.ru] at h; omega)
                clear h0 h1 h2 h3 h4 h5 h6
                go_wp2_with fail
                go_ret
                exact ⟨by rw [HY.out]; rfl, HB0.out⟩
            · have t5 : decide (d.count ≤ 16777216) = false := decide_eq_false h5
              have HY : Hid (okR d.ru = false) := Lib.hid (Bool.eq_false_iff.2 fun h => by have h := okR_parts h; simp only [D.ru] at h; omega)
              clear h0 h1 h2 h3 h4 h5
              go_wp2_with fail
              go_ret
              exact ⟨by rw [HY.out]; rfl, HB0.out⟩
          · have t4 : decide (1 ≤ d.count) = false := decide_eq_false h4
            have HY : Hid (okR d.ru = false) := Lib.hid (Bool.eq_false_iff.2 fun h => by have h := okR_parts h; simp only [D.ru] at h; omega)
            clear h0 h1 h2 h3 h4
            go_wp2_with fail
            go_ret
            exact ⟨by rw [HY.out]; rfl, HB0.out⟩
        · have t3 : decide (d.bytes ≤ 16777216) = false := decide_eq_false h3
          have HY : Hid (okR d.ru = false) := Lib.hid (Bool.eq_false_iff.2 fun h => by have h := okR_parts h; simp only [D.ru] at h; omega)
          clear h0 h1 h2 h3
          go_wp2_with fail
          go_ret
          exact ⟨by rw [HY.out]; rfl, HB0.out⟩
      · have t2 : decide (1 ≤ d.bytes) = false := decide_eq_false h2
        have HY : Hid (okR d.ru = false) := Lib.hid (Bool.eq_false_iff.2 fun h => by have h := okR_parts h; simp only [D.ru] at h; omega)
        clear h0 h1 h2
        go_wp2_with fail
        go_ret
        exact ⟨by rw [HY.out]; rfl, HB0.out⟩
    · have t1 : decide (d.file ≤ 1099511627776) = false := decide_eq_false h1
      have HY : Hid (okR d.ru = false) := Lib.hid (Bool.eq_false_iff.2 fun h => by have h := okR_parts h; simp only [D.ru] at h; omega)
      clear h0 h1
      go_wp2_with fail
      go_ret
      exact ⟨by rw [HY.out]; rfl, HB0.out⟩
  · have t0 : decide (1 ≤ d.file) = false := decide_eq_false h0
    have HY : Hid (okR d.ru = false) := Lib.hid (Bool.eq_false_iff.2 fun h => by have h := okR_parts h; simp only [D.ru] at h; omega)
    clear h0
    go_wp2_with fail
    go_ret
    exact ⟨by rw [HY.out]; rfl, HB0.out⟩
end Go.Proofs.Ythhmjjmjicmhdaa.Ed
