/- Which numbers fit; numbers, texts and operations, appended to a slice of the call's own. -/
import Derived.Test.YtggliedlfccicaaBcheck
import Derived.Test.YtggliedlfccicaaPut
namespace Go.Proofs.Ytggliedlfccicaa.Bt
set_option linter.unusedVariables false
set_option linter.unusedSimpArgs false
open Go.RowKit Lift Ik Vn

set_option maxRecDepth 100000 in
theorem fits_any (s n : Nat) (w : World) (hs : s < 18446744073709551616) (hn : 1 ≤ n ∧ n ≤ 100) :
    Calls Try.prog 20 #[.int .u64 (s : Int), .int .u64 (n : Int)] w fun e w' => e = .returned (.bool (fits s n)) ∧ w = w' := by
  by_cases h1 : 1 ≤ s
  · have d1 : decide ((1 : Int) ≤ (s : Int)) = true := by simp; omega
    by_cases h2 : s + n ≤ 72057594037927936
    · have d2 : decide ((s : Int) ≤ 72057594037927935 - ((n : Int) - 1)) = true := by simp; omega
      have e : fits s n = true := by simp [fits]; omega
      rw [e]
      clear e
      go_enter Try.func20, Try.ntmps20
      go_wp2_with fail
      go_ret
      exact ⟨rfl, rfl⟩
    · have d2 : decide ((s : Int) ≤ 72057594037927935 - ((n : Int) - 1)) = false := by simp; omega
      have e : fits s n = false := by simp [fits]; omega
      rw [e]
      clear e
      go_enter Try.func20, Try.ntmps20
      go_wp2_with fail
      go_ret
      exact ⟨rfl, rfl⟩
  · have d1 : decide ((1 : Int) ≤ (s : Int)) = false := by simp; omega
    have e : fits s n = false := by simp [fits]; omega
    rw [e]
    clear e
    go_enter Try.func20, Try.ntmps20
    go_wp2_with fail
    go_ret
    exact ⟨rfl, rfl⟩
set_option maxRecDepth 100000 in
theorem rfits_any (s n : Nat) (w : World) (hs : s < 18446744073709551616) (hn : 1 ≤ n ∧ n ≤ 100) :
    Calls Try.prog 23 #[.int .u64 (s : Int), .int .i64 (n : Int)] w fun e w' => e = .returned (.bool (fits s n)) ∧ w = w' := by
  by_cases h1 : 1 ≤ s
  · have d1 : decide ((1 : Int) ≤ (s : Int)) = true := by simp; omega
    by_cases h3 : s ≤ 72057594037927935
    · have d3 : decide ((s : Int) ≤ 72057594037927935) = true := by simp; omega
      by_cases h2 : s + n ≤ 72057594037927936
      · have d2 : decide ((n : Int) - 1 ≤ 72057594037927935 - (s : Int)) = true := by simp; omega
        have e : fits s n = true := by simp [fits]; omega
        rw [e]
        clear e
        go_enter Try.func23, Try.ntmps23
        go_wp2_with fail
        go_ret
        exact ⟨rfl, rfl⟩
      · have d2 : decide ((n : Int) - 1 ≤ 72057594037927935 - (s : Int)) = false := by simp; omega
        have e : fits s n = false := by simp [fits]; omega
        rw [e]
        clear e
        go_enter Try.func23, Try.ntmps23
        go_wp2_with fail
        go_ret
        exact ⟨rfl, rfl⟩
    · have d3 : decide ((s : Int) ≤ 72057594037927935) = false := by simp; omega
      have e : fits s n = false := by simp [fits]; omega
      rw [e]
      clear e
      go_enter Try.func23, Try.ntmps23
      go_wp2_with fail
      go_ret
      exact ⟨rfl, rfl⟩
  · have d1 : decide ((1 : Int) ≤ (s : Int)) = false := by simp; omega
    have e : fits s n = false := by simp [fits]; omega
    rw [e]
    clear e
    go_enter Try.func23, Try.ntmps23
    go_wp2_with fail
    go_ret
    exact ⟨rfl, rfl⟩

set_option maxRecDepth 100000 in
set_option maxHeartbeats 400000 in
theorem number_any (base x n : Nat) (v : Value) (xs : List Nat) (w : World) (h : w.ownsRow base 5 1 v xs.length (xs.map vb)) (hbase : base ≤ w.heap.size) (hm : xs.length ≤ 140737488354000) (hx : x < 18446744073709551616) (hn : n ≤ 8) :
    Calls Try.prog 21 #[v, .int .u64 (x : Int), .int .i64 (n : Int)] w (Made base w (xs ++ low x n)) := by
  have HO := Lib.hid h
  have HZ := Lib.hid hbase
  clear h hbase
  go_enter Try.func21, Try.ntmps21
  go_wp2_with fail
  go_loopw [0, 9] (fun o i wr => ∃ j : Nat, j ≤ n ∧ i = .int .i64 j ∧ wr.ownsRow base 5 1 o (xs.length + j) ((xs ++ low x j).map vb) ∧ Hid (Below base w wr)) (fun _ i _ => 10 - (intOf i).toNat)
  case atStart => exact ⟨0, by omega, rfl, by simpa [low] using HO.out, Lib.hid (Below.refl _ _)⟩
  case round =>
    obtain ⟨j, hj, rfl, hown, hb⟩ := hrel
    by_cases hlt : j < n
    · obtain ⟨v', w1, hrun, hown1, hb1, hs1⟩ := run_append_one (P := Try.prog) (u := .int .u8 ((x : Int) / 2 ^ (8 * j) % 256)) 28 28 5 (.int .u8 0) 1 Try.underlying28 (by kernel_rfl) rfl rfl hown (by unfold maxLen; omega) (by omega) (Nat.le_trans HZ.out hb.out.size)
      rw [low_next _ _ _ _ rfl] at hown1
      have HO1 := Lib.hid hown1
      have HB3 := Lib.hid (hb.out.trans hb1)
      have HR1 := Lib.hid hrun
      clear hown hown1 hb1 hrun
      go_wp2_with (at_builtin; refine wpList_append_run rfl _ _ 28 rfl rfl rfl HR1.out ?_)
      go_roundw
      case rel => exact ⟨j + 1, by omega, by go_num, by rw [← Nat.add_assoc]; exact HO1.out, HB3⟩
      case measure => simp [intOf]; omega
    · obtain rfl : j = n := by omega
      have HO1 := Lib.hid hown
      clear hown
      go_wp2_with fail
      go_ret
      refine ⟨_, rfl, ?_, hb.out⟩
      rw [List.length_append, low_length]
      exact HO1.out

/-- Bytes onto a slice of the call's own. -/
theorem append_bytes {w : World} {base B c : Nat} {v : Value} {A : Option Addr} {xs ts : List Nat} (hown : w.ownsRow base 5 1 v xs.length (xs.map vb)) (hl : Lies w B A (ts.map vb)) (hn : xs.length + ts.length ≤ 140737488355000) (hbase : base ≤ w.heap.size) :
    ∃ v' w', Sem.run Try.prog (Builtin.append_ #[28, 28] 28 #[v, .slice A ts.length c]) w = .ok v' w' ∧ w'.ownsRow base 5 1 v' (xs ++ ts).length ((xs ++ ts).map vb) ∧ Onto v v' w w' := by
  obtain ⟨v', w', h1, h2, h3⟩ := run_append_onto (P := Try.prog) (m := ts.length) (c := c) 28 28 5 (.int .u8 0) 1 1 Try.underlying28 (by kernel_rfl) rfl (by decide)
      (fun u hu => by simp at hu; obtain ⟨_, _, rfl⟩ := hu; rfl) hown hl (by simp) (by unfold maxLen; omega) (by omega) hbase
  exact ⟨v', w', h1, by rw [List.length_append, List.map_append]; exact h2, h3⟩
/-- A slice of the call's own, with more bytes. -/
def Grew (base : Nat) (v : Value) (w : World) (bs : List Nat) (e : Ending) (w' : World) : Prop := ∃ v', e = .returned v' ∧ w'.ownsRow base 5 1 v' bs.length (bs.map vb) ∧ Onto v v' w w'
theorem made_of {B : Nat} {w w' : World} {bs : List Nat} {e : Ending} (h : Vt.Made B w bs e w') : Made B w bs e w' := h
theorem enc_len10 (x : Nat) : (enc x).length ≤ 10 := (enc_len x).2
set_option maxRecDepth 100000 in
set_option maxHeartbeats 400000 in
theorem text_any (base c : Nat) (v : Value) (A : Option Addr) (xs ts : List Nat) (w : World) (h : w.ownsRow base 5 1 v xs.length (xs.map vb)) (hl : Lies w base A (ts.map vb)) (hbase : base ≤ w.heap.size) (hm : xs.length ≤ 140737488000000) (ht : ts.length ≤ 5000) :
    Calls Try.prog 32 #[v, .slice A ts.length c] w (Grew base v w (xs ++ text ts)) := by
  have HO := Lib.hid h
  have HL := Lib.hid hl
  have HZ := Lib.hid hbase
  have hp := Vt.put_calls none 0 ts.length [] w (.inl rfl) (by simp) (by omega)
  have HP := Lib.hid hp
  have he := enc_len10 ts.length
  clear h hl hbase hp
  go_enter Try.func32, Try.ntmps32
  go_wp2_with fail
  refine HP.out.mono ?_
  intro e W1 hm1
  obtain ⟨A1, c1, rfl, _, _, hl1, hb1⟩ := (made_of hm1).parts
  rw [List.nil_append] at hl1 ⊢
  obtain ⟨v2, W2, hr2, hown2, hon2⟩ := append_bytes (w := W1) (c := c1) (own_later HO.out hb1) hl1 (by omega) (Nat.le_trans HZ.out hb1.size)
  have H2 := Lib.hid (Onto.pre hb1 hon2)
  have HB2 := Lib.hid (H2.out.below HO.out HZ.out)
  obtain ⟨v3, W3, hr3, hown3, hon3⟩ := append_bytes (c := c) hown2 (HL.out.below HB2.out) (by rw [List.length_append]; omega) (Nat.le_trans HZ.out HB2.out.size)
  have H3 := Lib.hid (H2.out.trans hon3)
  have HO3 := Lib.hid hown3
  have HR2 := Lib.hid hr2
  have HR3 := Lib.hid hr3
  clear hm1 hl1 hb1 hr2 hown2 hon2 hr3 hown3 hon3
  go_wp2_with (at_builtin; first | refine wpList_append_run rfl _ _ 28 rfl rfl rfl HR2.out ?_ | refine wpList_append_run rfl _ _ 28 rfl rfl rfl HR3.out ?_)
  go_ret
  refine ⟨_, rfl, ?_, H3.out⟩
  unfold text
  rw [← List.append_assoc]
  exact HO3.out
end Go.Proofs.Ytggliedlfccicaa.Bt
