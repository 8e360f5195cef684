/- The first bytes; strings of bytes, one behind the other. -/
import Derived.Test.YtcgicfcefphgkaaDlaw6
namespace Go.Proofs.Ytcgicfcefphgkaa.Dk
set_option linter.unusedVariables false
set_option linter.unusedSimpArgs false
open Go.RowKit Go.Maps Lift Ik

def cutL (n : Int) (bs : List Nat) : List Nat := bs.take n.toNat
theorem cutL_def (n : Int) (bs : List Nat) : cutL n bs = bs.take n.toNat := rfl
theorem cut_any (A : Option Addr) (c : Nat) (bs : List Nat) (n : Int) (w : World) (hn : (Lit.int .i64 n).wf = true) (hc : bs.length ≤ c) (hl : bs.length ≤ 1000) :
    Calls Try.prog 20 #[.slice A bs.length c, .int .i64 n] w fun e w' => e = .returned (.slice A (cutL n bs).length c) ∧ w = w' := by
  rw [cutL_def]
  have hb := i64_of hn
  by_cases k1 : n < 0
  · have d1 : decide (n < 0) = true := decide_eq_true k1
    have e : (bs.take n.toNat).length = 0 := by rw [List.length_take]; omega
    rw [e]
    clear k1 e
    go_enter Try.func20, Try.ntmps20
    go_wp2_with fail
    go_ret
    exact ⟨rfl, rfl⟩
  · obtain ⟨k, rfl⟩ : ∃ k : Nat, n = (k : Int) := ⟨n.toNat, by omega⟩
    have d1 : decide ((k : Int) < 0) = false := decide_eq_false k1
    by_cases k2 : bs.length < k
    · have d2 : decide (bs.length < k) = true := decide_eq_true k2
      have e : (bs.take (k : Int).toNat).length = bs.length := by rw [List.length_take]; omega
      rw [e]
      clear k1 e
      go_enter Try.func20, Try.ntmps20
      go_wp2_with fail
      go_ret
      exact ⟨rfl, rfl⟩
    · have d2 : decide (bs.length < k) = false := decide_eq_false k2
      have e : (bs.take (k : Int).toNat).length = k := by rw [List.length_take]; omega
      rw [e]
      clear k1 e
      go_enter Try.func20, Try.ntmps20
      go_wp2_with fail
      go_ret
      exact ⟨rfl, rfl⟩
theorem str_append (x y : List Nat) : str (x ++ y) = str x ++ str y := by
  apply ByteArray.ext
  apply Array.toList_inj.1
  rw [str_list, ByteArray.data_append, Array.toList_append, str_list, str_list]
  simp [u8s]
theorem str_size (x : List Nat) : (str x).size = x.length := by
  have h := congrArg List.length (str_list x)
  rw [u8s, List.length_map, Array.length_toList] at h
  exact h
theorem add_run (x y : List Nat) (h : x.length ≤ 1000) (h2 : y.length ≤ 1000) (W : World) : Sem.run Try.prog (Op.stringOp .add (str x) (str y)) W = .ok (.string (str x ++ str y)) W :=
  run_string_add_sum (P := Try.prog) (w := W) _ _ (by rw [str_size, str_size]; omega)
theorem take_after (a b : List Nat) (k : Nat) : (a ++ b).take (a.length + k) = a ++ b.take k := by rw [List.take_append, List.take_of_length_le (by omega)]; simp
end Go.Proofs.Ytcgicfcefphgkaa.Dk
