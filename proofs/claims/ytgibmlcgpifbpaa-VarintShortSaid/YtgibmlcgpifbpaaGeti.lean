/- What GetInt of package varint, and the document's own GetInt, answer. -/
import Derived.Test.YtgibmlcgpifbpaaGetv
namespace Go.Proofs.Ytgibmlcgpifbpaa.Vt
set_option linter.unusedVariables false
open Go.RowKit Lift Vn

/-- The number below or above nothing that x stands for. -/
def unz (x : Nat) : Int := if x % 2 = 1 then -((x / 2 : Nat) : Int) - 1 else ((x / 2 : Nat) : Int)
theorem not_i64 (x : Nat) (h : x < 18446744073709551616) : bits .xor .i64 (-1) ((x : Int) / 2) = -((x / 2 : Nat) : Int) - 1 := by
  have e : (x : Int) / 2 = ((x / 2 : Nat) : Int) := by omega
  rw [e]
  generalize hm : x / 2 = m
  have hm' : m < 9223372036854775808 := by omega
  show IntKind.i64.wrap ((BitVec.ofInt 64 (-1) ^^^ BitVec.ofInt 64 (m : Int)).toNat : Int) = _
  have h1 : (BitVec.ofInt 64 (-1)) = BitVec.allOnes 64 := by decide
  rw [h1, BitVec.allOnes_xor, BitVec.toNat_not, BitVec.ofInt_natCast, BitVec.toNat_ofNat, Nat.mod_eq_of_lt (by omega), IntKind.wrap_i64]
  omega
theorem ret_num {k : IntKind} {a b : Int} (h : a = b) : Ending.returned (.int k a) = .returned (.int k b) := by rw [h]
theorem low_bit (x : Nat) (h : x < 18446744073709551616) : bits .and .u64 (x : Int) 1 = ((x % 2 : Nat) : Int) := by
  have e := u64_and_nat x 1 h (by decide)
  rw [show ((1 : Nat) : Int) = 1 from rfl] at e
  rw [e]
  have : x &&& 1 = x % 2 := Nat.and_one_is_mod x
  rw [this]

set_option maxHeartbeats 400000 in
theorem unfold_any (x : Nat) (w : World) (h : x < 18446744073709551616) :
    Calls Try.prog 20 #[.int .u64 x] w fun e w' => e = .returned (.int .i64 (unz x)) ∧ w = w' := by
  have hb := low_bit x h
  have H := Lib.hid h
  rcases Nat.mod_two_eq_zero_or_one x with h0 | h0
  · rw [h0] at hb
    have e : Hid (unz x = ((x / 2 : Nat) : Int)) := Lib.hid (by simp [unz, h0])
    have h1 : Hid (x % 2 = 0) := Lib.hid h0
    clear h0
    go_enter Try.func20, Try.ntmps20
    go_wp2_with fail
    go_ret
    exact ⟨ret_num (by rw [e.out]; omega), rfl⟩
  · rw [h0] at hb
    have e : Hid (unz x = -((x / 2 : Nat) : Int) - 1) := Lib.hid (by simp [unz, h0])
    clear h0
    go_enter Try.func20, Try.ntmps20
    go_wp2_with fail
    go_ret
    exact ⟨ret_num (by rw [e.out, not_i64 x H.out]), rfl⟩

theorem res_lt (bs : List Nat) (at' : Int) : (res bs at').1 < 18446744073709551616 := by
  unfold res
  split
  · simp
  · exact dec_lt _ 0 0 (by omega) (by simp)
theorem res_zero (bs : List Nat) (at' : Int) (h : (res bs at').2.2 ≠ 0) : (res bs at').1 = 0 ∧ (res bs at').2.1 = 0 := by
  unfold res at h ⊢
  split
  · simp
  · rename_i h1
    rw [if_neg h1] at h
    exact ⟨dec_zero _ 0 0 h, if_neg h⟩

/-- What GetInt answers. -/
def toldi (r : Nat × Nat × Nat) : Ending := .returned (.tuple #[.int .i64 (unz r.1), .int .i64 (r.2.1 : Int), .int .i64 (r.2.2 : Int)])

theorem toldi_bad (er : Nat) : Ending.returned (.tuple #[.int .i64 0, .int .i64 0, .int .i64 (er : Int)]) = toldi (0, 0, er) := by simp [toldi, unz]
theorem toldi_of {x to : Nat} {n : Int} (h : n = unz x) : Ending.returned (.tuple #[.int .i64 n, .int .i64 (to : Int), .int .i64 0]) = toldi (x, to, 0) := by
  subst h; rfl
set_option maxHeartbeats 400000 in
theorem geti_calls (A : Option Addr) (cap B : Nat) (bs : List Nat) (at' : Int) (w : World) (hl : Lies w B A (bs.map vb)) (hcap : bs.length ≤ cap) (hm : bs.length ≤ maxLen) (hb : ∀ c, c ∈ bs → c < 256) :
    Calls Try.prog 14 #[.slice A bs.length cap, .int .i64 at'] w fun e w' => e = toldi (res bs at') ∧ w = w' := by
  have hx := res_lt bs at'
  have h0 := res_zero bs at'
  have hg := get_calls A cap B bs at' w hl hcap hm hb
  generalize res bs at' = r at *
  obtain ⟨x, to, er⟩ := r
  simp only [told] at hg hx h0
  have HG := Lib.hid hg
  clear hg hb hl
  by_cases hz : er = 0
  · subst hz
    clear h0
    go_enter Try.func14, Try.ntmps14
    go_wp2_with fail
    refine HG.out.mono ?_; rintro e w' ⟨rfl, rfl⟩
    go_wp2_with fail
    refine (unfold_any x _ hx).mono ?_; rintro e w' ⟨rfl, rfl⟩
    go_wp2_with fail
    go_ret3
    exact ⟨rfl, rfl⟩
  · have t : ((er : Int) != 0) = true := by rw [bne_iff_ne]; omega
    have t2 : ((er : Int) == 0) = false := by rw [beq_eq_false_iff_ne]; omega
    obtain ⟨rfl, rfl⟩ := h0 hz
    clear hz h0
    go_enter Try.func14, Try.ntmps14
    go_wp2_with fail
    refine HG.out.mono ?_; rintro e w' ⟨rfl, rfl⟩
    go_wp2_with fail
    go_ret3
    exact ⟨toldi_bad er, rfl⟩

set_option maxHeartbeats 400000 in
theorem getvi_calls (A : Option Addr) (cap B : Nat) (bs : List Nat) (at' : Int) (w : World) (hl : Lies w B A (bs.map vb)) (hcap : bs.length ≤ cap) (hm : bs.length ≤ maxLen) (hb : ∀ c, c ∈ bs → c < 256) :
    Calls Try.prog 17 #[.slice A bs.length cap, .int .i64 at'] w fun e w' => e = toldi (res bs at') ∧ w = w' := by
  have hx := res_lt bs at'
  have h0 := res_zero bs at'
  have hg := getv_calls A cap B bs at' w hl hcap hm hb
  generalize res bs at' = r at *
  obtain ⟨x, to, er⟩ := r
  simp only [told] at hg hx h0
  have HG := Lib.hid hg
  clear hg hb hl
  by_cases hz : er = 0
  · subst hz
    clear h0
    have hlb := low_bit x hx
    have e : Hid (unz x = if x % 2 = 1 then -((x / 2 : Nat) : Int) - 1 else ((x / 2 : Nat) : Int)) := Lib.hid rfl
    rcases Nat.mod_two_eq_zero_or_one x with h1 | h1
    · rw [h1] at hlb e
      clear h1
      go_enter Try.func17, Try.ntmps17
      go_wp2_with fail
      refine HG.out.mono ?_; rintro e w' ⟨rfl, rfl⟩
      go_wp2_with fail
      go_ret3
      exact ⟨toldi_of (by rw [e.out, if_neg (by decide)]; omega), rfl⟩
    · rw [h1] at hlb e
      clear h1
      go_enter Try.func17, Try.ntmps17
      go_wp2_with fail
      refine HG.out.mono ?_; rintro e w' ⟨rfl, rfl⟩
      go_wp2_with fail
      go_ret3
      exact ⟨toldi_of (by rw [e.out]; simp only [if_true]; omega), rfl⟩
  · have t : ((er : Int) != 0) = true := by rw [bne_iff_ne]; omega
    have t2 : ((er : Int) == 0) = false := by rw [beq_eq_false_iff_ne]; omega
    obtain ⟨rfl, rfl⟩ := h0 hz
    clear hz h0
    go_enter Try.func17, Try.ntmps17
    go_wp2_with fail
    refine HG.out.mono ?_; rintro e w' ⟨rfl, rfl⟩
    go_wp2_with fail
    go_ret3
    exact ⟨toldi_bad er, rfl⟩
end Go.Proofs.Ytgibmlcgpifbpaa.Vt
