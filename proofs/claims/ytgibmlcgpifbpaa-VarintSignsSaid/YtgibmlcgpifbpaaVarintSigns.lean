/- Proved: for any whole number n, VarintSigns of butterylaw2 answers true (n and -(n + 1) have encodings of the same length, are decoded correctly, and have one byte for n from -64 to 63). Conditions: none beyond what the given row states. -/
import Derived.Test.YtgibmlcgpifbpaaLaw2
namespace Go.Proofs.Ytgibmlcgpifbpaa.varintSigns
set_option linter.unusedVariables false
set_option linter.unusedSimpArgs false
open Go.ChangeShapes Go.WideShapes Go.ChangeAt Go.RowKit Lift Vn Vt

theorem own : ownKnob Try.prog.godebug = none := by kernel_rfl

/-- The same, of n and m = -n - 1. -/
theorem pair (n m : Int) (hm : m = -n - 1) : (enc (zig n)).length = (enc (zig m)).length := by
  by_cases h : n < 0
  · obtain ⟨q, h1, h2⟩ : ∃ q, zig m = 2 * q ∧ zig n = 2 * q + 1 := ⟨m.toNat, by unfold zig; rw [if_neg (by omega)]; omega, by unfold zig; rw [if_pos h]; omega⟩
    unfold enc
    rw [h1, h2]
    exact (encN_pair 9 q).symm
  · obtain ⟨q, h1, h2⟩ : ∃ q, zig n = 2 * q ∧ zig m = 2 * q + 1 := ⟨n.toNat, by unfold zig; rw [if_neg h]; omega, by unfold zig; rw [if_pos (by omega)]; omega⟩
    unfold enc
    rw [h1, h2]
    exact encN_pair 9 q
theorem res_whole (x : Nat) (hx : x < 18446744073709551616) : res (enc x) 0 = (x, (enc x).length, 0) := by
  have h := res_enc [] x hx
  simpa using h

set_option maxRecDepth 100000 in
set_option maxHeartbeats 800000 in
theorem walk (n : Int) (W : World) (N1 : -9223372036854775808 ≤ n) (N2 : n ≤ 9223372036854775807) : Calls Try.prog 7 #[.int .i64 n] W (Yes W) := by
  obtain ⟨m, hmn⟩ : ∃ m : Int, m = -n - 1 := ⟨_, rfl⟩
  have M1 : -9223372036854775808 ≤ m := by omega
  have M2 : m ≤ 9223372036854775807 := by omega
  have HP := Lib.hid (pair n m hmn)
  have hl1 := enc_len (zig n)
  have hl2 := enc_len (zig m)
  have hs : Hid ((n < -64 ∨ 63 < n) ∨ (enc (zig n)).length = 1) := by
    apply Lib.hid
    by_cases h : n < -64 ∨ 63 < n
    · exact .inl h
    · right; rw [enc_small _ (by unfold zig; split <;> omega)]; rfl
  have HM := Lib.hid hmn
  have hwe : wrap64 (-wrap64 (n + 1)) = m := by unfold wrap64; omega
  have hwe2 : -(n + 1) = m := by omega
  clear hmn
  go_enter Try.func7, Try.ntmps7
  go_wp2_with fail
  refine (alive_any _).mono ?_; rintro e W1 ⟨rfl, hb1⟩
  have HB1 := Lib.hid hb1
  clear hb1
  go_wp2_with fail
  refine (puti_calls none 0 n [] W1 (.inl rfl) (by simp) N1 N2).mono ?_
  intro e W2 hp
  rw [List.nil_append] at hp
  obtain ⟨A2, c2, rfl, hc2, hm2, hl2', hb2⟩ := hp.parts
  have HB2 := Lib.hid (HB1.out.trans (hb2.mono HB1.out.size))
  have L2 := Lib.hid hl2'
  clear hp hb2 hl2'
  go_wp2_with fail
  refine (puti_calls none 0 m [] W2 (.inl rfl) (by simp) M1 M2).mono ?_
  intro e W3 hp
  rw [List.nil_append] at hp
  obtain ⟨A3, c3, rfl, hc3, hm3, hl3', hb3⟩ := hp.parts
  have HB3 := Lib.hid (HB2.out.trans (hb3.mono HB2.out.size))
  have hml : maxLen = 9223372036854775807 := rfl
  have g1 := geti_calls A2 c2 _ (enc (zig n)) 0 W3 ((L2.out.below hb3)) hc2 (by omega) (enc_byte _ (zig_lt n N1 N2))
  have g2 := geti_calls A3 c3 _ (enc (zig m)) 0 W3 hl3' hc3 (by omega) (enc_byte _ (zig_lt m M1 M2))
  rw [res_whole _ (zig_lt n N1 N2)] at g1
  rw [res_whole _ (zig_lt m M1 M2)] at g2
  simp only [toldi, unz_zig] at g1 g2
  have G1 := Lib.hid g1
  have G2 := Lib.hid g2
  clear hp hb3 hl3' g1 g2 hml
  have teq : ((((enc (zig n)).length : Nat) : Int) == (((enc (zig m)).length : Nat) : Int)) = true := by rw [beq_iff_eq, HP.out]
  by_cases ha : n < -64
  · have ta : decide (n < -64) = true := by simpa using ha
    go_wp2_with fail
    refine G1.out.mono ?_; rintro e w' ⟨rfl, rfl⟩
    go_wp2_with fail
    refine G2.out.mono ?_; rintro e w' ⟨rfl, rfl⟩
    go_wp2_with (go_at_call 15; refine (num_any _ _).mono ?_; rintro e w' ⟨rfl, rfl⟩)
    go_ret
    exact ⟨rfl, HB3.out⟩
  · have ta : decide (n < -64) = false := by simpa using ha
    by_cases hb : 63 < n
    · have tb : decide (63 < n) = true := by simpa using hb
      go_wp2_with fail
      refine G1.out.mono ?_; rintro e w' ⟨rfl, rfl⟩
      go_wp2_with fail
      refine G2.out.mono ?_; rintro e w' ⟨rfl, rfl⟩
      go_wp2_with (go_at_call 15; refine (num_any _ _).mono ?_; rintro e w' ⟨rfl, rfl⟩)
      go_ret
      exact ⟨rfl, HB3.out⟩
    · have tb : decide (63 < n) = false := by simpa using hb
      have tl : ((((enc (zig n)).length : Nat) : Int) == 1) = true := by
        rw [beq_iff_eq]
        have := hs.out
        omega
      go_wp2_with fail
      refine G1.out.mono ?_; rintro e w' ⟨rfl, rfl⟩
      go_wp2_with fail
      refine G2.out.mono ?_; rintro e w' ⟨rfl, rfl⟩
      go_wp2_with (go_at_call 15; refine (num_any _ _).mono ?_; rintro e w' ⟨rfl, rfl⟩)
      go_ret
      exact ⟨rfl, HB3.out⟩

set_option maxRecDepth 100000 in
theorem lifted (os : Os) (started : os.Started) (H : Type) (enc : TypeId × Value → H) :
    ReturnsInHanded {} Try.checked os 7 .any (Rows.varintSignsSpec.pre6 enc Try.prog Try.f7 Rows.varintSignsRow.domain false) (Rows.varintSignsSpec.post enc Try.prog Try.f7 false true false false) := by
  refine lift_true (C := Try.checked) own started (by kernel_rfl) Try.func7
    (ChangeSpec.witness6 (enc := enc) (C := Try.checked) false ⟨#[], #[.int .i64 0], []⟩ 8 (by kernel_rfl) (by kernel_rfl) (by kernel_rfl) (by kernel_rfl))
    (by kernel_rfl) (by kernel_rfl) (by kernel_rfl) Try.underlying4 rfl ?_ ?_
  · intro ds hds
    match ds, hds with
    | [d1], _ => exact ⟨rfl, rfl, rfl⟩
  · intro W base args ds p hval0 hA0 hlt _
    have hval : ∀ (j : Nat) t v, Try.f7.params[j]? = some t → args[j]? = some v → Value.okWide Try.prog W .any base t v := hval0
    have hA : DataW.TrodAll enc Try.prog W 0 (fun _ => true) true Try.f7.params.toList args.toList ds p := hA0
    rw [Try.params7] at hA hval
    obtain ⟨v0, vs0, d0, ds0, p0, q0, hargs, rfl, rfl, h0, r0⟩ := trodAll_cons hA
    obtain ⟨rfl, rfl, rfl⟩ := trodAll_nil r0
    obtain rfl : args = #[v0] := by cases args; simp_all
    obtain ⟨a0, rfl, rfl, rfl, w0⟩ := open_int Try.underlying3 (hval 0 _ v0 rfl rfl) h0
    have b0 := i64_of w0
    exact walk a0 W b0.1 b0.2

theorem over : Rows.varintSignsRow.holds Try.pinned (OpenSpec.ofChange Rows.varintSignsSpec) :=
  OpenClaim.holds_of_wide 7 Try.f7 rfl rfl rfl rfl rfl rfl rfl ⟨rfl, rfl, rfl, rfl, rfl⟩ rfl rfl rfl rfl rfl (by kernel_rfl) Try.func7 (by kernel_rfl)
    (of_decide_eq_true (by kernel_rfl)) (by unfold Func.isWrapper; first | (rw [if_pos (by decide +kernel)]; kernel_rfl) | (rw [if_neg (by decide +kernel)]; exact ⟨rfl, rfl⟩))
    (fun os started H enc _ => lifted os started H enc)

theorem proved : Rows.VarintSignsSaid :=
  over
#print axioms proved
end Go.Proofs.Ytgibmlcgpifbpaa.varintSigns
