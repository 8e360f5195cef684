/- Proved: for any number, VarintShort of butterylaw2 answers true (an encoding has as few bytes as possible, and without its last byte it gives ErrShort). Conditions: none beyond what the given row states. -/
import Derived.Test.YtgibmlcgpifbpaaLaw2
namespace Go.Proofs.Ytgibmlcgpifbpaa.varintShort
set_option linter.unusedVariables false
set_option linter.unusedSimpArgs false
open Go.ChangeShapes Go.WideShapes Go.ChangeAt Go.RowKit Lift Vn Vt

theorem own : ownKnob Try.prog.godebug = none := by kernel_rfl

set_option maxRecDepth 100000 in
set_option maxHeartbeats 800000 in
theorem walk (x : Nat) (W : World) (hx : x < 18446744073709551616) : Calls Try.prog 5 #[.int .u64 x] W (Yes W) := by
  have HX := Lib.hid hx
  have hlen := enc_len x
  have hcut : Hid (res (enc x).dropLast 0 = (0, 0, 4)) := by
    apply Lib.hid
    have h := dec_cut 9 x 0 0 (by omega)
    have h' : decAt (enc x).dropLast 0 = (0, 0, 4) := by unfold decAt; rw [List.drop_zero]; exact h
    unfold res
    rw [if_neg (by omega)]
    show ((decAt (enc x).dropLast 0).1, _, _) = _
    simp only [Int.toNat_zero, h']
    rfl
  clear hx
  go_enter Try.func5, Try.ntmps5
  go_wp2_with fail
  refine (alive_any _).mono ?_; rintro e W1 ⟨rfl, hb1⟩
  have HB1 := Lib.hid hb1
  clear hb1
  go_wp2_with fail
  refine (put_calls none 0 x [] W1 (.inl rfl) (by simp) HX.out).mono ?_
  intro e W2 hp
  rw [List.nil_append] at hp
  obtain ⟨A2, c2, rfl, hc2, hm2, hl2, hb2⟩ := hp.parts
  have HB2 := Lib.hid (HB1.out.trans (hb2.mono HB1.out.size))
  have hml : maxLen = 9223372036854775807 := rfl
  have g := get_calls A2 c2 _ (enc x).dropLast 0 W2 (hl2.front ((List.dropLast_prefix (enc x)).map vb)) (by simp; omega) (by simp; omega) (fun y hy => enc_byte x HX.out y (List.dropLast_subset _ hy))
  rw [hcut.out, List.length_dropLast] at g
  simp only [told] at g
  have G := Lib.hid g
  clear hp hb2 hl2 g hcut hml
  go_wp2_with fail
  go_loopw [5, 6] (fun n y wr => ∃ k f z : Nat, k ≤ 9 ∧ Hid (k + f = 9) ∧ Hid (z < 2 * 128 ^ f) ∧ n = .int .i64 ((k : Int) + 1) ∧ y = .int .u64 ((z : Int) / 128) ∧ Hid ((enc x).length = k + (encN f z).length) ∧ W2 = wr) (fun _ y _ => (intOf y).toNat)
  case atStart => exact ⟨0, 9, x, by omega, Lib.hid rfl, Lib.hid (by have := HX.out; omega), rfl, rfl, Lib.hid (by simp [enc]), rfl⟩
  case round =>
    obtain ⟨k, f, z, hk, hkf, hz, rfl, rfl, he, rfl⟩ := hrel
    by_cases h128 : z < 128
    · have t : decide (0 < (z : Int) / 128) = false := by simp; omega
      have hn : (enc x).length = k + 1 := by
        have := he.out
        cases f with
        | zero => simpa [encN] using this
        | succ f => simpa [encN, h128] using this
      have t2 : (((enc x).length : Int) == (k : Int) + 1) = true := by rw [beq_iff_eq]; omega
      clear hn h128
      go_wp2_with fail
      refine G.out.mono ?_; rintro e w' ⟨rfl, rfl⟩
      go_wp2_with (go_at_call 15; refine (num_any _ _).mono ?_; rintro e w' ⟨rfl, rfl⟩)
      go_ret
      exact ⟨rfl, HB2.out⟩
    · have t : decide (0 < (z : Int) / 128) = true := by simp; omega
      have hz' := Lib.hid (show 128 ≤ z by omega)
      clear h128
      go_wp2_with fail
      go_roundw
      case rel =>
        obtain ⟨f, rfl⟩ : ∃ g, f = g + 1 := by
          rcases f with _ | f
          · have := hz.out; have := hz'.out; omega
          · exact ⟨f, rfl⟩
        have := hkf.out
        refine ⟨k + 1, f, z / 128, by omega, Lib.hid (by omega), Lib.hid ?_, by go_num, ?_, Lib.hid ?_, trivial⟩
        · have := hz.out; rw [Nat.pow_succ] at this; omega
        · go_num
        · have h := he.out
          rw [encN, if_neg (by have := hz'.out; omega)] at h
          rw [h, List.length_cons]; omega
      case measure => simp [intOf]; have := hz'.out; omega

set_option maxRecDepth 100000 in
theorem lifted (os : Os) (started : os.Started) (H : Type) (enc : TypeId × Value → H) :
    ReturnsInHanded {} Try.checked os 5 .any (Rows.varintShortSpec.pre6 enc Try.prog Try.f5 Rows.varintShortRow.domain false) (Rows.varintShortSpec.post enc Try.prog Try.f5 false true false false) := by
  refine lift_true (C := Try.checked) own started (by kernel_rfl) Try.func5
    (ChangeSpec.witness6 (enc := enc) (C := Try.checked) false ⟨#[], #[.int .u64 0], []⟩ 8 (by kernel_rfl) (by kernel_rfl) (by kernel_rfl) (by kernel_rfl))
    (by kernel_rfl) (by kernel_rfl) (by kernel_rfl) Try.underlying4 rfl ?_ ?_
  · intro ds hds
    match ds, hds with
    | [d1], _ => exact ⟨rfl, rfl, rfl⟩
  · intro W base args ds p hval0 hA0 hlt _
    have hval : ∀ (j : Nat) t v, Try.f5.params[j]? = some t → args[j]? = some v → Value.okWide Try.prog W .any base t v := hval0
    have hA : DataW.TrodAll enc Try.prog W 0 (fun _ => true) true Try.f5.params.toList args.toList ds p := hA0
    rw [Try.params5] at hA hval
    obtain ⟨v0, vs0, d0, ds0, p0, q0, hargs, rfl, rfl, h0, r0⟩ := trodAll_cons hA
    obtain ⟨rfl, rfl, rfl⟩ := trodAll_nil r0
    obtain rfl : args = #[v0] := by cases args; simp_all
    obtain ⟨a0, rfl, rfl, rfl, w0⟩ := open_int Try.underlying23 (hval 0 _ v0 rfl rfl) h0
    have b0 := u64_of w0
    obtain ⟨x, rfl⟩ := Int.eq_ofNat_of_zero_le b0.1
    exact walk x W (by omega)

theorem over : Rows.varintShortRow.holds Try.pinned (OpenSpec.ofChange Rows.varintShortSpec) :=
  OpenClaim.holds_of_wide 5 Try.f5 rfl rfl rfl rfl rfl rfl rfl ⟨rfl, rfl, rfl, rfl, rfl⟩ rfl rfl rfl rfl rfl (by kernel_rfl) Try.func5 (by kernel_rfl)
    (of_decide_eq_true (by kernel_rfl)) (by unfold Func.isWrapper; first | (rw [if_pos (by decide +kernel)]; kernel_rfl) | (rw [if_neg (by decide +kernel)]; exact ⟨rfl, rfl⟩))
    (fun os started H enc _ => lifted os started H enc)

theorem proved : Rows.VarintShortSaid :=
  over
#print axioms proved
end Go.Proofs.Ytgibmlcgpifbpaa.varintShort
