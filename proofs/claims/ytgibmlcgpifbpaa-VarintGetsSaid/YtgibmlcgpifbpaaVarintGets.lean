/- Proved: for any bytes and any index, VarintGets of butterylaw2 answers true (Get and GetInt of package varint agree with the definition, results and errors), and its argument reads as before. Conditions: none beyond what the given row states. -/
import Derived.Test.YtgibmlcgpifbpaaLaw2
namespace Go.Proofs.Ytgibmlcgpifbpaa.varintGets
set_option linter.unusedVariables false
open Go.ChangeShapes Go.WideShapes Go.ChangeAt Go.RowKit Lift Vn Vt

theorem own : ownKnob Try.prog.godebug = none := by kernel_rfl

set_option maxRecDepth 100000 in
set_option maxHeartbeats 400000 in
theorem walk (A : Option Addr) (c : Nat) (bs : List Nat) (at' : Int) (W : World) (hl : Lies W W.heap.size A (bs.map vb)) (hcap : bs.length ≤ c) (hm : c ≤ maxLen) (hb : ∀ x, x ∈ bs → x < 256) :
    Calls Try.prog 4 #[.slice A bs.length c, .int .i64 at'] W (Yes W) := by
  have hm' : bs.length ≤ maxLen := Nat.le_trans hcap hm
  have hm2 := hm'
  unfold maxLen at hm'
  have HL := Lib.hid hl
  clear hl
  by_cases h200 : 200 < bs.length
  · go_enter Try.func4, Try.ntmps4
    go_wp2_with fail
    refine (alive_any _).mono ?_; rintro e W1 ⟨rfl, hb1⟩
    have HB1 := Lib.hid hb1
    clear hb1
    go_wp2_with fail
    go_ret
    exact ⟨rfl, HB1.out⟩
  · go_enter Try.func4, Try.ntmps4
    go_wp2_with fail
    refine (alive_any _).mono ?_; rintro e W1 ⟨rfl, hb1⟩
    have hl1 := (HL.out.below hb1).up hb1.size
    obtain ⟨v2, W2, hr2, hown, hb2, hs2⟩ := run_append_lies (P := Try.prog) (w := W1) (base := W1.heap.size) (m := bs.length) (c := c) 22 22 5 (.int .u8 0) 1 1 Try.underlying22 (by kernel_rfl) rfl (by decide)
      (fun u hu => by simp at hu; obtain ⟨_, _, rfl⟩ := hu; rfl) (World.ownsRow_nil _ _ _ _) hl1 (by simp) (by unfold maxLen; omega) (by omega) (Nat.le_refl _)
    rw [Nat.zero_add, List.nil_append] at hown
    obtain ⟨A2, c2, rfl, hc2, hm3, hl2⟩ := own_parts hown
    have hl3 := hl1.below hb2
    have g1 := get_calls A2 c2 _ bs at' W2 hl2 hc2 hm2 hb
    have g2 := getv_calls A c _ bs at' W2 hl3 hcap hm2 hb
    have g3 := geti_calls A c _ bs at' W2 hl3 hcap hm2 hb
    have g4 := getvi_calls A c _ bs at' W2 hl3 hcap hm2 hb
    generalize res bs at' = r at g1 g2 g3 g4
    obtain ⟨x, to, er⟩ := r
    simp only [told, toldi] at g1 g2 g3 g4
    generalize unz x = u at g3 g4
    have G1 := Lib.hid g1
    have G2 := Lib.hid g2
    have G3 := Lib.hid g3
    have G4 := Lib.hid g4
    have HR := Lib.hid hr2
    have HB := Lib.hid (hb1.trans (hb2.mono hb1.size))
    clear g1 g2 g3 g4 hr2 hb1 hb2 hown hl1 hl2 hl3
    go_wp2_with (at_builtin; refine wpList_append_run rfl _ _ 22 rfl rfl rfl HR.out ?_)
    refine G1.out.mono ?_; rintro e w' ⟨rfl, rfl⟩
    go_wp2_with fail
    refine G2.out.mono ?_; rintro e w' ⟨rfl, rfl⟩
    go_wp2_with fail
    refine G3.out.mono ?_; rintro e w' ⟨rfl, rfl⟩
    go_wp2_with fail
    refine G4.out.mono ?_; rintro e w' ⟨rfl, rfl⟩
    go_wp2_with (go_at_call 15; refine (num_any _ _).mono ?_; rintro e w' ⟨rfl, rfl⟩)
    go_ret
    exact ⟨rfl, HB.out⟩

set_option maxRecDepth 100000 in
theorem lifted (os : Os) (started : os.Started) (H : Type) (enc : TypeId × Value → H) :
    ReturnsInHanded {} Try.checked os 4 .any (Rows.varintGetsSpec.pre6 enc Try.prog Try.f4 Rows.varintGetsRow.domain false) (Rows.varintGetsSpec.post enc Try.prog Try.f4 false true false false) := by
  refine lift_true (C := Try.checked) own started (by kernel_rfl) Try.func4
    (ChangeSpec.witness6 (enc := enc) (C := Try.checked) false ⟨#[], #[.slice none 0 0, .int .i64 0], []⟩ 8 (by kernel_rfl) (by kernel_rfl) (by kernel_rfl) (by kernel_rfl))
    (by kernel_rfl) (by kernel_rfl) (by kernel_rfl) Try.underlying4 rfl ?_ ?_
  · intro ds hds
    match ds, hds with
    | [d1, d2], _ => exact ⟨rfl, rfl, rfl⟩
  · intro W base args ds p hval0 hA0 hlt _
    have hval : ∀ (j : Nat) t v, Try.f4.params[j]? = some t → args[j]? = some v → Value.okWide Try.prog W .any base t v := hval0
    have hA : DataW.TrodAll enc Try.prog W 0 (fun _ => true) true Try.f4.params.toList args.toList ds p := hA0
    rw [Try.params4] at hA hval
    obtain ⟨v0, vs0, d0, ds0, p0, q0, hargs, rfl, rfl, h0, r0⟩ := trodAll_cons hA
    obtain ⟨v1, vs1, d1, ds1, p1, q1, rfl, rfl, rfl, h1, r1⟩ := trodAll_cons r0
    obtain ⟨rfl, rfl, rfl⟩ := trodAll_nil r1
    obtain rfl : args = #[v0, v1] := by cases args; simp_all
    obtain ⟨A, c, zs, rfl, hc, hm, hl, hw⟩ := open_nums Try.underlying22 Try.underlying5 (by kernel_rfl) (hval 0 _ v0 rfl rfl) h0 (fun x hx => hlt x (by simp [hx]))
    obtain ⟨a1, rfl, rfl, rfl, w1⟩ := open_int Try.underlying3 (hval 1 _ v1 rfl rfl) h1
    obtain ⟨bs, rfl, hbs⟩ := bytes_nat zs hw
    rw [List.length_map] at hc ⊢
    rw [List.map_map] at hl
    exact walk A c bs a1 W hl hc hm hbs

theorem over : Rows.varintGetsRow.holds Try.pinned (OpenSpec.ofChange Rows.varintGetsSpec) :=
  OpenClaim.holds_of_wide 4 Try.f4 rfl rfl rfl rfl rfl rfl rfl ⟨rfl, rfl, rfl, rfl, rfl⟩ rfl rfl rfl rfl rfl (by kernel_rfl) Try.func4 (by kernel_rfl)
    (of_decide_eq_true (by kernel_rfl)) (by unfold Func.isWrapper; first | (rw [if_pos (by decide +kernel)]; kernel_rfl) | (rw [if_neg (by decide +kernel)]; exact ⟨rfl, rfl⟩))
    (fun os started H enc _ => lifted os started H enc)

theorem proved : Rows.VarintGetsSaid :=
  over
#print axioms proved
end Go.Proofs.Ytgibmlcgpifbpaa.varintGets
