/- Proved: for any two lists of operations, BatchSizes of butterylaw5 answers true (Size of a concatenation is the sum of the Sizes, and each operation counts at least 16), and its arguments read as before. Conditions: none beyond what the given row states. -/
import Derived.Test.YtggliedlfccicaaBlaw5
namespace Go.Proofs.Ytggliedlfccicaa.batchSizes
set_option linter.unusedVariables false
set_option linter.unusedSimpArgs false
open Go.ChangeShapes Go.WideShapes Go.ChangeAt Go.RowKit Lift Bt Ik

theorem own : ownKnob Try.prog.godebug = none := by kernel_rfl

theorem sizeD_app (L M : List D) : sizeD (L ++ M) = sizeD L + sizeD M := by simp [sizeD]
theorem sizeD_ge (L : List D) : 16 * L.length ≤ sizeD L := by
  induction L with
  | nil => simp [sizeD]
  | cons d L ih => simp only [sizeD, List.map_cons, List.sum_cons, List.length_cons] at ih ⊢; omega
set_option maxRecDepth 100000 in
set_option maxHeartbeats 1600000 in
theorem walk (A1 A2 : Option Addr) (c1 c2 : Nat) (L M : List D) (w : World) (h1 : Ops w w.heap.size A1 c1 L) (h2 : Ops w w.heap.size A2 c2 M) : Calls Try.prog 7 #[.slice A1 L.length c1, .slice A2 M.length c2] w (Yes w) := by
  have O1 := Lib.hid h1
  have O2 := Lib.hid h2
  clear h1 h2
  go_enter Try.func7, Try.ntmps7
  go_wp2_with fail
  refine (alive_any _).mono ?_; rintro e W1 ⟨rfl, hb1⟩
  have HB1 := Lib.hid hb1
  clear hb1
  go_wp2_with fail
  refine (big_any A1 c1 _ L W1 (O1.out.below HB1.out)).mono ?_; rintro e W2 ⟨rfl, rfl⟩
  cases hg1 : bigB L
  · go_wp2_with fail
    refine (big_any A2 c2 _ M W1 (O2.out.below HB1.out)).mono ?_; rintro e W2 ⟨rfl, rfl⟩
    cases hg2 : bigB M
    · obtain ⟨nL, sL⟩ := big_no hg1
      obtain ⟨nM, sM⟩ := big_no hg2
      have tL := sizeD_le sL
      have tM := sizeD_le sM
      have SL := Lib.hid sL
      have SM := Lib.hid sM
      clear hg1 hg2 sL sM
      obtain ⟨v2, W2, hr2, hown2, hb2, _⟩ := append_ops (w := W1) (base := W1.heap.size) (v := .slice none 0 0) (L := []) (M := L) (c := c1) (World.ownsRow_nil _ _ _ _) ((O1.out.below HB1.out).lies) (by simp; omega) (Nat.le_refl _)
      rw [List.nil_append] at hown2
      obtain ⟨v3, W3, hr3, hown3, hb3, _⟩ := append_ops (M := M) (c := c2) hown2 ((O2.out.below (HB1.out.trans (hb2.mono HB1.out.size))).lies) (by omega) hb2.size
      have hb13 := HB1.out.trans ((hb2.trans hb3).mono HB1.out.size)
      obtain ⟨A3, c3, rfl, hc3, hm3, hl3⟩ := own_parts hown3
      have O13 := O1.out.next hb13
      have O23 := O2.out.next hb13
      have O3 : Ops W3 W3.heap.size A3 c3 (L ++ M) := ⟨hl3, hc3, hm3, fun d hd => (List.mem_append.1 hd).elim (fun h => O13.ok d h) fun h => O23.ok d h⟩
      have HR2 := Lib.hid hr2
      have HR3 := Lib.hid hr3
      have H13 := Lib.hid hb13
      have K := Lib.hid O3
      have K1 := Lib.hid O13
      have K2 := Lib.hid O23
      have S3 := Lib.hid (sizeD_app L M)
      have G3 := Lib.hid (sizeD_ge L)
      rw [List.length_append] at HR3
      have hn3 : (L ++ M).length = L.length + M.length := List.length_append
      clear hr2 hown2 hb2 hr3 hown3 hb3 hb13 hc3 hm3 hl3 O13 O23 O3
      go_wp2_with (at_builtin; first | refine wpList_append_run rfl _ _ 23 rfl rfl rfl HR2.out ?_ | refine wpList_append_run rfl _ _ 23 rfl rfl rfl HR3.out ?_)
      have hs3 := size_any A3 c3 (L ++ M) W3 K.out (fun d hd => (List.mem_append.1 hd).elim (fun h => SL.out d h) fun h => SM.out d h) (by omega)
      rw [hn3, S3.out] at hs3
      have HS3 := Lib.hid hs3
      have H3 := Lib.hid (Below.refl W3.heap.size W3)
      have Z := Lib.hid fun W => size_any none 0 [] W (Ops.zero _ _) (by simp) (by simp)
      clear hs3 hn3
      refine (HS3.out).mono ?_; rintro e W4 ⟨rfl, hb⟩
      have H4 := Lib.hid (H3.out.trans (hb.mono H3.out.size))
      clear hb
      go_wp2_with fail
      refine (size_any A1 c1 L W4 (K1.out.next H4.out) SL.out (by omega)).mono ?_; rintro e W5 ⟨rfl, hb⟩
      have H5 := Lib.hid (H4.out.trans (hb.mono H4.out.size))
      clear hb
      go_wp2_with fail
      refine (size_any A2 c2 M W5 (K2.out.next H5.out) SM.out (by omega)).mono ?_; rintro e W6 ⟨rfl, hb⟩
      have H6 := Lib.hid (H5.out.trans (hb.mono H5.out.size))
      clear hb
      go_wp2_with fail
      refine (show Calls Try.prog 15 #[.slice none 0 0] W6 _ from Z.out W6).mono ?_; rintro e W7 ⟨rfl, hb⟩
      have H7 := Lib.hid (H6.out.trans (hb.mono H6.out.size))
      clear hb
      rw [show sizeD [] = 0 from rfl]
      go_wp2_with fail
      refine (size_any A1 c1 L W7 (K1.out.next H7.out) SL.out (by omega)).mono ?_; rintro e W8 ⟨rfl, hb⟩
      have H8 := Lib.hid (H7.out.trans (hb.mono H7.out.size))
      clear hb
      have g3 := G3.out
      have d3 : decide ((16 : Int) * (L.length : Int) ≤ (sizeD L : Int)) = true := by simp; omega
      go_wp2_with fail
      go_ret
      exact ⟨rfl, H13.out.trans (H8.out.mono H13.out.size)⟩
    · go_wp2_with fail
      go_ret
      exact ⟨rfl, HB1.out⟩
  · go_wp2_with fail
    go_ret
    exact ⟨rfl, HB1.out⟩

set_option maxRecDepth 100000 in
theorem lifted (os : Os) (started : os.Started) (H : Type) (enc : TypeId × Value → H) :
    ReturnsInHanded {} Try.checked os 7 .any (Rows.batchSizesSpec.pre6 enc Try.prog Try.f7 Rows.batchSizesRow.domain false) (Rows.batchSizesSpec.post enc Try.prog Try.f7 false true false false) := by
  refine lift_true (C := Try.checked) own started (by kernel_rfl) Try.func7
    (ChangeSpec.witness6 (enc := enc) (C := Try.checked) false ⟨#[], #[.slice none 0 0, .slice none 0 0], []⟩ 8 (by kernel_rfl) (by kernel_rfl) (by kernel_rfl) (by kernel_rfl))
    (by kernel_rfl) (by kernel_rfl) (by kernel_rfl) Try.underlying4 rfl ?_ ?_
  · intro ds hds
    match ds, hds with
    | [d1, d2], _ => exact ⟨rfl, rfl, rfl⟩
  · intro W base args ds p hval0 hA0 hlt _
    have hval : ∀ (j : Nat) t v, Try.f7.params[j]? = some t → args[j]? = some v → Value.okWide Try.prog W .any base t v := hval0
    have hA : DataW.TrodAll enc Try.prog W 0 (fun _ => true) true Try.f7.params.toList args.toList ds p := hA0
    rw [Try.params7] at hA hval
    obtain ⟨v0, vs0, d0, ds0, p0, q0, hargs, rfl, rfl, h0, r0⟩ := trodAll_cons hA
    obtain ⟨v1, vs1, d1, ds1, p1, q1, rfl, rfl, rfl, h1, r1⟩ := trodAll_cons r0
    obtain ⟨rfl, rfl, rfl⟩ := trodAll_nil r1
    obtain rfl : args = #[v0, v1] := by cases args; simp_all
    obtain ⟨A0, c0, L0, rfl, hO0⟩ := Bt.open_ops (hval 0 _ v0 rfl rfl) h0 (fun x hx => hlt x (by simp [hx]))
    obtain ⟨A1, c1, L1, rfl, hO1⟩ := Bt.open_ops (hval 1 _ v1 rfl rfl) h1 (fun x hx => hlt x (by simp [hx]))
    exact walk A0 A1 c0 c1 L0 L1 W hO0 hO1

theorem over : Rows.batchSizesRow.holds Try.pinned (OpenSpec.ofChange Rows.batchSizesSpec) :=
  OpenClaim.holds_of_wide 7 Try.f7 rfl rfl rfl rfl rfl rfl rfl ⟨rfl, rfl, rfl, rfl, rfl⟩ rfl rfl rfl rfl rfl (by kernel_rfl) Try.func7 (by kernel_rfl)
    (of_decide_eq_true (by kernel_rfl)) (by unfold Func.isWrapper; first | (rw [if_pos (by decide +kernel)]; kernel_rfl) | (rw [if_neg (by decide +kernel)]; exact ⟨rfl, rfl⟩))
    (fun os started H enc _ => lifted os started H enc)

theorem proved : Rows.BatchSizesSaid :=
  over
#print axioms proved
end Go.Proofs.Ytggliedlfccicaa.batchSizes
