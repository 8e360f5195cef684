/- Proved: for any entries and any restart interval, BlockBuilds of butterylaw11 answers true (Build agrees with the definition, results and errors, and All returns the entries), and its arguments read as before. Conditions: none beyond what the given row states. -/
import Derived.Test.YtobjiamdljjkjaaJb
import Derived.Deep.RegionHeld3
import Derived.Deep.QuietTactic
import Derived.BigQuiet
import Derived.LoopTactic
namespace Go.Proofs.Ytobjiamdljjkjaa.blockBuilds
set_option linter.unusedVariables false
set_option linter.unusedSimpArgs false
open Go.ChangeShapes Go.WideShapes Go.ChangeAt Go.RowKit Lift Bk Ik Sk Vn

theorem own : ownKnob Try.prog.godebug = none := by kernel_rfl

set_option maxRecDepth 100000 in
set_option maxHeartbeats 3200000 in
theorem walk (A : Option Addr) (c : Nat) (L : List D) (ev : Int) (w : World) (h1 : Ents w (· < w.heap.size) A c L) :
    Calls Try.prog 3 #[.slice A L.length c, .int .i64 ev] w (Bk.Yes w) := by
  have H1 := Lib.hid h1
  clear h1
  go_enter Try.func3, Try.ntmps3
  go_wp2_with fail
  refine (alive_any _).mono ?_
  rintro e W1 ⟨rfl, hb1⟩
  have HB1 := Lib.hid hb1
  clear hb1
  go_wp2_with fail
  refine (big_any A c _ L W1 (H1.out.below HB1.out)).mono ?_
  rintro e W2 ⟨rfl, rfl⟩
  cases hg : bigL L
  · obtain ⟨hn60, hsm⟩ := big_no hg
    clear hg hsm
    have HBO := Lib.hid (obuild_any A c L ev W1 (H1.out.next HB1.out) (by omega))
    go_wp2_with fail
    refine HBO.out.mono ?_
    rintro e W2 ⟨v, rfl, hown, hb2⟩
    obtain ⟨A2, c2, rfl, -, -, -⟩ := own_parts hown
    have HB2 := Lib.hid (HB1.out.trans (hb2.mono HB1.out.size))
    have HO2 := Lib.hid hown
    have HBR := Lib.hid (rbuild_any A c L ev W2 (H1.out.next HB2.out))
    clear hown hb2 HBO
    go_wp2_with fail
    refine HBR.out.mono ?_
    rintro e W3 ⟨v, rfl, hown, hb3⟩
    obtain ⟨A3, c3, rfl, hc3, hm3, hl3⟩ := own_parts hown
    have HB3 := Lib.hid (HB2.out.trans (hb3.mono HB2.out.size))
    have r1 := run_str (c := c2) (Lies.of_own (own_later HO2.out hb3))
    have r2 := run_str (c := c3) hl3
    have hb8 : ∀ x, x ∈ bldB ev (L.map D.t) → x < 256 := by
      intro x hx
      by_cases hm : may (L.map D.t) = 0
      · rw [bldB_ok hm] at hx
        exact blk_byte (fun d hd => ⟨(may_zero hm).1 _ (List.mem_map.2 ⟨d, hd, rfl⟩), (H1.out.ok d hd).ok, (H1.out.ok d hd).v8⟩) x hx
      · rw [bldB_no hm] at hx; cases hx
    have hbl : (bldB ev (L.map D.t)).length ≤ 50000000 := by
      by_cases hm : may (L.map D.t) = 0
      · rw [bldB_ok hm]
        have := blk_max (every := clamp ev) (may_zero hm).1
        rw [List.length_map] at this
        omega
      · rw [bldB_no hm]; simp
    have HA := Lib.hid (oall_any A3 c3 (bldB ev (L.map D.t)) W3 hl3 hc3 hm3 hbl hb8)
    have HAB : Hid (may (L.map D.t) = 0 → allB (bldB ev (L.map D.t)) = (L.map D.t, 0)) := Lib.hid fun hm => by
      rw [bldB_ok hm]
      exact allB_ok ⟨hm, clamp ev, (clamp_in _).1, (clamp_in _).2, rfl⟩
    have hml := may_le (L.map D.t)
    clear hown hb3 hl3 hc3 hm3 HBR hb8 hbl
    generalize bldB ev (L.map D.t) = bs at *
    generalize hmm : may (L.map D.t) = mm at *
    clear hmm
    go_wp2_with fail
    refine (num_any _ W3).mono ?_
    rintro e w' ⟨rfl, rfl⟩
    go_wp2_with fail
    refine HA.out.mono ?_
    rintro e W4 ⟨hb4, A4, c4, L4, rfl, hL4, hE4⟩
    have HB4 := Lib.hid (HB3.out.trans (hb4.mono HB3.out.size))
    by_cases hm0 : mm = 0
    · have HAE := Lib.hid (HAB.out hm0)
      rw [HAE.out] at hL4 ⊢
      subst hm0
      have HSE := Lib.hid (same_entries A A4 c c4 L L4 W4 (H1.out.next HB4.out) (hE4.mono fun k hk => hk.2) hL4.symm (by have := congrArg List.length hL4; rw [List.length_map, List.length_map] at this; omega))
      clear hL4 hE4 hb4 HA r1 r2
      go_wp2_with fail
      refine (num_any _ W4).mono ?_
      rintro e w' ⟨rfl, rfl⟩
      go_wp2_with fail
      refine HSE.out.mono ?_
      rintro e W5 ⟨rfl, hb5⟩
      have HB5 := Lib.hid (HB4.out.trans (hb5.mono HB4.out.size))
      clear hb5 HSE
      go_wp2_with fail
      go_ret
      exact ⟨rfl, HB5.out⟩
    · have hm1 : ¬ (mm : Int) = 0 := by omega
      have hm2 : ((mm : Int) != 0) = true := by rw [bne_iff_ne]; exact hm1
      clear hL4 hE4 hb4 HA r1 r2 hm0
      generalize (allB bs).2 = nn at *
      go_wp2_with fail
      go_ret
      exact ⟨rfl, HB4.out⟩
  · go_wp2_with fail
    go_ret
    exact ⟨rfl, HB1.out⟩

set_option maxRecDepth 100000 in
theorem lifted (os : Os) (started : os.Started) (H : Type) (enc : TypeId × Value → H) :
    ReturnsInHanded {} Try.checked os 3 .any (Rows.blockBuildsSpec.pre6 enc Try.prog Try.f3 Rows.blockBuildsRow.domain false) (Rows.blockBuildsSpec.post enc Try.prog Try.f3 false true false false) := by
  refine lift_true (C := Try.checked) own started (by kernel_rfl) Try.func3
    (ChangeSpec.witness6 (enc := enc) (C := Try.checked) false ⟨#[], #[.slice none 0 0, .int .i64 0], []⟩ 8 (by kernel_rfl) (by kernel_rfl) (by kernel_rfl) (by kernel_rfl))
    (by kernel_rfl) (by kernel_rfl) (by kernel_rfl) Try.underlying4 rfl ?_ ?_
  · intro ds hds
    match ds, hds with
    | [d1, d2], _ => exact ⟨rfl, rfl, rfl⟩
  · intro W base args ds p hval0 hA0 hlt _
    have hval : ∀ (j : Nat) t v, Try.f3.params[j]? = some t → args[j]? = some v → Value.okWide Try.prog W .any base t v := hval0
    have hA : DataW.TrodAll enc Try.prog W 0 (fun _ => true) true Try.f3.params.toList args.toList ds p := hA0
    rw [Try.params3] at hA hval
    obtain ⟨v0, vs0, d0, ds0, p0, q0, hargs, rfl, rfl, h0, r0⟩ := trodAll_cons hA
    obtain ⟨v1, vs1, d1, ds1, p1, q1, rfl, rfl, rfl, h1, r1⟩ := trodAll_cons r0
    obtain ⟨rfl, rfl, rfl⟩ := trodAll_nil r1
    obtain rfl : args = #[v0, v1] := by cases args; simp_all
    obtain ⟨A0, c0, L0, rfl, hN0⟩ := Sk.open_ents (hval 0 _ v0 rfl rfl) h0 (fun x hx => hlt x (by simp [hx]))
    obtain ⟨a1, rfl, rfl, rfl, w1⟩ := open_int Try.underlying3 (hval 1 _ v1 rfl rfl) h1
    have b1 := i64_of w1
    exact walk A0 c0 L0 a1 W hN0

theorem over : Rows.blockBuildsRow.holds Try.pinned (OpenSpec.ofChange Rows.blockBuildsSpec) :=
  OpenClaim.holds_of_wide 3 Try.f3 rfl rfl rfl rfl rfl rfl rfl ⟨rfl, rfl, rfl, rfl, rfl⟩ rfl rfl rfl rfl rfl (by kernel_rfl) Try.func3 (by kernel_rfl)
    (of_decide_eq_true (by kernel_rfl)) (by unfold Func.isWrapper; first | (rw [if_pos (by decide +kernel)]; kernel_rfl) | (rw [if_neg (by decide +kernel)]; exact ⟨rfl, rfl⟩))
    (fun os started H enc _ => lifted os started H enc)

theorem proved : Rows.BlockBuildsSaid :=
  over
#print axioms proved
end Go.Proofs.Ytobjiamdljjkjaa.blockBuilds
