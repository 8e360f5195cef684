/- Proved: for any entries, block size, restart interval and bits per key, TableBuilds of butterylaw13 answers true (Build agrees with the definition, results and errors, Check accepts and All returns what was built), and its arguments read as before. Conditions: none beyond what the given row states. -/
import Derived.Test.YtobjiamdljjkjaaGreatJf
import Derived.Deep.RegionHeld3
import Derived.Deep.QuietTactic
import Derived.BigQuiet
import Derived.LoopTactic
namespace Go.Proofs.YtobjiamdljjkjaaGreat.tableBuilds
set_option linter.unusedVariables false
set_option linter.unusedSimpArgs false
open Go.ChangeShapes Go.WideShapes Go.ChangeAt Go.RowKit Lift Tb Bk Ik Sk Vn

theorem own : ownKnob Tryz.prog.godebug = none := by kernel_rfl

set_option maxRecDepth 100000 in
set_option maxHeartbeats 3200000 in
theorem walk (A : Option Addr) (c : Nat) (L : List D) (sz ev bi : Int) (w : World) (h1 : Ents w (· < w.heap.size) A c L) :
    Calls Tryz.prog 3 #[.slice A L.length c, .int .i64 sz, .int .i64 ev, .int .i64 bi] w (Tb.Yes w) := by
  have H1 := Lib.hid h1
  clear h1
  go_enter Tryz.func3, Tryz.ntmps3
  go_wp2_with fail
  refine (Tb.alive_any _).mono ?_
  rintro e W1 ⟨rfl, hb1⟩
  have HB1 := Lib.hid hb1
  clear hb1
  go_wp2_with fail
  refine (big_any A c _ L W1 (H1.out.below HB1.out)).mono ?_
  rintro e W2 ⟨rfl, rfl⟩
  cases hg : bigL L
  · obtain ⟨hn60, hsm⟩ := big_no hg
    clear hg hsm
    have HBO := Lib.hid (obuildt_any A c L sz ev bi W1 (H1.out.next HB1.out) (by omega))
    go_wp2_with fail
    refine HBO.out.mono ?_
    rintro e W2 ⟨v, rfl, hown, hb2⟩
    obtain ⟨A2, c2, rfl, -, -, -⟩ := own_parts hown
    have HB2 := Lib.hid (HB1.out.trans (hb2.mono HB1.out.size))
    have HO2 := Lib.hid hown
    have HBR := Lib.hid (rtable_any A c L sz ev bi W2 (H1.out.next HB2.out))
    clear hown hb2 HBO
    go_wp2_with fail
    refine HBR.out.mono ?_
    rintro e W3 ⟨v, rfl, hown, hb3⟩
    obtain ⟨A3, c3, rfl, hc3, hm3, hl3⟩ := own_parts hown
    have HB3 := Lib.hid (HB2.out.trans (hb3.mono HB2.out.size))
    have r1 := runs (c := c2) (Lies.of_own (own_later HO2.out hb3))
    have r2 := runs (c := c3) hl3
    have hb8 : ∀ x, x ∈ tabB sz ev bi (L.map D.t) → x < 256 := tabB_byte fun t ht => by
      obtain ⟨d, hd, rfl⟩ := List.mem_map.1 ht
      exact ⟨(H1.out.ok d hd).ok, (H1.out.ok d hd).v8⟩
    have hbl : (tabB sz ev bi (L.map D.t)).length ≤ 3000000 := tabB_max (by rw [List.length_map]; omega)
    have HA := Lib.hid (oallt_any A3 c3 (tabB sz ev bi (L.map D.t)) W3 hl3 hc3 hm3 (by omega) hb8 same_tab)
    have HC := Lib.hid (fun (W : World) (hW : Below W3.heap.size W3 W) => ocheckt_any A3 c3 (tabB sz ev bi (L.map D.t)) W ((hl3.below hW).up hW.size) hc3 hm3 (by omega) hb8 same_tab)
    have HAB : Hid (mayT (L.map D.t) = 0 → (tallB (tabB sz ev bi (L.map D.t))).1 = L.map D.t ∧ (tallB (tabB sz ev bi (L.map D.t))).2.2 = 0) := Lib.hid fun hm => by
      obtain ⟨e1, e2, h⟩ := tabB_tall (size := sz) (every := ev) (bits := bi) hm
      rw [h]
      exact ⟨rfl, rfl⟩
    have hml := mayT_le (L.map D.t)
    clear hown hb3 hl3 hc3 hm3 HBR hb8 hbl
    generalize tabB sz ev bi (L.map D.t) = bs at *
    generalize hmm : mayT (L.map D.t) = mm at *
    clear hmm
    go_wp2_with fail
    refine (Tb.num_any _ W3).mono ?_
    rintro e w' ⟨rfl, rfl⟩
    go_wp2_with fail
    refine HA.out.mono ?_
    rintro e W4 ⟨hb4, A4, c4, L4, rfl, hL4, hE4⟩
    have HB4 := Lib.hid (HB3.out.trans (hb4.mono HB3.out.size))
    by_cases hm0 : mm = 0
    · obtain ⟨q1, q2⟩ := HAB.out hm0
      rw [q1] at hL4
      rw [q2] at HC ⊢
      subst hm0
      have HSE := Lib.hid (same_entries A A4 c c4 L L4 W4 (H1.out.next HB4.out) (hE4.mono fun k hk => hk.2) hL4.symm (by have := congrArg List.length hL4; rw [List.length_map, List.length_map] at this; omega))
      have HS4 := Lib.hid hb4
      clear hL4 hE4 hb4 HA r1 r2 HAB q1 q2
      go_wp2_with fail
      refine (Tb.num_any _ W4).mono ?_
      rintro e w' ⟨rfl, rfl⟩
      go_wp2_with fail
      refine HSE.out.mono ?_
      rintro e W5 ⟨rfl, hb5⟩
      have HB5 := Lib.hid (HB4.out.trans (hb5.mono HB4.out.size))
      have HS5 := Lib.hid (HS4.out.trans (hb5.mono HS4.out.size))
      clear hb5 HSE
      go_wp2_with fail
      refine (HC.out W5 HS5.out).mono ?_
      rintro e W6 ⟨rfl, hb6⟩
      have HB6 := Lib.hid (HB5.out.trans (hb6.mono HB5.out.size))
      clear hb6
      go_wp2_with fail
      refine (Tb.num_any _ W6).mono ?_
      rintro e w' ⟨rfl, rfl⟩
      go_wp2_with fail
      go_ret
      exact ⟨rfl, HB6.out⟩
    · have hm1 : ¬ (mm : Int) = 0 := by omega
      have hm2 : ((mm : Int) != 0) = true := by rw [bne_iff_ne]; exact hm1
      clear hL4 hE4 hb4 HA r1 r2 hm0 HC HAB
      generalize (tallB bs).2.2 = nn at *
      go_wp2_with fail
      go_ret
      exact ⟨rfl, HB4.out⟩
  · go_wp2_with fail
    go_ret
    exact ⟨rfl, HB1.out⟩

set_option maxRecDepth 100000 in
theorem lifted (os : Os) (started : os.Started) (H : Type) (enc : TypeId × Value → H) :
    ReturnsInHanded {} Tryz.checked os 3 .any (Rows.tableBuildsSpec.pre6 enc Tryz.prog Tryz.f3 Rows.tableBuildsRow.domain false) (Rows.tableBuildsSpec.post enc Tryz.prog Tryz.f3 false true false false) := by
  refine lift_true (C := Tryz.checked) own started (by kernel_rfl) Tryz.func3
    (ChangeSpec.witness6 (enc := enc) (C := Tryz.checked) false ⟨#[], #[.slice none 0 0, .int .i64 0, .int .i64 0, .int .i64 0], []⟩ 8 (by kernel_rfl) (by kernel_rfl) (by kernel_rfl) (by kernel_rfl))
    (by kernel_rfl) (by kernel_rfl) (by kernel_rfl) Tryz.underlying4 rfl ?_ ?_
  · intro ds hds
    match ds, hds with
    | [d1, d2, d3, d4], _ => exact ⟨rfl, rfl, rfl⟩
  · intro W base args ds p hval0 hA0 hlt _
    have hval : ∀ (j : Nat) t v, Tryz.f3.params[j]? = some t → args[j]? = some v → Value.okWide Tryz.prog W .any base t v := hval0
    have hA : DataW.TrodAll enc Tryz.prog W 0 (fun _ => true) true Tryz.f3.params.toList args.toList ds p := hA0
    rw [Tryz.params3] at hA hval
    obtain ⟨v0, vs0, d0, ds0, p0, q0, hargs, rfl, rfl, h0, r0⟩ := trodAll_cons hA
    obtain ⟨v1, vs1, d1, ds1, p1, q1, rfl, rfl, rfl, h1, r1⟩ := trodAll_cons r0
    obtain ⟨v2, vs2, d2, ds2, p2, q2, rfl, rfl, rfl, h2, r2⟩ := trodAll_cons r1
    obtain ⟨v3, vs3, d3, ds3, p3, q3, rfl, rfl, rfl, h3, r3⟩ := trodAll_cons r2
    obtain ⟨rfl, rfl, rfl⟩ := trodAll_nil r3
    obtain rfl : args = #[v0, v1, v2, v3] := by cases args; simp_all
    obtain ⟨A0, c0, L0, rfl, hN0⟩ := Sk.open_ents (hval 0 _ v0 rfl rfl) h0 (fun x hx => hlt x (by simp [hx]))
    obtain ⟨a1, rfl, rfl, rfl, w1⟩ := open_int Tryz.underlying3 (hval 1 _ v1 rfl rfl) h1
    have b1 := i64_of w1
    obtain ⟨a2, rfl, rfl, rfl, w2⟩ := open_int Tryz.underlying3 (hval 2 _ v2 rfl rfl) h2
    have b2 := i64_of w2
    obtain ⟨a3, rfl, rfl, rfl, w3⟩ := open_int Tryz.underlying3 (hval 3 _ v3 rfl rfl) h3
    have b3 := i64_of w3
    exact walk A0 c0 L0 a1 a2 a3 W hN0

theorem over : Rows.tableBuildsRow.holds Tryz.pinned (OpenSpec.ofChange Rows.tableBuildsSpec) :=
  OpenClaim.holds_of_wide 3 Tryz.f3 rfl rfl rfl rfl rfl rfl rfl ⟨rfl, rfl, rfl, rfl, rfl⟩ rfl rfl rfl rfl rfl (by kernel_rfl) Tryz.func3 (by kernel_rfl)
    (of_decide_eq_true (by kernel_rfl)) (by unfold Func.isWrapper; first | (rw [if_pos (by decide +kernel)]; kernel_rfl) | (rw [if_neg (by decide +kernel)]; exact ⟨rfl, rfl⟩))
    (fun os started H enc _ => lifted os started H enc)

theorem proved : Rows.TableBuildsSaid :=
  over
#print axioms proved
end Go.Proofs.YtobjiamdljjkjaaGreat.tableBuilds
