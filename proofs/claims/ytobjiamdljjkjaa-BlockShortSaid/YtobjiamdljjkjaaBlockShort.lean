/- Proved: for any entries and any two restart intervals, BlockShort of butterylaw11 answers true (with a multiple of the interval a block is not longer and has the same entries), and its arguments read as before. Conditions: none beyond what the given row states. -/
import Derived.Test.YtobjiamdljjkjaaJb
import Derived.Deep.RegionHeld3
import Derived.Deep.QuietTactic
import Derived.BigQuiet
import Derived.LoopTactic
namespace Go.Proofs.Ytobjiamdljjkjaa.blockShort
set_option linter.unusedVariables false
set_option linter.unusedSimpArgs false
open Go.ChangeShapes Go.WideShapes Go.ChangeAt Go.RowKit Lift Bk Ik Sk Vn

theorem own : ownKnob Try.prog.godebug = none := by kernel_rfl

set_option maxRecDepth 100000 in
set_option maxHeartbeats 3200000 in
theorem walk (A : Option Addr) (c : Nat) (L : List D) (ea eb : Int) (w : World) (h1 : Ents w (· < w.heap.size) A c L) :
    Calls Try.prog 8 #[.slice A L.length c, .int .i64 ea, .int .i64 eb] w (Bk.Yes w) := by
  have H1 := Lib.hid h1
  clear h1
  go_enter Try.func8, Try.ntmps8
  go_wp2_with fail
  refine (alive_any _).mono ?_
  rintro e W1 ⟨rfl, hb1⟩
  have HB1 := Lib.hid hb1
  clear hb1
  go_wp2_with fail
  refine (big_any A c _ L W1 (H1.out.below HB1.out)).mono ?_
  rintro e W2 ⟨rfl, rfl⟩
  cases hg : bigL L
  · obtain ⟨hn60, hsm⟩ := big_no hg
    clear hg hsm
    by_cases ha : ea < 1
    · have d1 : decide (ea < 1) = true := decide_eq_true ha
      go_wp2_with fail
      go_ret
      exact ⟨rfl, HB1.out⟩
    · have d1 : decide (ea < 1) = false := decide_eq_false ha
      by_cases hb : eb < ea
      · have d2 : decide (eb < ea) = true := decide_eq_true hb
        go_wp2_with fail
        go_ret
        exact ⟨rfl, HB1.out⟩
      · have d2 : decide (eb < ea) = false := decide_eq_false hb
        by_cases hh : 100 < eb
        · have d3 : decide (100 < eb) = true := decide_eq_true hh
          go_wp2_with fail
          go_ret
          exact ⟨rfl, HB1.out⟩
        · have d3 : decide (100 < eb) = false := decide_eq_false hh
          have ene : ¬ ea = 0 := by omega
          have em1 : ¬ ea = -1 := by omega
          by_cases hr : Int.tmod eb ea = 0
          · obtain ⟨a, rfl⟩ : ∃ a : Nat, ea = (a : Int) := ⟨ea.toNat, by omega⟩
            obtain ⟨b, rfl⟩ : ∃ b : Nat, eb = (b : Int) := ⟨eb.toNat, by omega⟩
            have HAB : Hid (a ∣ b) := Lib.hid (Int.natCast_dvd_natCast.1 (Int.dvd_of_tmod_eq_zero hr))
            have HCA : Hid (clamp (a : Int) = a) := Lib.hid (clamp_nat (by omega) (by omega))
            have HCB : Hid (clamp (b : Int) = b) := Lib.hid (clamp_nat (by omega) (by omega))
            have HBO := Lib.hid (obuild_any A c L (a : Int) W1 (H1.out.next HB1.out) (by omega))
            go_wp2_with fail
            refine HBO.out.mono ?_
            rintro e W2 ⟨v, rfl, hown, hb2⟩
            obtain ⟨A2, c2, rfl, hc2, hm2, -⟩ := own_parts hown
            have HB2 := Lib.hid (HB1.out.trans (hb2.mono HB1.out.size))
            have HO2 := Lib.hid hown
            have HBR := Lib.hid (obuild_any A c L (b : Int) W2 (H1.out.next HB2.out) (by omega))
            clear hown hb2 HBO hr
            go_wp2_with fail
            refine HBR.out.mono ?_
            rintro e W3 ⟨v, rfl, hown, hb3⟩
            obtain ⟨A3, c3, rfl, hc3, hm3, hl3⟩ := own_parts hown
            have HB3 := Lib.hid (HB2.out.trans (hb3.mono HB2.out.size))
            have hl2 : Lies W3 W3.heap.size A2 _ := Lies.of_own (own_later HO2.out hb3)
            clear hb3 HBR
            by_cases hm0 : may (L.map D.t) = 0
            · have hall : ∀ e : Int, allB (bldB e (L.map D.t)) = (L.map D.t, 0) := fun e => by
                rw [bldB_ok hm0]
                exact allB_ok ⟨hm0, clamp e, (clamp_in _).1, (clamp_in _).2, rfl⟩
              have hb8 : ∀ e : Int, ∀ x, x ∈ bldB e (L.map D.t) → x < 256 := fun e x hx => by
                rw [bldB_ok hm0] at hx
                exact blk_byte (fun d hd => ⟨(may_zero hm0).1 _ (List.mem_map.2 ⟨d, hd, rfl⟩), (H1.out.ok d hd).ok, (H1.out.ok d hd).v8⟩) x hx
              have hbl : ∀ e : Int, (bldB e (L.map D.t)).length ≤ 50000000 := fun e => by
                rw [bldB_ok hm0]
                have := blk_max (every := clamp e) (may_zero hm0).1
                rw [List.length_map] at this
                omega
              have hsh : (bldB (b : Int) (L.map D.t)).length ≤ (bldB (a : Int) (L.map D.t)).length := by
                rw [bldB_ok hm0, bldB_ok hm0, HCA.out, HCB.out]
                exact blk_short HAB.out _
              have HX := Lib.hid (oall_any A2 c2 (bldB (a : Int) (L.map D.t)) W3 hl2 hc2 hm2 (hbl _) (hb8 _))
              have HY := Lib.hid (fun (W : World) (hb : Below W3.heap.size W3 W) => oall_any A3 c3 (bldB (b : Int) (L.map D.t)) W ((hl3.below hb).up hb.size) hc3 hm3 (hbl _) (hb8 _))
              have HEX := Lib.hid (hall (a : Int))
              have HEY := Lib.hid (hall (b : Int))
              rw [hm0]
              clear hall hb8 hbl hl2 hl3 hc2 hc3 hm2 hm3 hown hm0 HO2
              generalize bldB (a : Int) (L.map D.t) = x at *
              generalize bldB (b : Int) (L.map D.t) = y at *
              have d4 : decide ((y.length : Int) ≤ (x.length : Int)) = true := decide_eq_true (by omega)
              have d5 : decide (x.length < y.length) = false := decide_eq_false (by omega)
              go_wp2_with fail
              refine (num_any _ W3).mono ?_
              rintro e w' ⟨rfl, rfl⟩
              go_wp2_with fail
              refine (num_any _ W3).mono ?_
              rintro e w' ⟨rfl, rfl⟩
              go_wp2_with fail
              refine (num_any _ W3).mono ?_
              rintro e w' ⟨rfl, rfl⟩
              go_wp2_with fail
              refine HX.out.mono ?_
              rintro e W4 ⟨hb4, A4, c4, L4, rfl, hL4, hE4⟩
              rw [HEX.out] at hL4 ⊢
              have HB4 := Lib.hid (HB3.out.trans (hb4.mono HB3.out.size))
              have HYY := Lib.hid (HY.out W4 hb4)
              have HE4 := Lib.hid hE4
              have HL4 := Lib.hid hL4
              clear hb4 hE4 hL4 HX HY
              go_wp2_with fail
              refine HYY.out.mono ?_
              rintro e W5 ⟨hb5, A5, c5, L5, rfl, hL5, hE5⟩
              rw [HEY.out] at hL5 ⊢
              have HB5 := Lib.hid (HB4.out.trans (hb5.mono HB4.out.size))
              have HSE := Lib.hid (same_entries A4 A5 c4 c5 L4 L5 W5 ((HE4.out.mono fun k hk => hk.2).next hb5) (hE5.mono fun k hk => hk.2) (HL4.out.trans hL5.symm) (by have := congrArg List.length hL5; rw [List.length_map, List.length_map] at this; omega))
              clear hb5 hE5 hL5 HYY
              go_wp2_with fail
              refine (num_any _ W5).mono ?_
              rintro e w' ⟨rfl, rfl⟩
              go_wp2_with fail
              refine (num_any _ W5).mono ?_
              rintro e w' ⟨rfl, rfl⟩
              go_wp2_with fail
              refine HSE.out.mono ?_
              rintro e W6 ⟨rfl, hb6⟩
              have HB6 := Lib.hid (HB5.out.trans (hb6.mono HB5.out.size))
              clear hb6 HSE
              go_wp2_with fail
              go_ret
              exact ⟨rfl, HB6.out⟩
            · have hm1 : ¬ (may (L.map D.t) : Int) = 0 := by omega
              have hm2 : ((may (L.map D.t) : Int) != 0) = true := by rw [bne_iff_ne]; exact hm1
              rw [bldB_no hm0, bldB_no hm0]
              clear hl2 hl3 hc2 hc3 hown HO2 hm0
              have hml := may_le (L.map D.t)
              generalize may (L.map D.t) = mm at *
              go_wp2_with fail
              refine (num_any _ W3).mono ?_
              rintro e w' ⟨rfl, rfl⟩
              go_wp2_with fail
              refine (num_any _ W3).mono ?_
              rintro e w' ⟨rfl, rfl⟩
              go_wp2_with fail
              refine (num_any _ W3).mono ?_
              rintro e w' ⟨rfl, rfl⟩
              go_wp2_with fail
              go_ret
              exact ⟨rfl, HB3.out⟩
          · have d4 : (eb % ea != 0) = true := by rw [bne_iff_ne, ← Int.tmod_eq_emod_of_nonneg (by omega)]; exact hr
            clear hr
            go_wp2_with fail
            go_ret
            exact ⟨rfl, HB1.out⟩
  · go_wp2_with fail
    go_ret
    exact ⟨rfl, HB1.out⟩

set_option maxRecDepth 100000 in
theorem lifted (os : Os) (started : os.Started) (H : Type) (enc : TypeId × Value → H) :
    ReturnsInHanded {} Try.checked os 8 .any (Rows.blockShortSpec.pre6 enc Try.prog Try.f8 Rows.blockShortRow.domain false) (Rows.blockShortSpec.post enc Try.prog Try.f8 false true false false) := by
  refine lift_true (C := Try.checked) own started (by kernel_rfl) Try.func8
    (ChangeSpec.witness6 (enc := enc) (C := Try.checked) false ⟨#[], #[.slice none 0 0, .int .i64 0, .int .i64 0], []⟩ 8 (by kernel_rfl) (by kernel_rfl) (by kernel_rfl) (by kernel_rfl))
    (by kernel_rfl) (by kernel_rfl) (by kernel_rfl) Try.underlying4 rfl ?_ ?_
  · intro ds hds
    match ds, hds with
    | [d1, d2, d3], _ => exact ⟨rfl, rfl, rfl⟩
  · intro W base args ds p hval0 hA0 hlt _
    have hval : ∀ (j : Nat) t v, Try.f8.params[j]? = some t → args[j]? = some v → Value.okWide Try.prog W .any base t v := hval0
    have hA : DataW.TrodAll enc Try.prog W 0 (fun _ => true) true Try.f8.params.toList args.toList ds p := hA0
    rw [Try.params8] at hA hval
    obtain ⟨v0, vs0, d0, ds0, p0, q0, hargs, rfl, rfl, h0, r0⟩ := trodAll_cons hA
    obtain ⟨v1, vs1, d1, ds1, p1, q1, rfl, rfl, rfl, h1, r1⟩ := trodAll_cons r0
    obtain ⟨v2, vs2, d2, ds2, p2, q2, rfl, rfl, rfl, h2, r2⟩ := trodAll_cons r1
    obtain ⟨rfl, rfl, rfl⟩ := trodAll_nil r2
    obtain rfl : args = #[v0, v1, v2] := by cases args; simp_all
    obtain ⟨A0, c0, L0, rfl, hN0⟩ := Sk.open_ents (hval 0 _ v0 rfl rfl) h0 (fun x hx => hlt x (by simp [hx]))
    obtain ⟨a1, rfl, rfl, rfl, w1⟩ := open_int Try.underlying3 (hval 1 _ v1 rfl rfl) h1
    have b1 := i64_of w1
    obtain ⟨a2, rfl, rfl, rfl, w2⟩ := open_int Try.underlying3 (hval 2 _ v2 rfl rfl) h2
    have b2 := i64_of w2
    exact walk A0 c0 L0 a1 a2 W hN0

theorem over : Rows.blockShortRow.holds Try.pinned (OpenSpec.ofChange Rows.blockShortSpec) :=
  OpenClaim.holds_of_wide 8 Try.f8 rfl rfl rfl rfl rfl rfl rfl ⟨rfl, rfl, rfl, rfl, rfl⟩ rfl rfl rfl rfl rfl (by kernel_rfl) Try.func8 (by kernel_rfl)
    (of_decide_eq_true (by kernel_rfl)) (by unfold Func.isWrapper; first | (rw [if_pos (by decide +kernel)]; kernel_rfl) | (rw [if_neg (by decide +kernel)]; exact ⟨rfl, rfl⟩))
    (fun os started H enc _ => lifted os started H enc)

theorem proved : Rows.BlockShortSaid :=
  over
#print axioms proved
end Go.Proofs.Ytobjiamdljjkjaa.blockShort
