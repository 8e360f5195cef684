/- Proved: for any bytes and any key, BlockReads of butterylaw11 answers true (All, Restarts and Seek agree with the definition, results and errors), and its arguments read as before. Conditions: none beyond what the given row states. -/
import Derived.Test.YtobjiamdljjkjaaJb
import Derived.Deep.RegionHeld3
import Derived.Deep.QuietTactic
import Derived.BigQuiet
import Derived.LoopTactic
namespace Go.Proofs.Ytobjiamdljjkjaa.blockReads
set_option linter.unusedVariables false
set_option linter.unusedSimpArgs false
open Go.ChangeShapes Go.WideShapes Go.ChangeAt Go.RowKit Lift Bk Ik Sk Vn

theorem own : ownKnob Try.prog.godebug = none := by kernel_rfl

set_option maxRecDepth 100000 in
set_option maxHeartbeats 3200000 in
theorem walk (A : Option Addr) (c : Nat) (bs : List Nat) (Ak : Option Addr) (ck : Nat) (k : K) (w : World) (hl : Lies w w.heap.size A (bs.map vb)) (hc : bs.length ≤ c) (hm : c ≤ maxLen) (h8 : ∀ x, x ∈ bs → x < 256) (hk : At w w.heap.size Ak ck k) :
    Calls Try.prog 4 #[.slice A bs.length c, key Ak ck k] w (Bk.Yes w) := by
  have hb0 : Below w.heap.size w (w.alloc (kbox Ak ck k)) := Joins.below_alloc1 w _
  have hx0 := Lift.Box.new w 38 [.slice Ak k.key.length ck, .int .u64 (k.seq : Int), .int .i64 k.kind]
  have HL := Lib.hid hl
  have H8 := Lib.hid h8
  have HK := Lib.hid hk
  have HM := Lib.hid hm
  have hcm := hm
  unfold maxLen at hcm
  have hkl := hk.2.1
  have hkm := hk.2.2.1
  unfold maxLen at hkm
  obtain ⟨W0, hW0⟩ : ∃ W0, W0 = w.alloc (kbox Ak ck k) := ⟨_, rfl⟩
  have HW0 := Lib.hid hW0
  have hx0' : Lift.Box W0 w.heap.size 38 [.slice Ak k.key.length ck, .int .u64 (k.seq : Int), .int .i64 k.kind] := by rw [hW0]; exact hx0
  rw [← hW0] at hb0
  have X0 := Lib.hid hx0'
  have B0 := Lib.hid hb0
  clear hl h8 hk hb0 hx0 hx0' hm hW0
  go_enter Try.func4, Try.ntmps4
  go_upto_region 1 with fail
  change Code.wp _ _ _ _ (w.alloc (kbox Ak ck k))
  rw [← HW0.out]
  clear HW0
  go_wp2_with fail
  refine (alive_any _).mono ?_
  rintro e W1 ⟨rfl, hb1⟩
  have HB1 := Lib.hid (B0.out.trans (hb1.mono B0.out.size))
  have X1 := Lib.hid (X0.out.below hb1 X0.out.lt)
  clear hb1
  have x1 := X1.out
  obtain ⟨k0, k1, k2, -, -, -⟩ := x1.facts3
  by_cases hbig : 1000 < bs.length
  · have d1 : decide ((1000 : Int) < (bs.length : Int)) = true := decide_eq_true (by omega)
    have d2 : decide (1000 < bs.length) = true := decide_eq_true hbig
    clear x1
    go_wp2_with fail
    go_ret
    exact ⟨rfl, HB1.out⟩
  · have d1 : decide ((1000 : Int) < (bs.length : Int)) = false := decide_eq_false (by omega)
    have d2 : decide (1000 < bs.length) = false := decide_eq_false hbig
    by_cases hkb : 300 < k.key.length
    · have d3 : decide ((300 : Int) < (k.key.length : Int)) = true := decide_eq_true (by omega)
      have d4 : decide (300 < k.key.length) = true := decide_eq_true hkb
      clear x1
      go_wp2_with fail
      go_ret
      exact ⟨rfl, HB1.out⟩
    · have d3 : decide ((300 : Int) < (k.key.length : Int)) = false := decide_eq_false (by omega)
      have d4 : decide (300 < k.key.length) = false := decide_eq_false hkb
      obtain ⟨A2, c2, W2, hr2, hown, hb2⟩ := fresh_bytes A c w.heap.size bs W1 (HL.out.below HB1.out) (by omega)
      obtain ⟨_, _, e2, hc2, hm2, hl2⟩ := own_parts hown
      injection e2 with e2 _ e2'
      subst e2 e2'
      have HR2 := Lib.hid hr2
      have HB2 := Lib.hid (HB1.out.trans (hb2.mono HB1.out.size))
      have X2 := Lib.hid (X1.out.below hb2 X1.out.lt)
      have HA := Lib.hid (oall_any A2 c2 bs W2 hl2 hc2 hm2 (by omega) H8.out)
      have HLW : Hid (∀ W : World, Below w.heap.size w W → Lies W W.heap.size A (bs.map vb)) := Lib.hid fun W hb => (HL.out.below hb).up hb.size
      have hlen : bs.length ≤ 1000 := by omega
      clear hr2 hown hb2 hl2 hc2 hm2 x1
      go_wp2_with (at_builtin; refine wpList_append_run rfl _ _ 25 rfl rfl rfl HR2.out ?_)
      refine HA.out.mono ?_
      rintro e W3 ⟨hb3, A3, c3, L3, rfl, hL3, hE3⟩
      have HB3 := Lib.hid (HB2.out.trans (hb3.mono HB2.out.size))
      have X3 := Lib.hid (X2.out.below hb3 X2.out.lt)
      have HL3 := Lib.hid hL3
      have HE3 : Hid (Ents W3 (· < W3.heap.size) A3 c3 L3) := Lib.hid (hE3.mono fun k hk => hk.2)
      have HBA := Lib.hid (ball_any A c bs W3 (HLW.out W3 HB3.out) hc HM.out (by omega) H8.out)
      obtain ⟨n, hn⟩ : ∃ n, (allB bs).2 = n := ⟨_, rfl⟩
      have HNN := Lib.hid hn
      rw [hn]
      clear hb3 hL3 hE3 HA hn HR2 k0 k1 k2
      go_wp2_with fail
      refine HBA.out.mono ?_
      rintro e W4 ⟨hb4, A4, c4, L4, ev4, rfl, hL4, hE4⟩
      have HB4 := Lib.hid (HB3.out.trans (hb4.mono HB3.out.size))
      have X4 := Lib.hid (X3.out.below hb4 X3.out.lt)
      have HL4 := Lib.hid hL4
      have HE3' := Lib.hid (HE3.out.next hb4)
      have HE4 : Hid (Ents W4 (· < W4.heap.size) A4 c4 L4) := Lib.hid (hE4.mono fun k hk => hk.2)
      have HRS := Lib.hid (orests_any A c bs W4 (HLW.out W4 HB4.out) hc HM.out (by omega) H8.out)
      rw [HNN.out]
      clear hb4 hL4 hE4 HBA HE3
      go_wp2_with fail
      refine HRS.out.mono ?_
      rintro e W5 ⟨hb5, A5, c5, rfl, hown5⟩
      have HB5 := Lib.hid (HB4.out.trans (hb5.mono HB4.out.size))
      have X5 := Lib.hid (X4.out.below hb5 X4.out.lt)
      have HE35 := Lib.hid (HE3'.out.next hb5)
      have HE45 := Lib.hid (HE4.out.next hb5)
      have HO5 := Lib.hid hown5
      have HRR := Lib.hid (rrests_any A c bs W5 (HLW.out W5 HB5.out) hc HM.out (by omega) H8.out)
      rw [HNN.out]
      clear hb5 hown5 HRS HE3' HE4
      go_wp2_with fail
      refine HRR.out.mono ?_
      rintro e W6 ⟨hb6, A6, c6, rfl, hown6⟩
      have HB6 := Lib.hid (HB5.out.trans (hb6.mono HB5.out.size))
      have X6 := Lib.hid (X5.out.below hb6 X5.out.lt)
      have hle4 : L4.length ≤ 1000 := by
        have h1 := congrArg List.length HL4.out
        have h2 := allB_len bs
        rw [List.length_map] at h1
        omega
      have HSE := Lib.hid (same_entries A3 A4 c3 c4 L3 L4 W6 (HE35.out.next hb6) (HE45.out.next hb6) (HL3.out.trans HL4.out.symm) (Nat.le_trans hle4 (by decide)))
      have HO56 := Lib.hid (own_later HO5.out hb6)
      have HO6 := Lib.hid hown6
      rw [HNN.out]
      have hrl := resB_len bs
      have hrl1 : (resB bs).length ≤ 1000 := by omega
      clear hb6 hown6 HRR HE35 HE45 HO5 hrl
      go_wp2_with fail
      refine HSE.out.mono ?_
      rintro e W7 ⟨rfl, hb7⟩
      have HB7 := Lib.hid (HB6.out.trans (hb7.mono HB6.out.size))
      have X7 := Lib.hid (X6.out.below hb7 X6.out.lt)
      have HSI := Lib.hid (same_ints (c := c5) (c' := c6) (Lies.of_own (own_later HO56.out hb7)) (Lies.of_own (own_later HO6.out hb7)) hrl1)
      clear hb7 HSE HO56 HO6
      go_wp2_with fail
      refine (num_any _ W7).mono ?_
      rintro e w' ⟨rfl, rfl⟩
      go_wp2_with fail
      refine HSI.out.mono ?_
      rintro e W8 ⟨rfl, m8, hm8⟩
      have hb8 : Below W7.heap.size W7 W8 := by rw [hm8]; exact Joins.below_draws _ _ _
      have HB8 := Lib.hid (HB7.out.trans (hb8.mono HB7.out.size))
      have X8 := Lib.hid (X7.out.below hb8 X7.out.lt)
      clear hm8 hb8 HSI
      go_wp2_with fail
      refine (num_any _ W8).mono ?_
      rintro e w' ⟨rfl, rfl⟩
      have x8 := X8.out
      obtain ⟨k0, k1, k2, -, -, -⟩ := x8.facts3
      have hkk := KD.load (p := ⟨w.heap.size, 0, none⟩) (d := ⟨Ak, ck, k⟩) k0 k1 k2
      have HSK := Lib.hid (oseek_any A c bs Ak ck k W8 (HLW.out W8 HB8.out) hc HM.out (by omega) H8.out (HK.out.next HB8.out))
      clear x8
      go_wp2_with fail
      refine HSK.out.mono ?_
      rintro e W9 ⟨d, rfl, hdt, hdo, hb9⟩
      rw [HNN.out]
      have HDT := Lib.hid hdt
      obtain ⟨W10, hW10⟩ : ∃ W10, W10 = W9.alloc (ebox d) := ⟨_, rfl⟩
      have HW10 := Lib.hid hW10
      have hb10 : Below W9.heap.size W9 W10 := by rw [hW10]; exact below_box W9 d
      have hx10 : Bx W10 W9.heap.size d := by rw [hW10]; exact Bx.new W9 d
      have HX10 := Lib.hid hx10
      have HDO := Lib.hid (hdo.next hb10)
      have HB10 := Lib.hid (HB8.out.trans ((hb9.trans (hb10.mono hb9.size)).mono HB8.out.size))
      have X10 := Lib.hid (X8.out.below (hb9.trans (hb10.mono hb9.size)) X8.out.lt)
      have HSB := Lib.hid (bseek_any A c bs Ak ck k W10 (HLW.out W10 HB10.out) hc HM.out (by omega) H8.out (HK.out.next HB10.out))
      clear hdt hdo hb9 hb10 hx10 HSK k0 k1 k2 hkk hW10
      go_upto_region 11 with fail
      change Code.wp _ _ _ _ (W9.alloc (ebox d))
      rw [← HW10.out]
      clear HW10
      have x10 := X10.out
      obtain ⟨k0, k1, k2, -, -, -⟩ := x10.facts3
      have hkk := KD.load (p := ⟨w.heap.size, 0, none⟩) (d := ⟨Ak, ck, k⟩) k0 k1 k2
      clear x10
      go_wp2_with fail
      refine HSB.out.mono ?_
      rintro e W11 ⟨d2, rfl, hdt2, hdo2, hb11⟩
      rw [HNN.out]
      have HSD := Lib.hid (sameD_eq (HDT.out.trans hdt2.symm))
      obtain ⟨W12, hW12⟩ : ∃ W12, W12 = W11.alloc (ebox d2) := ⟨_, rfl⟩
      have HW12 := Lib.hid hW12
      have hb12 : Below W11.heap.size W11 W12 := by rw [hW12]; exact below_box W11 d2
      have hx12 : Bx W12 W11.heap.size d2 := by rw [hW12]; exact Bx.new W11 d2
      have hb1012 := hb11.trans (hb12.mono hb11.size)
      have hxx : Bx W12 W9.heap.size d := HX10.out.below hb1012 HX10.out.lt
      have HB12 := Lib.hid (HB10.out.trans (hb1012.mono HB10.out.size))
      have HSS := Lib.hid (same_entry d d2 W12 (HDO.out.next hb1012) (hdo2.next hb12))
      clear hdt2 hdo2 hb11 HSB k0 k1 k2 hkk hW12 hb12 hb1012
      go_upto_region 12 with fail
      change Code.wp _ _ _ _ (W11.alloc (ebox d2))
      rw [← HW12.out]
      clear HW12
      obtain ⟨y0, y1, y2, y3, -, -, -, -⟩ := hxx.facts
      obtain ⟨z0, z1, z2, z3, -, -, -, -⟩ := hx12.facts
      have hl1 := D.load (p := ⟨W9.heap.size, 0, none⟩) y0 y1 y2 y3
      have hl2 := D.load (p := ⟨W11.heap.size, 0, none⟩) z0 z1 z2 z3
      clear hxx hx12
      go_wp2_with fail
      refine HSS.out.mono ?_
      rintro e W13 ⟨rfl, hb13⟩
      rw [HSD.out]
      have HB13 := Lib.hid (HB12.out.trans (hb13.mono HB12.out.size))
      clear hb13 y0 y1 y2 y3 z0 z1 z2 z3 hl1 hl2 HSS
      go_wp2_with fail
      refine (num_any _ W13).mono ?_
      rintro e w' ⟨rfl, rfl⟩
      go_wp2_with fail
      go_ret
      exact ⟨rfl, HB13.out⟩

set_option maxRecDepth 100000 in
theorem lifted (os : Os) (started : os.Started) (H : Type) (enc : TypeId × Value → H) :
    ReturnsInHanded {} Try.checked os 4 .any (Rows.blockReadsSpec.pre6 enc Try.prog Try.f4 Rows.blockReadsRow.domain false) (Rows.blockReadsSpec.post enc Try.prog Try.f4 false true false false) := by
  refine lift_true (C := Try.checked) own started (by kernel_rfl) Try.func4
    (ChangeSpec.witness6 (enc := enc) (C := Try.checked) false ⟨#[], #[.slice none 0 0, .agg #[.slice none 0 0, .int .u64 0, .int .i64 0]], []⟩ 8 (by kernel_rfl) (by kernel_rfl) (by kernel_rfl) (by kernel_rfl))
    (by kernel_rfl) (by kernel_rfl) (by kernel_rfl) Try.underlying4 rfl ?_ ?_
  · intro ds hds
    match ds, hds with
    | [d1, d2], _ => exact ⟨rfl, rfl, rfl⟩
  · intro W base args ds p hval0 hA0 hlt _
    have hval : ∀ (j : Nat) t v, Try.f4.params[j]? = some t → args[j]? = some v → Value.okWide Try.prog W .any base t v := hval0
    have hA : DataW.TrodAll enc Try.prog W 0 (fun _ => true) true Try.f4.params.toList args.toList ds p := hA0
    rw [Try.params4] at hA hval
    obtain ⟨v0, vs0, d0, ds0, p0, q0, hargs, rfl, rfl, h0, r0⟩ := trodAll_cons hA
    obtain ⟨v1, vs1, d1, ds1, p1, q1, rfl, rfl, rfl, h1, r1⟩ := trodAll_cons r0
    obtain ⟨rfl, rfl, rfl⟩ := trodAll_nil r1
    obtain rfl : args = #[v0, v1] := by cases args; simp_all
    obtain ⟨A0, c0, zs0, rfl, hc0, hm0, hl0, hw0⟩ := open_nums Try.underlying25 Try.underlying5 (by kernel_rfl) (hval 0 _ v0 rfl rfl) h0 (fun x hx => hlt x (by simp [hx]))
    obtain ⟨bs0, rfl, hz0⟩ := as_nat zs0 fun n hn => (u8_of (hw0 n hn)).1
    have hbs0 := fun b hb => (u8_of (hw0 _ (hz0 b hb))).2
    rw [List.length_map] at hc0 ⊢
    rw [List.map_map] at hl0
    obtain ⟨A1, c1, k1, rfl, hk1⟩ := Ik.open_key (hval 1 _ v1 rfl rfl) h1 (fun x hx => hlt x (by simp [hx]))
    exact walk A0 c0 bs0 A1 c1 k1 W hl0 hc0 hm0 (fun x hx => by have := hbs0 x hx; omega) hk1

theorem over : Rows.blockReadsRow.holds Try.pinned (OpenSpec.ofChange Rows.blockReadsSpec) :=
  OpenClaim.holds_of_wide 4 Try.f4 rfl rfl rfl rfl rfl rfl rfl ⟨rfl, rfl, rfl, rfl, rfl⟩ rfl rfl rfl rfl rfl (by kernel_rfl) Try.func4 (by kernel_rfl)
    (of_decide_eq_true (by kernel_rfl)) (by unfold Func.isWrapper; first | (rw [if_pos (by decide +kernel)]; kernel_rfl) | (rw [if_neg (by decide +kernel)]; exact ⟨rfl, rfl⟩))
    (fun os started H enc _ => lifted os started H enc)

theorem proved : Rows.BlockReadsSaid :=
  over
#print axioms proved
end Go.Proofs.Ytobjiamdljjkjaa.blockReads
