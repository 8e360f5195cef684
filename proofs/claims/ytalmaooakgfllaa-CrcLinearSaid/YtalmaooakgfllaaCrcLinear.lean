/- For all bytes CrcLinear returns true and leaves all memory as it was: no condition. -/
import Derived.Test.YtalmaooakgfllaaLaw3
import Derived.RowKit3
import Derived.WalkSmall
import Derived.StillTailTactics
namespace Go.Proofs.Ytalmaooakgfllaa.crcLinear
set_option linter.unusedVariables false
set_option linter.unusedSimpArgs false
open Go.ChangeShapes Go.WideShapes Go.ChangeAt Go.RowKit Lift Crc

theorem own : ownKnob Try.prog.godebug = none := by kernel_rfl

theorem mix_length : ∀ (qs bs cs : List Nat), bs.length = qs.length → cs.length = qs.length → (mix qs bs cs).length = qs.length := by
  intro qs
  induction qs with
  | nil => intro bs cs _ _; simp [mix]
  | cons a qs ih =>
    intro bs cs h1 h2
    rcases bs with _ | ⟨b, bs⟩
    · simp at h1
    rcases cs with _ | ⟨c, cs⟩
    · simp at h2
    simp only [mix, List.length_cons]
    rw [ih bs cs (by simpa using h1) (by simpa using h2)]
theorem mix_at : ∀ (qs bs cs : List Nat) (k x y z : Nat), qs[k]? = some x → bs[k]? = some y → cs[k]? = some z → (mix qs bs cs)[k]? = some (x ^^^ y ^^^ z) := by
  intro qs
  induction qs with
  | nil => intro bs cs k x y z h; simp at h
  | cons a qs ih =>
    intro bs cs k x y z h1 h2 h3
    rcases bs with _ | ⟨b, bs⟩
    · simp at h2
    rcases cs with _ | ⟨c, cs⟩
    · simp at h3
    rcases k with _ | k
    · simp at h1 h2 h3
      subst h1; subst h2; subst h3
      rfl
    · simp only [mix, List.getElem?_cons_succ] at h1 h2 h3 ⊢
      exact ih bs cs k x y z h1 h2 h3
theorem mix_byte : ∀ (qs bs cs : List Nat), (∀ x, x ∈ qs → x < 256) → (∀ x, x ∈ bs → x < 256) → (∀ x, x ∈ cs → x < 256) → ∀ x, x ∈ mix qs bs cs → x < 256 := by
  intro qs
  induction qs with
  | nil => intro bs cs _ _ _ x h; simp [mix] at h
  | cons a qs ih =>
    intro bs cs h1 h2 h3 x h
    rcases bs with _ | ⟨b, bs⟩
    · simp [mix] at h
    rcases cs with _ | ⟨c, cs⟩
    · simp [mix] at h
    simp only [mix, List.mem_cons] at h
    rcases h with rfl | h
    · exact xor_lt8 (xor_lt8 (h1 a (by simp)) (h2 b (by simp))) (h3 c (by simp))
    · exact ih bs cs (fun y hy => h1 y (by simp [hy])) (fun y hy => h2 y (by simp [hy])) (fun y hy => h3 y (by simp [hy])) x h
theorem xor3_int {x y z : Nat} (hx : x < 256) (hy : y < 256) (hz : z < 256) : bits .xor .u8 (bits .xor .u8 (x : Int) (y : Int)) (z : Int) = ((x ^^^ y ^^^ z : Nat) : Int) := by
  rw [u8_xor_nat x y hx hy, u8_xor_nat _ z (xor_lt8 hx hy) hz]
theorem xor3_int32 {x y z : Nat} (hx : x < 4294967296) (hy : y < 4294967296) (hz : z < 4294967296) : bits .xor .u32 (bits .xor .u32 (x : Int) (y : Int)) (z : Int) = ((x ^^^ y ^^^ z : Nat) : Int) := by
  rw [u32_xor_nat x y hx hy, u32_xor_nat _ z (xor_lt hx hy) hz]

set_option maxRecDepth 100000 in
set_option maxHeartbeats 800000 in
theorem walk (A B C : Option Addr) (ca cb cc : Nat) (qs bs cs : List Nat) (W : World) (hla : Lies W W.heap.size A (qs.map vb)) (hlb : Lies W W.heap.size B (bs.map vb)) (hlc : Lies W W.heap.size C (cs.map vb))
    (hca : qs.length ≤ ca) (hcb : bs.length ≤ cb) (hcc : cs.length ≤ cc) (a8 : ∀ x, x ∈ qs → x < 256) (b8 : ∀ x, x ∈ bs → x < 256) (c8 : ∀ x, x ∈ cs → x < 256) (h200 : qs.length ≤ 200) (hbl : bs.length = qs.length) (hcl : cs.length = qs.length) :
    Calls Try.prog 6 #[.slice A qs.length ca, .slice B qs.length cb, .slice C qs.length cc] W (Yes W) := by
  have HBL := Lib.hid hbl
  have HCL := Lib.hid hcl
  rw [hbl] at hcb
  rw [hcl] at hcc
  have HLA := Lib.hid hla
  have HLB := Lib.hid hlb
  have HLC := Lib.hid hlc
  have A8 := Lib.hid a8
  have B8 := Lib.hid b8
  have C8 := Lib.hid c8
  clear hla hlb hlc a8 b8 c8 hbl hcl
  go_enter Try.func6, Try.ntmps6
  go_wp2_with fail
  refine (alive_any _).mono ?_; rintro e W1 ⟨rfl, hb1⟩
  have HW1 := Lib.hid hb1
  clear hb1
  have hmk : Sem.run Try.prog (Instr.makeSlice 23 (.int .i64 (qs.length : Int)) (.int .i64 (qs.length : Int))) W1 =
      .ok (.slice (some ⟨W1.heap.size, 0, none⟩) qs.length qs.length) (W1.alloc (.cells (madeCells #[.int .u8 0] qs.length) 5)) := by
    obtain ⟨i, hi, hz, hs, hb⟩ := info_parts (P := Try.prog) (e := 5) (z := .int .u8 0) (size := 1) (bytes := 1) (by kernel_rfl)
    have h := run_make (P := Try.prog) W1 23 5 i (.int .u8 0) Try.underlying23 hi hz .i64 .i64 (qs.length : Int) (qs.length : Int) (by omega) (by omega) (by rw [hb]; omega) (by omega)
    rw [hs, Nat.mul_one] at h
    exact h
  have HF := Lib.hid (Filled.start W1 (.int .u8 0) qs.length 5 ((mix qs bs cs).map vb))
  have HW2 := Lib.hid (HW1.out.trans (((Below.refl W1.heap.size W1).alloc (Nat.le_refl _) (.cells (madeCells #[.int .u8 0] qs.length) 5)).mono HW1.out.size))
  obtain ⟨g, hg⟩ : ∃ g, g = W1.heap.size := ⟨_, rfl⟩
  rw [← hg] at hmk HF
  have HG : W.heap.size ≤ g := by rw [hg]; exact HW1.out.size
  clear hg
  go_wp2_with fail
  go_loopw [9] (fun i wr => ∃ k : Nat, k ≤ qs.length ∧ i = .int .i64 k ∧ Hid (Filled wr g qs.length k 5 ((mix qs bs cs).map vb)) ∧ Hid (Below W.heap.size W wr)) (fun i _ => qs.length + 1 - (intOf i).toNat)
  case atStart => exact ⟨0, by omega, rfl, HF, HW2⟩
  case round =>
    obtain ⟨k, hk, rfl, hf, hb⟩ := hrel
    by_cases hlt : k < qs.length
    · obtain ⟨x, hx⟩ : ∃ x : Nat, qs[k]? = some x := ⟨_, List.getElem?_eq_getElem hlt⟩
      obtain ⟨y, hy⟩ : ∃ y : Nat, bs[k]? = some y := ⟨_, List.getElem?_eq_getElem (by rw [HBL.out]; exact hlt)⟩
      obtain ⟨z, hz⟩ : ∃ z : Nat, cs[k]? = some z := ⟨_, List.getElem?_eq_getElem (by rw [HCL.out]; exact hlt)⟩
      obtain ⟨ad, eA, _, hA⟩ := HLA.out.place (by simp; omega)
      obtain ⟨bd, eB, _, hB⟩ := HLB.out.place (by rw [List.length_map, HBL.out]; omega)
      obtain ⟨cd, eC, _, hC⟩ := HLC.out.place (by rw [List.length_map, HCL.out]; omega)
      have hA2 := ((HLA.out.below hb.out).place (by simp; omega))
      have hB2 := ((HLB.out.below hb.out).place (by rw [List.length_map, HBL.out]; omega))
      have hC2 := ((HLC.out.below hb.out).place (by rw [List.length_map, HCL.out]; omega))
      subst eA eB eC
      clear hA hB hC
      obtain ⟨_, eA, _, hA⟩ := hA2
      obtain ⟨_, eB, _, hB⟩ := hB2
      obtain ⟨_, eC, _, hC⟩ := hC2
      injection eA with eA
      injection eB with eB
      injection eC with eC
      subst eA eB eC
      have gx := cells_at hA k x hx
      have gy := cells_at hB k y hy
      have gz := cells_at hC k z hz
      have e := xor3_int (A8.out x (List.mem_of_getElem? hx)) (B8.out y (List.mem_of_getElem? hy)) (C8.out z (List.mem_of_getElem? hz))
      have HV := Lib.hid (mix_at qs bs cs k x y z hx hy hz)
      obtain ⟨u, hu⟩ := hf.out.cell hlt
      have hfr := hf.out.free k
      clear hx hy hz hA hB hC
      go_wp2_with fail
      go_still_tail 17, (by kernel_rfl)
      change wpList _ _ _ _ _ wr.drew
      have hf2 : Hid (Filled (wr.drew.setCell ⟨g, k, none⟩ (vb (x ^^^ y ^^^ z))) g qs.length (k + 1) 5 ((mix qs bs cs).map vb)) :=
        Lib.hid (hf.out.drew.next hlt (by rw [List.getElem?_map, HV.out]; rfl))
      have hb2 : Hid (Below W.heap.size W (wr.drew.setCell ⟨g, k, none⟩ (vb (x ^^^ y ^^^ z)))) := Lib.hid (hb.out.drew.setCell HG _)
      have hu2 : wr.drew.cell? ⟨g, k, none⟩ = some u := hu
      have hfr2 : wr.drew.frozen? ⟨g, k, none⟩ = false := hfr
      clear hu hfr e gx gy gz
      generalize x ^^^ y ^^^ z = d at hf2 hb2 ⊢
      generalize wr.drew = w2 at hf2 hb2 hu2 hfr2 ⊢
      go_wp2_with fail
      go_roundw
      case rel => exact ⟨k + 1, by omega, by go_num, hf2, hb2⟩
      case measure => simp [intOf]; omega
    · have hk2 : k = qs.length := by omega
      have hf' := hf.out
      rw [hk2] at hf'
      have hml := mix_length qs bs cs HBL.out HCL.out
      have hown := hf'.own HG (by rw [List.length_map, hml]) (by unfold maxLen; omega)
      have HX := Lib.hid (Lies.of_own hown)
      have HML := Lib.hid hml
      have HLA2 := Lib.hid ((HLA.out.below hb.out).up hb.out.size)
      have HLB2 := Lib.hid ((HLB.out.below hb.out).up hb.out.size)
      have HLC2 := Lib.hid ((HLC.out.below hb.out).up hb.out.size)
      clear hk2 hf' hml hown
      go_wp2_with fail
      refine (table_any _).mono ?_
      intro e W4 hmade
      obtain ⟨A1, c1, rfl, hc1, hmm1, hl1, hb4⟩ := hmade.parts
      clear hmade
      rw [tab_length] at hc1 ⊢
      have HL1 := Lib.hid hl1
      have HW4 := Lib.hid (hb.out.trans (hb4.mono hb.out.size))
      have s1 := sum_by_tab A1 A c1 ca _ qs W4 hc1 hl1 (HLA2.out.below hb4) hca (by unfold maxLen; omega) A8.out
      have s2 := sum_by_tab A1 B c1 cb _ bs W4 hc1 hl1 (HLB2.out.below hb4) (by rw [HBL.out]; exact hcb) (by rw [HBL.out]; unfold maxLen; omega) B8.out
      have s3 := sum_by_tab A1 C c1 cc _ cs W4 hc1 hl1 (HLC2.out.below hb4) (by rw [HCL.out]; exact hcc) (by rw [HCL.out]; unfold maxLen; omega) C8.out
      have s4 := sum_by_tab A1 (some ⟨g, 0, none⟩) c1 qs.length _ (mix qs bs cs) W4 hc1 hl1 (HX.out.below hb4) (by rw [HML.out]; exact Nat.le_refl _) (by rw [HML.out]; unfold maxLen; omega) (mix_byte qs bs cs A8.out B8.out C8.out)
      rw [HBL.out] at s2
      rw [HCL.out] at s3
      rw [HML.out] at s4
      have S1 := Lib.hid s1
      have S2 := Lib.hid s2
      have S3 := Lib.hid s3
      have S4 := Lib.hid s4
      have e32 := xor3_int32 (crc_lt ent qs) (crc_lt ent bs) (crc_lt ent cs)
      rw [crc_mix qs bs cs HBL.out HCL.out A8.out B8.out C8.out] at e32
      have E32 := Lib.hid e32
      clear s1 s2 s3 s4 hl1 hb4 e32
      go_wp2_with fail
      refine S1.out.mono ?_; rintro e w' ⟨rfl, rfl⟩
      go_wp2_with fail
      refine S2.out.mono ?_; rintro e w' ⟨rfl, rfl⟩
      go_wp2_with fail
      refine S3.out.mono ?_; rintro e w' ⟨rfl, rfl⟩
      have e32 := E32.out
      go_wp2_with fail
      refine S4.out.mono ?_; rintro e w' ⟨rfl, rfl⟩
      go_wp2_with fail
      go_ret
      exact ⟨rfl, HW4.out⟩
theorem walk_out (A B C : Option Addr) (ca cb cc na nb nc : Nat) (W : World) (h : 200 < na ∨ nb ≠ na ∨ nc ≠ na) :
    Calls Try.prog 6 #[.slice A na ca, .slice B nb cb, .slice C nc cc] W (Yes W) := by
  by_cases h1 : 200 < na
  · clear h
    go_enter Try.func6, Try.ntmps6
    go_wp2_with fail
    refine (alive_any _).mono ?_; rintro e W1 ⟨rfl, hb1⟩
    have HW1 := Lib.hid hb1
    clear hb1
    go_wp2_with fail
    go_ret
    exact ⟨rfl, HW1.out⟩
  · by_cases h2 : nb = na
    · have h3 : ((nc : Int) != (na : Int)) = true := by rw [bne_iff_ne]; omega
      clear h
      subst h2
      go_enter Try.func6, Try.ntmps6
      go_wp2_with fail
      refine (alive_any _).mono ?_; rintro e W1 ⟨rfl, hb1⟩
      have HW1 := Lib.hid hb1
      clear hb1
      go_wp2_with fail
      go_ret
      exact ⟨rfl, HW1.out⟩
    · have h3 : ((nb : Int) != (na : Int)) = true := by rw [bne_iff_ne]; omega
      clear h
      go_enter Try.func6, Try.ntmps6
      go_wp2_with fail
      refine (alive_any _).mono ?_; rintro e W1 ⟨rfl, hb1⟩
      have HW1 := Lib.hid hb1
      clear hb1
      go_wp2_with fail
      go_ret
      exact ⟨rfl, HW1.out⟩

set_option maxRecDepth 100000 in
theorem lifted (os : Os) (started : os.Started) (H : Type) (enc : TypeId × Value → H) :
    ReturnsInHanded {} Try.checked os 6 .any (Rows.crcLinearSpec.pre6 enc Try.prog Try.f6 Rows.crcLinearRow.domain false) (Rows.crcLinearSpec.post enc Try.prog Try.f6 false true false false) := by
  refine lift_true (C := Try.checked) own started (by kernel_rfl) Try.func6
    (ChangeSpec.witness6 (enc := enc) (C := Try.checked) false ⟨#[], #[.slice none 0 0, .slice none 0 0, .slice none 0 0], []⟩ 8 (by kernel_rfl) (by kernel_rfl) (by kernel_rfl) (by kernel_rfl))
    (by kernel_rfl) (by kernel_rfl) (by kernel_rfl) Try.underlying4 rfl ?_ ?_
  · intro ds hds
    match ds, hds with
    | [d1, d2, d3], _ => exact ⟨rfl, rfl, rfl⟩
  · intro W base args ds p hval0 hA0 hlt _
    have hval : ∀ (j : Nat) t v, Try.f6.params[j]? = some t → args[j]? = some v → Value.okWide Try.prog W .any base t v := hval0
    have hA : DataW.TrodAll enc Try.prog W 0 (fun _ => true) true Try.f6.params.toList args.toList ds p := hA0
    rw [Try.params6] at hA hval
    obtain ⟨v0, vs0, d0, ds0, p0, q0, hargs, rfl, rfl, h0, r0⟩ := trodAll_cons hA
    obtain ⟨v1, vs1, d1, ds1, p1, q1, rfl, rfl, rfl, h1, r1⟩ := trodAll_cons r0
    obtain ⟨v2, vs2, d2, ds2, p2, q2, rfl, rfl, rfl, h2, r2⟩ := trodAll_cons r1
    obtain ⟨rfl, rfl, rfl⟩ := trodAll_nil r2
    obtain rfl : args = #[v0, v1, v2] := by cases args; simp_all
    obtain ⟨A0, c0, zs0, rfl, hc0, hm0, hl0, hw0⟩ := open_nums Try.underlying23 Try.underlying5 (by kernel_rfl) (hval 0 _ v0 rfl rfl) h0 (fun x hx => hlt x (by simp [hx]))
    obtain ⟨bs0, rfl, hz0⟩ := as_nat zs0 fun n hn => (u8_of (hw0 n hn)).1
    have hbs0 := fun b hb => (u8_of (hw0 _ (hz0 b hb))).2
    rw [List.length_map] at hc0 ⊢
    rw [List.map_map] at hl0
    obtain ⟨A1, c1, zs1, rfl, hc1, hm1, hl1, hw1⟩ := open_nums Try.underlying23 Try.underlying5 (by kernel_rfl) (hval 1 _ v1 rfl rfl) h1 (fun x hx => hlt x (by simp [hx]))
    obtain ⟨bs1, rfl, hz1⟩ := as_nat zs1 fun n hn => (u8_of (hw1 n hn)).1
    have hbs1 := fun b hb => (u8_of (hw1 _ (hz1 b hb))).2
    rw [List.length_map] at hc1 ⊢
    rw [List.map_map] at hl1
    obtain ⟨A2, c2, zs2, rfl, hc2, hm2, hl2, hw2⟩ := open_nums Try.underlying23 Try.underlying5 (by kernel_rfl) (hval 2 _ v2 rfl rfl) h2 (fun x hx => hlt x (by simp [hx]))
    obtain ⟨bs2, rfl, hz2⟩ := as_nat zs2 fun n hn => (u8_of (hw2 n hn)).1
    have hbs2 := fun b hb => (u8_of (hw2 _ (hz2 b hb))).2
    rw [List.length_map] at hc2 ⊢
    rw [List.map_map] at hl2
    by_cases h : 200 < bs0.length ∨ bs1.length ≠ bs0.length ∨ bs2.length ≠ bs0.length
    · exact walk_out A0 A1 A2 c0 c1 c2 _ _ _ W h
    · have e1 : bs1.length = bs0.length := by omega
      have e2 : bs2.length = bs0.length := by omega
      have := walk A0 A1 A2 c0 c1 c2 bs0 bs1 bs2 W hl0 hl1 hl2 hc0 hc1 hc2 (fun x hx => by have := hbs0 x hx; omega) (fun x hx => by have := hbs1 x hx; omega) (fun x hx => by have := hbs2 x hx; omega) (by omega) e1 e2
      rw [e1, e2]
      exact this

theorem over : Rows.crcLinearRow.holds Try.pinned (OpenSpec.ofChange Rows.crcLinearSpec) :=
  OpenClaim.holds_of_wide 6 Try.f6 rfl rfl rfl rfl rfl rfl rfl ⟨rfl, rfl, rfl, rfl, rfl⟩ rfl rfl rfl rfl rfl (by kernel_rfl) Try.func6 (by kernel_rfl)
    (of_decide_eq_true (by kernel_rfl)) (by unfold Func.isWrapper; first | (rw [if_pos (by decide +kernel)]; kernel_rfl) | (rw [if_neg (by decide +kernel)]; exact ⟨rfl, rfl⟩))
    (fun os started H enc _ => lifted os started H enc)

theorem proved : Rows.CrcLinearSaid :=
  over
#print axioms proved
end Go.Proofs.Ytalmaooakgfllaa.crcLinear
