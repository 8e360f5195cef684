/- Proved: for any keys and any number of bits, BloomMore of butterylaw12 answers true (the filter of several keys contains all bits of the filter of equal size with only the first of them), and its arguments read as before. Conditions: none beyond what the given row states. -/
import Derived.Test.YtndkehadboekbaaLlaw
import Derived.Deep.DeepCutAuto
import Derived.Deep.RegionHeld3
import Derived.Deep.QuietTactic
import Derived.BigQuiet
import Derived.LoopTactic
namespace Go.Proofs.Ytndkehadboekbaa.bloomMore
set_option linter.unusedVariables false
set_option linter.unusedSimpArgs false
open Go.ChangeShapes Go.WideShapes Go.ChangeAt Go.RowKit Lift Bl Ik Sq

theorem own : ownKnob Try.prog.godebug = none := by kernel_rfl

/-- make([][]byte, n). -/
theorem make_seqs (n : Nat) (hn : n ≤ 1000000) (W : World) : Sem.run Try.prog (Instr.makeSlice 22 (.int .i64 (n : Int)) (.int .i64 (n : Int))) W = .ok (.slice (some ⟨W.heap.size, 0, none⟩) n n) (W.alloc (.cells (madeCells #[.slice none 0 0] n) 25)) ∧
    (W.alloc (.cells (madeCells #[.slice none 0 0] n) 25)).ownsRow W.heap.size 25 1 (.slice (some ⟨W.heap.size, 0, none⟩) n n) n (List.replicate n (.slice none 0 0)) := by
  obtain ⟨i, hi, hz, hs, hb⟩ := info_parts (P := Try.prog) (e := 25) (z := .slice none 0 0) (size := 1) (bytes := 24) (by kernel_rfl)
  have h := run_make (P := Try.prog) W 22 25 i (.slice none 0 0) Try.underlying22 hi hz .i64 .i64 (n : Int) (n : Int) (by omega) (by omega) (by rw [hb]; omega) (by omega)
  rw [hs, Nat.mul_one] at h
  have e := toList_madeCells_one (.slice none 0 0) n
  refine ⟨h, by simp, .inr ⟨W.heap.size, n, _, by simp, Nat.le_refl _, heap_alloc_new W _, by simp, by unfold maxLen; omega, ?_, ?_⟩⟩
  · rw [← Array.length_toList, e]; simp
  · rw [e]; simp [List.take_of_length_le]
theorem and_not {a b : Nat} (ha : a < 256) (hb : b < 256) (h : ∀ i, i < 8 → a.testBit i = true → b.testBit i = true) : bits .andNot .u8 (a : Int) (b : Int) = 0 := by
  rw [u8_andNot_nat a b ha hb]
  have e : a &&& (255 - b) = 0 := by
    refine Nat.eq_of_testBit_eq fun i => ?_
    rw [Nat.testBit_and, Nat.zero_testBit]
    by_cases hi : i < 8
    · cases ht : a.testBit i
      · rfl
      · have e1 : 255 - b = 2 ^ 8 - (b + 1) := by omega
        rw [e1, Nat.testBit_two_pow_sub_succ (by omega), h i hi ht]
        simp
    · rw [Nat.testBit_lt_two_pow (x := a) (i := i) (Nat.lt_of_lt_of_le ha (Nat.le_trans (by decide) (Nat.pow_le_pow_right (by decide) (show 8 ≤ i by omega))))]
      rfl
  rw [e]
  rfl
set_option maxRecDepth 100000 in
set_option maxHeartbeats 3200000 in
theorem walk (A : Option Addr) (c : Nat) (L : List E) (bits' : Int) (w : World) (h1 : Seqs w w.heap.size A c L) :
    Calls Try.prog 5 #[.slice A L.length c, .int .i64 bits'] w (Bl.Yes w) := by
  have H1 := Lib.hid h1
  have hc1 := h1.len
  have hm1 := h1.cap
  unfold maxLen at hm1
  clear h1
  go_enter Try.func5, Try.ntmps5
  go_wp2_with fail
  refine (alive_any _).mono ?_
  rintro e W1 ⟨rfl, hb1⟩
  have HB1 := Lib.hid hb1
  clear hb1
  go_wp2_with fail
  refine (big_any A c _ L W1 (H1.out.below HB1.out)).mono ?_
  rintro e W2 ⟨rfl, rfl⟩
  cases hg : bigS L
  · obtain ⟨hn60, hsm⟩ := big_no hg
    clear hg hsm
    by_cases h0 : L.length < 1
    · have d1 : decide ((L.length : Int) < 1) = true := decide_eq_true (by omega)
      have d2 : decide (L.length < 1) = true := decide_eq_true h0
      go_wp2_with fail
      go_ret
      exact ⟨rfl, HB1.out⟩
    · have d1 : decide ((L.length : Int) < 1) = false := decide_eq_false (by omega)
      have d2 : decide (L.length < 1) = false := decide_eq_false h0
      have hLp : 0 < L.length := by omega
      obtain ⟨e0, he0⟩ : ∃ e, L[0]? = some e := ⟨_, List.getElem?_eq_getElem hLp⟩
      obtain ⟨ad, hA, -, -⟩ := H1.out.place he0
      subst hA
      have HE0 := Lib.hid he0
      have HBO := Lib.hid (obloom_any (some ad) c W1.heap.size L bits' W1 ((H1.out.below HB1.out).up HB1.out.size) (Nat.le_refl _) (by omega))
      clear he0
      go_wp2_with fail
      refine HBO.out.mono ?_
      intro e W2 hmade
      obtain ⟨v2, rfl, ho2, hb2⟩ := hmade
      obtain ⟨A2, c2, rfl, hc2, hm2, hl2⟩ := own_parts ho2
      have HB2 := Lib.hid (HB1.out.trans (hb2.mono HB1.out.size))
      have HL2 := Lib.hid hl2
      have HC2 := Lib.hid (And.intro hc2 hm2)
      obtain ⟨hrun, hown0⟩ := make_seqs L.length (by omega) W2
      have HRUN := Lib.hid hrun
      have hb3 : Below W2.heap.size W2 (W2.alloc (.cells (madeCells #[.slice none 0 0] L.length) 25)) := Joins.below_alloc1 W2 _
      have HO0 := Lib.hid hown0
      have HB3 := Lib.hid hb3
      clear ho2 hb2 hl2 hc2 hm2 HBO hrun hown0 hb3
      have hrun' := HRUN.out
      go_wp2_with fail
      generalize W2.alloc (.cells (madeCells #[.slice none 0 0] L.length) 25) = W3 at HO0 HB3 ⊢
      clear hrun' HRUN
      go_loopw [9] (fun v9 wr => ∃ (i : Nat) (xs : List Value), i ≤ L.length ∧ v9 = .int .i64 (i : Int) ∧ Hid (wr.ownsRow W2.heap.size 25 1 (.slice (some ⟨W2.heap.size, 0, none⟩) L.length L.length) L.length xs) ∧ Hid (∀ j, j < i → xs[j]? = some e0.v) ∧ Hid (Below W2.heap.size W2 wr)) (fun i _ => L.length + 1 - (intOf i).toNat)
      case atStart => exact ⟨0, _, Nat.zero_le _, rfl, HO0, Lib.hid fun j hj => by omega, HB3⟩
      case round =>
        obtain ⟨i, xs, hi, rfl, hown, hx, hb⟩ := hrel
        have HBW := Lib.hid (HB2.out.trans (hb.out.mono HB2.out.size))
        by_cases hlt : i < L.length
        · obtain ⟨ad', hA, -, hp⟩ := (H1.out.below HBW.out).place HE0.out
          injection hA with hA
          subst hA
          have ead : ad.add 0 = ad := by unfold Addr.add; rw [if_pos rfl]
          rw [ead] at hp
          have hxl : xs.length = L.length := by have := hown.out.1; omega
          have g2 := own_free hown.out i
          obtain ⟨u, hu⟩ : ∃ u, xs[i]? = some u := ⟨_, List.getElem?_eq_getElem (by omega)⟩
          have g3 := hown.out.cells (g := W2.heap.size) rfl i u hu
          rw [add_zero_at] at g3
          have hown3 := own_put (j := i) (u := e0.v) hown.out (by omega)
          have HO3 := Lib.hid hown3
          have HX3 : Hid (∀ j, j < i + 1 → (xs.set i e0.v)[j]? = some e0.v) := Lib.hid fun j hj => by
            by_cases h : j = i
            · subst h; rw [List.getElem?_set_self (by omega)]
            · rw [List.getElem?_set_ne (fun h' => h h'.symm)]; exact hx.out j (by omega)
          have HB4 : Hid (Below W2.heap.size W2 (wr.setCell ⟨W2.heap.size, i, none⟩ e0.v)) := Lib.hid (hb.out.setCell (p := ⟨W2.heap.size, i, none⟩) (Nat.le_refl _) _)
          have hic : i < L.length := hlt
          clear hown3 hu hxl ead
          go_wp2_with fail
          go_roundw
          case rel => exact ⟨i + 1, xs.set i e0.v, by omega, by go_num, HO3, HX3, HB4⟩
          case measure => simp [intOf]; omega
        · obtain rfl : i = L.length := by omega
          have hxs : xs = (List.replicate L.length e0).map E.v := by
            refine List.ext_getElem? fun j => ?_
            rw [List.getElem?_map, List.getElem?_replicate]
            by_cases hj : j < L.length
            · rw [if_pos hj, hx.out j hj]; rfl
            · rw [if_neg hj, List.getElem?_eq_none (by have := hown.out.1; omega)]; rfl
          have hown' := hown.out
          rw [hxs] at hown'
          have hsq : Seqs wr wr.heap.size (some ⟨W2.heap.size, 0, none⟩) L.length (List.replicate L.length e0) := by
            refine ⟨Lies.of_own hown', by rw [List.length_replicate]; exact Nat.le_refl _, by unfold maxLen; omega, fun e he => ?_⟩
            rw [List.mem_replicate] at he
            rw [he.2]
            have h9 := (((H1.out.below HBW.out).up HBW.out.size).ok e0 (List.mem_of_getElem? HE0.out))
            exact h9
          have hbo2 := obloom_any (some ⟨W2.heap.size, 0, none⟩) L.length wr.heap.size (List.replicate L.length e0) bits' wr hsq (Nat.le_refl _) (by rw [List.length_replicate]; omega)
          rw [List.length_replicate] at hbo2
          have HBO2 := Lib.hid hbo2
          clear hxs hown' hsq hbo2
          go_wp2_with fail
          refine HBO2.out.mono ?_
          intro e W5 hmade
          obtain ⟨v5, rfl, ho5, hb5⟩ := hmade
          obtain ⟨A5, c5, rfl, hc5, hm5, hl5⟩ := own_parts ho5
          have HB5 := Lib.hid (HBW.out.trans (hb5.mono HBW.out.size))
          have hl2' := (HL2.out.below hb.out).up hb.out.size
          have hl2'' := hl2'.below hb5
          have hrep : (List.replicate L.length e0).map E.bs = List.replicate (L.map E.bs).length e0.bs := by rw [List.map_replicate, List.length_map]
          rw [hrep] at hl5 hc5 ⊢
          obtain ⟨p1, p2, p3⟩ := bloom_parts (L.map E.bs) (clampB bits')
          obtain ⟨q1, q2, q3⟩ := bloom_parts (List.replicate (L.map E.bs).length e0.bs) (clampB bits')
          have hmore : ∀ i, i < mOf (L.map E.bs).length (clampB bits') / 8 → _ := fun i hi => bloom_more (keys := L.map E.bs) (bits := clampB bits') (x := e0.bs) (List.mem_map.2 ⟨e0, List.mem_of_getElem? HE0.out, rfl⟩) hi
          have hmi := mOf_in (L.map E.bs).length (clampB bits')
          rw [List.length_replicate] at q2
          have F8 := bloomB_byte (L.map E.bs) (clampB bits')
          have G8 := bloomB_byte (List.replicate (L.map E.bs).length e0.bs) (clampB bits')
          have hki := kOf_in (clampB bits')
          have hmm : mOf (L.map E.bs).length (clampB bits') ≤ 3000 := by
            have h1 := clampB_in bits'
            have h2 : L.length * clampB bits' ≤ 60 * 40 := Nat.mul_le_mul hn60 h1.2
            rw [List.length_map]
            unfold mOf
            omega
          have hC2 := HC2.out
          clear ho5 hb5 hl2' hrep HBO2
          generalize bloomB (L.map E.bs) (clampB bits') = Fa at *
          generalize bloomB (List.replicate (L.map E.bs).length e0.bs) (clampB bits') = Ga at *
          generalize kOf (clampB bits') = k at *
          generalize mOf (L.map E.bs).length (clampB bits') = m at *
          obtain ⟨r, hr⟩ : ∃ r, r = m / 8 := ⟨_, rfl⟩
          have hFl : Fa.length = r + 1 := by omega
          have hGl : Ga.length = r + 1 := by omega
          have hFk : Fa[r]? = some k := by
            rw [show Fa.length - 1 = r by omega, List.getD_eq_getElem?_getD, List.getElem?_eq_getElem (by omega)] at p1
            rw [List.getElem?_eq_getElem (by omega)]
            exact congrArg some p1
          have hGk : Ga[r]? = some k := by
            rw [show Ga.length - 1 = r by omega, List.getD_eq_getElem?_getD, List.getElem?_eq_getElem (by omega)] at q1
            rw [List.getElem?_eq_getElem (by omega)]
            exact congrArg some q1
          obtain ⟨af, rfl, -, hcf⟩ := hl2''.place (by rw [List.length_map]; omega)
          obtain ⟨ag, rfl, -, hcg⟩ := hl5.place (by rw [List.length_map]; omega)
          have HCF := Lib.hid (cells_at hcf)
          have HCG := Lib.hid (cells_at hcg)
          have gf := HCF.out r k hFk
          have gg := HCG.out r k hGk
          have HMORE : Hid (∀ i a b, i < r → Fa[i]? = some a → Ga[i]? = some b → b < 256 ∧ a < 256 ∧ bits .andNot .u8 (b : Int) (a : Int) = 0) := Lib.hid fun i a b hi ha hb => by
            have h1 := F8 a (List.mem_of_getElem? ha)
            have h2 := G8 b (List.mem_of_getElem? hb)
            refine ⟨h2, h1, and_not h2 h1 fun j hj ht => ?_⟩
            have h3 := hmore i (by omega) j hj
            rw [List.getD_eq_getElem?_getD, List.getD_eq_getElem?_getD, ha, hb] at h3
            exact h3 ht
          have HFL := Lib.hid hFl
          have HGL := Lib.hid hGl
          have hrp : 1 ≤ r := by omega
          have hrb : r ≤ 400 := by omega
          obtain ⟨hC2a, hC2b⟩ := hC2
          unfold maxLen at hC2b hm5
          rw [hFl] at hC2a ⊢
          rw [hGl] at hc5 ⊢
          have er : (r : Int) + 1 - 1 = (r : Int) := by omega
          have dl : decide ((r : Int) + 1 < 2) = false := decide_eq_false (by omega)
          clear p1 p2 p3 q1 q2 q3 hmore hmi F8 G8 hmm hr hFl hGl hFk hGk hl2'' hl5 hcf hcg
          go_upto_region 12 with fail
          go_quiet (fail)
          go_wp2_with fail
          go_loopw [11] (fun v wz => ∃ i : Nat, i ≤ r ∧ v = .int .i64 (i : Int) ∧ Hid (∃ nn, wz = W5.drewN nn)) (fun i _ => r + 1 - (intOf i).toNat)
          case atStart => exact ⟨0, Nat.zero_le _, rfl, Lib.hid ⟨_, rfl⟩⟩
          case round =>
            obtain ⟨i, hi, rfl, hd⟩ := hrel
            by_cases hlt : i < r
            · obtain ⟨a, ha⟩ : ∃ a, Fa[i]? = some a := ⟨_, List.getElem?_eq_getElem (by rw [HFL.out]; omega)⟩
              obtain ⟨b, hb⟩ : ∃ b, Ga[i]? = some b := ⟨_, List.getElem?_eq_getElem (by rw [HGL.out]; omega)⟩
              obtain ⟨x1, x2, x3⟩ := HMORE.out i a b hlt ha hb
              have g1 : wr.cell? (af.add i) = some (.int .u8 (a : Int)) := by obtain ⟨nn, h⟩ := hd.out; rw [h]; exact HCF.out i a ha
              have g2 : wr.cell? (ag.add i) = some (.int .u8 (b : Int)) := by obtain ⟨nn, h⟩ := hd.out; rw [h]; exact HCG.out i b hb
              clear ha hb
              go_wp2_with fail
              go_quiet (fail)
              go_wp2_with fail
              go_roundw
              case rel => exact ⟨i + 1, by omega, by go_num, Lib.hid (by obtain ⟨nn, h⟩ := hd.out; exact ⟨nn + nq, by rw [h, World.drewN_drewN]⟩)⟩
              case measure => simp [intOf]; omega
            · go_wp2_with fail
              go_ret
              refine ⟨rfl, ?_⟩
              obtain ⟨nn, h⟩ := hd.out
              rw [h]
              exact HB5.out.trans ((Joins.below_draws _ _ _).mono HB5.out.size)
  · go_wp2_with fail
    go_ret
    exact ⟨rfl, HB1.out⟩

set_option maxRecDepth 100000 in
theorem lifted (os : Os) (started : os.Started) (H : Type) (enc : TypeId × Value → H) :
    ReturnsInHanded {} Try.checked os 5 .any (Rows.bloomMoreSpec.pre6 enc Try.prog Try.f5 Rows.bloomMoreRow.domain false) (Rows.bloomMoreSpec.post enc Try.prog Try.f5 false true false false) := by
  refine lift_true (C := Try.checked) own started (by kernel_rfl) Try.func5
    (ChangeSpec.witness6 (enc := enc) (C := Try.checked) false ⟨#[], #[.slice none 0 0, .int .i64 0], []⟩ 8 (by kernel_rfl) (by kernel_rfl) (by kernel_rfl) (by kernel_rfl))
    (by kernel_rfl) (by kernel_rfl) (by kernel_rfl) Try.underlying4 rfl ?_ ?_
  · intro ds hds
    match ds, hds with
    | [d1, d2], _ => exact ⟨rfl, rfl, rfl⟩
  · intro W base args ds p hval0 hA0 hlt _
    have hval : ∀ (j : Nat) t v, Try.f5.params[j]? = some t → args[j]? = some v → Value.okWide Try.prog W .any base t v := hval0
    have hA : DataW.TrodAll enc Try.prog W 0 (fun _ => true) true Try.f5.params.toList args.toList ds p := hA0
    rw [Try.params5] at hA hval
    obtain ⟨v0, vs0, d0, ds0, p0, q0, hargs, rfl, rfl, h0, r0⟩ := trodAll_cons hA
    obtain ⟨v1, vs1, d1, ds1, p1, q1, rfl, rfl, rfl, h1, r1⟩ := trodAll_cons r0
    obtain ⟨rfl, rfl, rfl⟩ := trodAll_nil r1
    obtain rfl : args = #[v0, v1] := by cases args; simp_all
    obtain ⟨A0, c0, L0, rfl, hQ0⟩ := Sq.open_seqs (hval 0 _ v0 rfl rfl) h0 (fun x hx => hlt x (by simp [hx]))
    obtain ⟨a1, rfl, rfl, rfl, w1⟩ := open_int Try.underlying3 (hval 1 _ v1 rfl rfl) h1
    have b1 := i64_of w1
    exact walk A0 c0 L0 a1 W hQ0

theorem over : Rows.bloomMoreRow.holds Try.pinned (OpenSpec.ofChange Rows.bloomMoreSpec) :=
  OpenClaim.holds_of_wide 5 Try.f5 rfl rfl rfl rfl rfl rfl rfl ⟨rfl, rfl, rfl, rfl, rfl⟩ rfl rfl rfl rfl rfl (by kernel_rfl) Try.func5 (by kernel_rfl)
    (of_decide_eq_true (by kernel_rfl)) (by unfold Func.isWrapper; first | (rw [if_pos (by decide +kernel)]; kernel_rfl) | (rw [if_neg (by decide +kernel)]; exact ⟨rfl, rfl⟩))
    (fun os started H enc _ => lifted os started H enc)

theorem proved : Rows.BloomMoreSaid :=
  over
#print axioms proved
end Go.Proofs.Ytndkehadboekbaa.bloomMore
