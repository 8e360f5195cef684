/- Proved: for any entries, any block size, restart interval and bits per key, any place and any bit, TableTurned of butterylaw13 answers true (All of a table with one flipped bit agrees with the definition, result and error), and its arguments read as before. Conditions: none beyond what the given row states. -/
import Derived.Test.YtobjiamdljjkjaaGreatJf
import Derived.Test.YtobjiamdljjkjaaGreatTr8
import Derived.Deep.RegionHeld3
import Derived.Deep.QuietTactic
import Derived.BigQuiet
import Derived.LoopTactic
import Derived.RowKit3
import Derived.WalkSmall
import Derived.StillTailTactics
namespace Go.Proofs.YtobjiamdljjkjaaGreat.tableTurned
set_option linter.unusedVariables false
set_option linter.unusedSimpArgs false
open Go.ChangeShapes Go.WideShapes Go.ChangeAt Go.RowKit Lift Tb Bk Ik Sk Vn

theorem own : ownKnob Tryz.prog.godebug = none := by kernel_rfl

theorem i64_and7 (n : Int) : bits .and .i64 n 7 = n % 8 := by
  have h7 : (BitVec.ofInt 64 7).toNat = 2 ^ 3 - 1 := by decide
  have key : (BitVec.ofInt 64 n &&& BitVec.ofInt 64 7).toNat = (n % ((2 ^ 64 : Nat) : Int)).toNat % 2 ^ 3 := by
    rw [BitVec.toNat_and, BitVec.toNat_ofInt, h7, Nat.and_two_pow_sub_one_eq_mod]
  show IntKind.i64.wrap ((BitVec.ofInt 64 n &&& BitVec.ofInt 64 7).toNat : Nat) = n % 8
  rw [key, IntKind.wrap_i64]
  omega
theorem flip_int {x m : Nat} (hx : x < 256) (hm : m < 8) : bits .xor .u8 (x : Int) (IntKind.u8.wrap (2 ^ min (IntKind.u64.wrap (m : Int)).toNat 8)) = ((x ^^^ 2 ^ m : Nat) : Int) := by
  have h1 : IntKind.u64.wrap (m : Int) = (m : Int) := by simp only [IntKind.wrap_u64]; omega
  have hp : 2 ^ m < 2 ^ 8 := Nat.pow_lt_pow_right (by decide) hm
  have h2 : IntKind.u8.wrap (2 ^ min (IntKind.u64.wrap (m : Int)).toNat 8) = ((2 ^ m : Nat) : Int) := by
    rw [h1, Int.toNat_natCast, Nat.min_eq_left (by omega), show (2 : Int) ^ m = ((2 ^ m : Nat) : Int) by rw [Int.natCast_pow]; rfl, IntKind.wrap_u8]
    generalize 2 ^ m = p at hp
    omega
  rw [h2, u8_xor_nat x (2 ^ m) hx hp]
theorem flip_ok {x m : Nat} (hx : x < 256) (hm : m < 8) : x ^^^ 2 ^ m < 256 ∧ x ^^^ 2 ^ m ≠ x := by
  have hp : 2 ^ m < 2 ^ 8 := Nat.pow_lt_pow_right (by decide) hm
  refine ⟨Crc.xor_lt8 hx hp, fun h => ?_⟩
  have h1 : x ^^^ (x ^^^ 2 ^ m) = x ^^^ x := by rw [h]
  rw [← Nat.xor_assoc, Nat.xor_self, Nat.zero_xor] at h1
  have := Nat.two_pow_pos m
  omega
theorem own_cap {w : World} {base n c : Nat} {A : Option Addr} {xs : List Value} (h : w.ownsRow base 5 1 (.slice A n c) n xs) : n ≤ c := by
  obtain ⟨_, _, hv, hc, _⟩ := own_parts h
  injection hv with _ _ hv
  omega
/-- The block of a slice of the call's own that is not empty. -/
theorem own_block {w : World} {base n c : Nat} {A : Option Addr} {xs : List Value} (h : w.ownsRow base 5 1 (.slice A n c) n xs) (hn : 0 < n) :
    ∃ g cur, A = some ⟨g, 0, none⟩ ∧ base ≤ g ∧ w.heap[g]? = some (.cells cur 5 (0, 0)) ∧ (∀ j u, xs[j]? = some u → w.cell? ⟨g, j, none⟩ = some u) := by
  rcases h.2 with ⟨_, h0⟩ | ⟨g, cap, cur, hv, hg, hh, _⟩
  · omega
  · injection hv with hA
    subst hA
    refine ⟨g, _, rfl, hg, hh, fun j u hu => ?_⟩
    have := h.cells (g := g) rfl j u hu
    rw [show (Addr.add ⟨g, 0, none⟩ j) = ⟨g, j, none⟩ by unfold Addr.add; split <;> simp_all] at this
    exact this

set_option maxRecDepth 100000 in
set_option maxHeartbeats 3200000 in
theorem walk (A : Option Addr) (c : Nat) (L : List D) (sz ev bi ea bit : Int) (w : World) (h1 : Ents w (· < w.heap.size) A c L) (ha2 : ea ≤ 9223372036854775807) (hb1 : -9223372036854775808 ≤ bit) (hb2 : bit ≤ 9223372036854775807) :
    Calls Tryz.prog 5 #[.slice A L.length c, .int .i64 sz, .int .i64 ev, .int .i64 bi, .int .i64 ea, .int .i64 bit] w (Tb.Yes w) := by
  have H1 := Lib.hid h1
  have HC1 := Lib.hid (And.intro hb1 hb2)
  clear h1 hb1 hb2
  go_enter Tryz.func5, Tryz.ntmps5
  go_wp2_with fail
  refine (Tb.alive_any _).mono ?_
  rintro e W1 ⟨rfl, hb1⟩
  have HB1 := Lib.hid hb1
  clear hb1
  go_wp2_with fail
  refine (big_any A c _ L W1 (H1.out.below HB1.out)).mono ?_
  rintro e W2 ⟨rfl, rfl⟩
  have HBR := Lib.hid (rtable_any A c L sz ev bi W1 (H1.out.next HB1.out))
  obtain ⟨bg, hbg⟩ : ∃ bg, bg = bigL L := ⟨_, rfl⟩
  rw [← hbg]
  have HBG := Lib.hid hbg
  clear hbg
  go_wp2_with fail
  refine HBR.out.mono ?_
  rintro e W2 ⟨v, rfl, hown, hb2⟩
  obtain ⟨A2, c2, rfl, hc2, hm2, -⟩ := own_parts hown
  have HBY := Lib.hid (HB1.out.trans (hb2.mono HB1.out.size))
  have HO2 := Lib.hid hown
  have hml := mayT_le (L.map D.t)
  clear hb2 HBR hown
  cases bg
  · obtain ⟨hn60, hsm⟩ := big_no HBG.out.symm
    clear hsm HBG
    by_cases hm0 : mayT (L.map D.t) = 0
    · by_cases hat : ea < 0
      · have d1 : decide (ea < 0) = true := decide_eq_true hat
        rw [hm0]
        clear hm0
        go_wp2_with fail
        go_ret
        exact ⟨rfl, HBY.out⟩
      · have d1 : decide (ea < 0) = false := decide_eq_false hat
        obtain ⟨a, rfl⟩ := Int.eq_ofNat_of_zero_le (by omega : 0 ≤ ea)
        have hb8 : ∀ x, x ∈ tabB sz ev bi (L.map D.t) → x < 256 := tabB_byte fun t ht => by
          obtain ⟨d, hd, rfl⟩ := List.mem_map.1 ht
          exact ⟨(H1.out.ok d hd).ok, (H1.out.ok d hd).v8⟩
        obtain ⟨h8l, hbl⟩ := tabB_len (size := sz) (every := ev) (bits := bi) hm0 (by rw [List.length_map]; omega)
        have B8 := Lib.hid hb8
        have hbsm : (tabB sz ev bi (L.map D.t)).length ≤ 10000000 := by omega
        have HIS := Lib.hid (tabB_is (size := sz) (every := ev) (bits := bi) hm0)
        rw [hm0]
        clear hm0 hb8 hbl
        generalize tabB sz ev bi (L.map D.t) = bs at *
        obtain ⟨g, cur, rfl, hg, hh, hcell⟩ := own_block HO2.out (by omega)
        have HG := Lib.hid (Nat.le_trans HB1.out.size hg)
        have HH := Lib.hid hh
        have HC := Lib.hid hcell
        clear hg hh hcell hml
        obtain ⟨k, hk⟩ : ∃ k : Nat, k = a % bs.length := ⟨_, rfl⟩
        have hkl : k < bs.length := by rw [hk]; exact Nat.mod_lt _ (by omega)
        have e1 : (a : Int).tmod (bs.length : Int) = (k : Int) := by rw [hk]; rfl
        have e2 : IntKind.i64.wrap (k : Int) = (k : Int) := IntWalk.i64_in _ (by omega)
        have e3 : ((bs.length : Int) == 0) = false := by rw [beq_eq_false_iff_ne]; omega
        have e5 : ¬ bs = [] := fun h => by rw [h] at h8l; simp at h8l
        have e6 : (a : Int) % (bs.length : Int) = (k : Int) := by rw [hk]; rfl
        obtain ⟨x, hx⟩ : ∃ x : Nat, bs[k]? = some x := ⟨_, List.getElem?_eq_getElem hkl⟩
        have x8 := B8.out x (List.mem_of_getElem? hx)
        have hcx : W2.cell? ⟨g, k, none⟩ = some (.int .u8 (x : Int)) := HC.out k (vb x) (by rw [List.getElem?_map, hx]; rfl)
        have HX := Lib.hid hx
        obtain ⟨m, hm⟩ : ∃ m : Nat, (m : Int) = bit % 8 := ⟨(bit % 8).toNat, by omega⟩
        have hm8 : m < 8 := by omega
        have e7 : bits .and .i64 bit 7 = (m : Int) := by rw [i64_and7, hm]
        unfold maxLen at hm2
        clear hx hk hm
        go_upto_region 6 with fail
        go_still_tail 18, (by kernel_rfl)
        change wpList _ _ _ _ _ W2.drew
        have eD : bits .xor .u8 (x : Int) (IntKind.u8.wrap (2 ^ min (IntKind.u64.wrap (m : Int)).toNat 8)) = ((x ^^^ 2 ^ m : Nat) : Int) := flip_int x8 hm8
        obtain ⟨d8, dne⟩ := flip_ok (x := x) x8 hm8
        rw [eD]
        generalize x ^^^ 2 ^ m = d at d8 dne
        have hfr : W2.drew.frozen? ⟨g, k, none⟩ = false := frozen_of_row _ g k _ _ HH.out
        have hcd : W2.drew.cell? ⟨g, k, none⟩ = some (.int .u8 (x : Int)) := hcx
        have hb3 : Below w.heap.size w (W2.drew.setCell ⟨g, k, none⟩ (vb d)) := HBY.out.drew.setCell HG.out _
        have hgs : g < W2.heap.size := (Array.getElem?_eq_some_iff.1 HH.out).1
        have hset : Lies (W2.drew.setCell ⟨g, k, none⟩ (vb d)) (W2.drew.setCell ⟨g, k, none⟩ (vb d)).heap.size (some ⟨g, 0, none⟩) ((bs.set k d).map vb) := by
          refine .inr ⟨_, rfl, by simp; exact hgs, fun j u hu => ?_⟩
          rw [show (Addr.add ⟨g, 0, none⟩ j) = ⟨g, j, none⟩ by unfold Addr.add; split <;> simp_all]
          by_cases hj : j = k
          · subst hj
            rw [List.getElem?_map, List.getElem?_set_self hkl] at hu
            injection hu with hu
            subst hu
            exact World.cell?_setCell_same _ _ _ hcd
          · rw [List.getElem?_map, List.getElem?_set_ne (Ne.symm hj), ← List.getElem?_map] at hu
            rw [World.cell?_setCell_other _ _ _ _ (fun h => hj (by injection h with _ h _; exact h.symm))]
            exact HC.out j u hu
        have H3 := Lib.hid hb3
        have HS := Lib.hid hset
        have HSL : Hid ((bs.set k d).length = bs.length) := Lib.hid (List.length_set ..)
        have HS8 : Hid (∀ y, y ∈ bs.set k d → y < 256) := Lib.hid fun y hy => by
          rcases List.mem_or_eq_of_mem_set hy with h | h
          · exact B8.out y h
          · omega
        have HSM : Hid (tallO (bs.set k d) = tallB (bs.set k d)) := Lib.hid (same_turned HIS.out B8.out HX.out d8 dne)
        clear hb3 hset eD dne e7 hcx hgs
        generalize W2.drew = w2 at H3 HS hfr hcd
        generalize hbt : bs.set k d = bt at HS HSL HS8 HSM
        clear hbt
        have HCC := Lib.hid hc2
        go_wp2_with fail
        change Calls _ _ _ (w2.setCell ⟨g, k, none⟩ (vb d)) _
        generalize w2.setCell ⟨g, k, none⟩ (vb d) = W3 at H3 HS ⊢
        have HA : Hid (Calls Tryz.prog 12 #[.slice (some ⟨g, 0, none⟩) bs.length c2] W3 (Tells W3 (tallB bt).1 (tallB bt).2.2)) := Lib.hid (by
          have h := oallt_any (some ⟨g, 0, none⟩) c2 bt W3 HS.out (by rw [HSL.out]; exact HCC.out) (by unfold maxLen; omega) (by rw [HSL.out]; omega) HS8.out HSM.out
          rwa [HSL.out] at h)
        have HBA : Hid (∀ W : World, Below W3.heap.size W3 W → Calls Tryz.prog 17 #[.slice (some ⟨g, 0, none⟩) bs.length c2] W (Tall W bt)) := Lib.hid (fun W hb => by
          have h := rtall_any (some ⟨g, 0, none⟩) c2 bt W ((HS.out.below hb).up hb.size) (by rw [HSL.out]; exact HCC.out) (by unfold maxLen; omega) (by rw [HSL.out]; omega) HS8.out
          rwa [HSL.out] at h)
        clear hfr hcd
        refine HA.out.mono ?_
        rintro e W4 ⟨hb4, A4, c4, L4, rfl, hL4, hE4⟩
        have HB4 := Lib.hid (H3.out.trans (hb4.mono H3.out.size))
        have HBB := Lib.hid (HBA.out W4 hb4)
        have HE4 := Lib.hid (hE4.mono (R' := (· < W4.heap.size)) fun k hk => hk.2)
        have HL4 := Lib.hid hL4
        have hnn := tallB_le bt
        have HFW := Lib.hid (tallB_few bt)
        clear hb4 hL4 hE4 HA HBA
        go_wp2_with fail
        refine HBB.out.mono ?_
        rintro e W5 ⟨hb5, A5, c5, L5, A6, c6, L6, rfl, hL5, -, hE5, -⟩
        have HB5 := Lib.hid (HB4.out.trans (hb5.mono HB4.out.size))
        have HSE := Lib.hid (same_entries A4 A5 c4 c5 L4 L5 W5 (HE4.out.next hb5) (hE5.mono fun k hk => hk.2) (HL4.out.trans hL5.symm) (by have h1 := HFW.out; rw [← hL5, List.length_map] at h1; omega))
        clear hb5 hL5 hE5 HBB
        generalize (tallB bt).2.2 = nn at *
        go_wp2_with fail
        refine HSE.out.mono ?_
        rintro e W6 ⟨rfl, hb6⟩
        have HB6 := Lib.hid (HB5.out.trans (hb6.mono HB5.out.size))
        clear hb6 HSE
        go_wp2_with fail
        refine (Tb.num_any _ W6).mono ?_
        rintro e w' ⟨rfl, rfl⟩
        go_wp2_with fail
        go_ret
        exact ⟨rfl, HB6.out⟩
    · have hm1 : ¬ (mayT (L.map D.t) : Int) = 0 := by omega
      have hm2' : ((mayT (L.map D.t) : Int) != 0) = true := by rw [bne_iff_ne]; exact hm1
      clear hm0
      generalize mayT (L.map D.t) = mm at *
      generalize tabB sz ev bi (L.map D.t) = bs at *
      go_wp2_with fail
      go_ret
      exact ⟨rfl, HBY.out⟩
  · generalize mayT (L.map D.t) = mm at *
    generalize tabB sz ev bi (L.map D.t) = bs at *
    go_wp2_with fail
    go_ret
    exact ⟨rfl, HBY.out⟩

set_option maxRecDepth 100000 in
theorem lifted (os : Os) (started : os.Started) (H : Type) (enc : TypeId × Value → H) :
    ReturnsInHanded {} Tryz.checked os 5 .any (Rows.tableTurnedSpec.pre6 enc Tryz.prog Tryz.f5 Rows.tableTurnedRow.domain false) (Rows.tableTurnedSpec.post enc Tryz.prog Tryz.f5 false true false false) := by
  refine lift_true (C := Tryz.checked) own started (by kernel_rfl) Tryz.func5
    (ChangeSpec.witness6 (enc := enc) (C := Tryz.checked) false ⟨#[], #[.slice none 0 0, .int .i64 0, .int .i64 0, .int .i64 0, .int .i64 0, .int .i64 0], []⟩ 8 (by kernel_rfl) (by kernel_rfl) (by kernel_rfl) (by kernel_rfl))
    (by kernel_rfl) (by kernel_rfl) (by kernel_rfl) Tryz.underlying4 rfl ?_ ?_
  · intro ds hds
    match ds, hds with
    | [d1, d2, d3, d4, d5, d6], _ => exact ⟨rfl, rfl, rfl⟩
  · intro W base args ds p hval0 hA0 hlt _
    have hval : ∀ (j : Nat) t v, Tryz.f5.params[j]? = some t → args[j]? = some v → Value.okWide Tryz.prog W .any base t v := hval0
    have hA : DataW.TrodAll enc Tryz.prog W 0 (fun _ => true) true Tryz.f5.params.toList args.toList ds p := hA0
    rw [Tryz.params5] at hA hval
    obtain ⟨v0, vs0, d0, ds0, p0, q0, hargs, rfl, rfl, h0, r0⟩ := trodAll_cons hA
    obtain ⟨v1, vs1, d1, ds1, p1, q1, rfl, rfl, rfl, h1, r1⟩ := trodAll_cons r0
    obtain ⟨v2, vs2, d2, ds2, p2, q2, rfl, rfl, rfl, h2, r2⟩ := trodAll_cons r1
    obtain ⟨v3, vs3, d3, ds3, p3, q3, rfl, rfl, rfl, h3, r3⟩ := trodAll_cons r2
    obtain ⟨v4, vs4, d4, ds4, p4, q4, rfl, rfl, rfl, h4, r4⟩ := trodAll_cons r3
    obtain ⟨v5, vs5, d5, ds5, p5, q5, rfl, rfl, rfl, h5, r5⟩ := trodAll_cons r4
    obtain ⟨rfl, rfl, rfl⟩ := trodAll_nil r5
    obtain rfl : args = #[v0, v1, v2, v3, v4, v5] := by cases args; simp_all
    obtain ⟨A0, c0, L0, rfl, hN0⟩ := Sk.open_ents (hval 0 _ v0 rfl rfl) h0 (fun x hx => hlt x (by simp [hx]))
    obtain ⟨a1, rfl, rfl, rfl, w1⟩ := open_int Tryz.underlying3 (hval 1 _ v1 rfl rfl) h1
    have b1 := i64_of w1
    obtain ⟨a2, rfl, rfl, rfl, w2⟩ := open_int Tryz.underlying3 (hval 2 _ v2 rfl rfl) h2
    have b2 := i64_of w2
    obtain ⟨a3, rfl, rfl, rfl, w3⟩ := open_int Tryz.underlying3 (hval 3 _ v3 rfl rfl) h3
    have b3 := i64_of w3
    obtain ⟨a4, rfl, rfl, rfl, w4⟩ := open_int Tryz.underlying3 (hval 4 _ v4 rfl rfl) h4
    have b4 := i64_of w4
    obtain ⟨a5, rfl, rfl, rfl, w5⟩ := open_int Tryz.underlying3 (hval 5 _ v5 rfl rfl) h5
    have b5 := i64_of w5
    exact walk A0 c0 L0 a1 a2 a3 a4 a5 W hN0 b4.2 b5.1 b5.2

theorem over : Rows.tableTurnedRow.holds Tryz.pinned (OpenSpec.ofChange Rows.tableTurnedSpec) :=
  OpenClaim.holds_of_wide 5 Tryz.f5 rfl rfl rfl rfl rfl rfl rfl ⟨rfl, rfl, rfl, rfl, rfl⟩ rfl rfl rfl rfl rfl (by kernel_rfl) Tryz.func5 (by kernel_rfl)
    (of_decide_eq_true (by kernel_rfl)) (by unfold Func.isWrapper; first | (rw [if_pos (by decide +kernel)]; kernel_rfl) | (rw [if_neg (by decide +kernel)]; exact ⟨rfl, rfl⟩))
    (fun os started H enc _ => lifted os started H enc)

theorem proved : Rows.TableTurnedSaid :=
  over
#print axioms proved
end Go.Proofs.YtobjiamdljjkjaaGreat.tableTurned
