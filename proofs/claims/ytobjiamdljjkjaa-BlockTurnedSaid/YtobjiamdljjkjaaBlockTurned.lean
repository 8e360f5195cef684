/- Proved: for any entries, any restart interval, any place and any bit, BlockTurned of butterylaw11 answers true (a block with one flipped bit is rejected, with the error of the definition), and its arguments read as before. Conditions: none beyond what the given row states. -/
import Derived.Test.YtobjiamdljjkjaaJb
import Derived.Deep.RegionHeld3
import Derived.Deep.QuietTactic
import Derived.BigQuiet
import Derived.LoopTactic
import Derived.RowKit3
import Derived.WalkSmall
import Derived.StillTailTactics
namespace Go.Proofs.Ytobjiamdljjkjaa.blockTurned
set_option linter.unusedVariables false
set_option linter.unusedSimpArgs false
open Go.ChangeShapes Go.WideShapes Go.ChangeAt Go.RowKit Lift Bk Ik Sk Vn

theorem own : ownKnob Try.prog.godebug = none := by kernel_rfl

theorem i64_and7 (n : Int) : bits .and .i64 n 7 = n % 8 := by
  have h7 : (BitVec.ofInt 64 7).toNat = 2 ^ 3 - 1 := by decide
  have key : (BitVec.ofInt 64 n &&& BitVec.ofInt 64 7).toNat = (n % ((2 ^ 64 : Nat) : Int)).toNat % 2 ^ 3 := by
    rw [BitVec.toNat_and, BitVec.toNat_ofInt, h7, Nat.and_two_pow_sub_one_eq_mod]
  show IntKind.i64.wrap ((BitVec.ofInt 64 n &&& BitVec.ofInt 64 7).toNat : Nat) = n % 8
  rw [key, IntKind.wrap_i64]
  omega
theorem flip_int {x m : Nat} (hx : x < 256) (hm : m < 8) : bits .xor .u8 (x : Int) (IntKind.u8.wrap (2 ^ min (IntKind.u64.wrap (m : Int)).toNat 8)) = ((x ^^^ 2 ^ m : Nat) : Int) := by
  have h1 : IntKind.u64.wrap (m : Int) = (m : Int) := by simp only [IntKind.wrap_u64]; omega
  have hp : 2 ^ m < 2 ^ 8 := Nat.pow_lt_pow_right (by decide) hm
  have h2 : IntKind.u8.wrap (2 ^ min (IntKind.u64.wrap (m : Int)).toNat 8) = ((2 ^ m : Nat) : Int) := by
    rw [h1, Int.toNat_natCast, Nat.min_eq_left (by omega), show (2 : Int) ^ m = ((2 ^ m : Nat) : Int) by rw [Int.natCast_pow]; rfl, IntKind.wrap_u8]
    generalize 2 ^ m = p at hp
    omega
  rw [h2, u8_xor_nat x (2 ^ m) hx hp]
theorem flip_ok {x m : Nat} (hx : x < 256) (hm : m < 8) : x ^^^ 2 ^ m < 256 ∧ x ^^^ 2 ^ m ≠ x := by
  have hp : 2 ^ m < 2 ^ 8 := Nat.pow_lt_pow_right (by decide) hm
  refine ⟨Crc.xor_lt8 hx hp, fun h => ?_⟩
  have h1 : x ^^^ (x ^^^ 2 ^ m) = x ^^^ x := by rw [h]
  rw [← Nat.xor_assoc, Nat.xor_self, Nat.zero_xor] at h1
  have := Nat.two_pow_pos m
  omega
theorem own_cap {w : World} {base n c : Nat} {A : Option Addr} {xs : List Value} (h : w.ownsRow base 5 1 (.slice A n c) n xs) : n ≤ c := by
  obtain ⟨_, _, hv, hc, _⟩ := own_parts h
  injection hv with _ _ hv
  omega
/-- The block of a slice of the call's own that is not empty. -/
theorem own_block {w : World} {base n c : Nat} {A : Option Addr} {xs : List Value} (h : w.ownsRow base 5 1 (.slice A n c) n xs) (hn : 0 < n) :
    ∃ g cur, A = some ⟨g, 0, none⟩ ∧ base ≤ g ∧ w.heap[g]? = some (.cells cur 5 (0, 0)) ∧ (∀ j u, xs[j]? = some u → w.cell? ⟨g, j, none⟩ = some u) := by
  rcases h.2 with ⟨_, h0⟩ | ⟨g, cap, cur, hv, hg, hh, _⟩
  · omega
  · injection hv with hA
    subst hA
    refine ⟨g, _, rfl, hg, hh, fun j u hu => ?_⟩
    have := h.cells (g := g) rfl j u hu
    rw [show (Addr.add ⟨g, 0, none⟩ j) = ⟨g, j, none⟩ by unfold Addr.add; split <;> simp_all] at this
    exact this

set_option maxRecDepth 100000 in
set_option maxHeartbeats 3200000 in
theorem walk (A : Option Addr) (c : Nat) (L : List D) (ev ea bit : Int) (w : World) (h1 : Ents w (· < w.heap.size) A c L) (ha2 : ea ≤ 9223372036854775807) (hb1 : -9223372036854775808 ≤ bit) (hb2 : bit ≤ 9223372036854775807) :
    Calls Try.prog 6 #[.slice A L.length c, .int .i64 ev, .int .i64 ea, .int .i64 bit] w (Bk.Yes w) := by
  have H1 := Lib.hid h1
  have HC1 := Lib.hid (And.intro hb1 hb2)
  clear h1 hb1 hb2
  go_enter Try.func6, Try.ntmps6
  go_wp2_with fail
  refine (alive_any _).mono ?_
  rintro e W1 ⟨rfl, hb1⟩
  have HB1 := Lib.hid hb1
  clear hb1
  go_wp2_with fail
  refine (big_any A c _ L W1 (H1.out.below HB1.out)).mono ?_
  rintro e W2 ⟨rfl, rfl⟩
  have HBR := Lib.hid (rbuild_any A c L ev W1 (H1.out.next HB1.out))
  obtain ⟨bg, hbg⟩ : ∃ bg, bg = bigL L := ⟨_, rfl⟩
  rw [← hbg]
  have HBG := Lib.hid hbg
  clear hbg
  go_wp2_with fail
  refine HBR.out.mono ?_
  rintro e W2 ⟨v, rfl, hown, hb2⟩
  obtain ⟨A2, c2, rfl, hc2, hm2, -⟩ := own_parts hown
  have HBY := Lib.hid (HB1.out.trans (hb2.mono HB1.out.size))
  have HO2 := Lib.hid hown
  have hml := may_le (L.map D.t)
  clear hb2 HBR hown
  cases bg
  · obtain ⟨hn60, hsm⟩ := big_no HBG.out.symm
    clear hsm HBG
    by_cases hm0 : may (L.map D.t) = 0
    · by_cases hat : ea < 0
      · have d1 : decide (ea < 0) = true := decide_eq_true hat
        rw [hm0]
        clear hm0
        go_wp2_with fail
        go_ret
        exact ⟨rfl, HBY.out⟩
      · have d1 : decide (ea < 0) = false := decide_eq_false hat
        obtain ⟨a, rfl⟩ := Int.eq_ofNat_of_zero_le (by omega : 0 ≤ ea)
        have ebs : bldB ev (L.map D.t) = blk (clamp ev) (L.map D.t) := bldB_ok hm0
        rw [ebs] at HO2 hc2 ⊢
        have hok : ∀ t, t ∈ L.map D.t → okT t = true := (may_zero hm0).1
        have hb8 : ∀ x, x ∈ blk (clamp ev) (L.map D.t) → x < 256 := blk_byte (fun d hd => ⟨hok _ (List.mem_map.2 ⟨d, hd, rfl⟩), (H1.out.ok d hd).ok, (H1.out.ok d hd).v8⟩)
        have hbl : (blk (clamp ev) (L.map D.t)).length ≤ 10000000 := by
          have := blk_max (every := clamp ev) hok
          rw [List.length_map] at this
          omega
        have hir := isB_raw (bs := blk (clamp ev) (L.map D.t)) (ts := L.map D.t) ⟨hm0, clamp ev, (clamp_in _).1, (clamp_in _).2, rfl⟩
        have HIR := Lib.hid (And.intro hir.1 hir.2.1)
        have B8 := Lib.hid hb8
        have hbsm := hbl
        have h8l := hir.1
        rw [hm0]
        clear hm0 hok hb8 hbl ebs hir
        generalize blk (clamp ev) (L.map D.t) = bs at *
        obtain ⟨g, cur, rfl, hg, hh, hcell⟩ := own_block HO2.out (by omega)
        have HG := Lib.hid (Nat.le_trans HB1.out.size hg)
        have HH := Lib.hid hh
        have HC := Lib.hid hcell
        clear hg hh hcell hml
        obtain ⟨k, hk⟩ : ∃ k : Nat, k = a % bs.length := ⟨_, rfl⟩
        have hkl : k < bs.length := by rw [hk]; exact Nat.mod_lt _ (by omega)
        have e1 : (a : Int).tmod (bs.length : Int) = (k : Int) := by rw [hk]; rfl
        have e2 : IntKind.i64.wrap (k : Int) = (k : Int) := IntWalk.i64_in _ (by omega)
        have e3 : ((bs.length : Int) == 0) = false := by rw [beq_eq_false_iff_ne]; omega
        have e5 : ¬ bs = [] := fun h => by rw [h] at h8l; simp at h8l
        have e6 : (a : Int) % (bs.length : Int) = (k : Int) := by rw [hk]; rfl
        obtain ⟨x, hx⟩ : ∃ x : Nat, bs[k]? = some x := ⟨_, List.getElem?_eq_getElem hkl⟩
        have x8 := B8.out x (List.mem_of_getElem? hx)
        have hcx : W2.cell? ⟨g, k, none⟩ = some (.int .u8 (x : Int)) := HC.out k (vb x) (by rw [List.getElem?_map, hx]; rfl)
        have HX := Lib.hid hx
        obtain ⟨m, hm⟩ : ∃ m : Nat, (m : Int) = bit % 8 := ⟨(bit % 8).toNat, by omega⟩
        have hm8 : m < 8 := by omega
        have e7 : bits .and .i64 bit 7 = (m : Int) := by rw [i64_and7, hm]
        unfold maxLen at hm2
        clear hx hk hm
        go_upto_region 6 with fail
        go_still_tail 18, (by kernel_rfl)
        change wpList _ _ _ _ _ W2.drew
        have eD : bits .xor .u8 (x : Int) (IntKind.u8.wrap (2 ^ min (IntKind.u64.wrap (m : Int)).toNat 8)) = ((x ^^^ 2 ^ m : Nat) : Int) := flip_int x8 hm8
        obtain ⟨d8, dne⟩ := flip_ok (x := x) x8 hm8
        rw [eD]
        generalize x ^^^ 2 ^ m = d at d8 dne
        have hfr : W2.drew.frozen? ⟨g, k, none⟩ = false := frozen_of_row _ g k _ _ HH.out
        have hcd : W2.drew.cell? ⟨g, k, none⟩ = some (.int .u8 (x : Int)) := hcx
        have hb3 : Below w.heap.size w (W2.drew.setCell ⟨g, k, none⟩ (vb d)) := HBY.out.drew.setCell HG.out _
        have hgs : g < W2.heap.size := (Array.getElem?_eq_some_iff.1 HH.out).1
        have hset : Lies (W2.drew.setCell ⟨g, k, none⟩ (vb d)) (W2.drew.setCell ⟨g, k, none⟩ (vb d)).heap.size (some ⟨g, 0, none⟩) ((bs.set k d).map vb) := by
          refine .inr ⟨_, rfl, by simp; exact hgs, fun j u hu => ?_⟩
          rw [show (Addr.add ⟨g, 0, none⟩ j) = ⟨g, j, none⟩ by unfold Addr.add; split <;> simp_all]
          by_cases hj : j = k
          · subst hj
            rw [List.getElem?_map, List.getElem?_set_self hkl] at hu
            injection hu with hu
            subst hu
            exact World.cell?_setCell_same _ _ _ hcd
          · rw [List.getElem?_map, List.getElem?_set_ne (Ne.symm hj), ← List.getElem?_map] at hu
            rw [World.cell?_setCell_other _ _ _ _ (fun h => hj (by injection h with _ h _; exact h.symm))]
            exact HC.out j u hu
        have H3 := Lib.hid hb3
        have HS := Lib.hid hset
        have HTU := Lib.hid (turned HIR.out.1 B8.out HIR.out.2 HX.out d8 dne)
        have HSL : Hid ((bs.set k d).length = bs.length) := Lib.hid (List.length_set ..)
        have HS8 : Hid (∀ y, y ∈ bs.set k d → y < 256) := Lib.hid fun y hy => by
          rcases List.mem_or_eq_of_mem_set hy with h | h
          · exact B8.out y h
          · omega
        clear hb3 hset eD dne e7 hcx hgs
        generalize W2.drew = w2 at H3 HS hfr hcd
        generalize hbt : bs.set k d = bt at HS HTU HSL HS8
        clear hbt
        have HCC := Lib.hid hc2
        go_wp2_with fail
        change Calls _ _ _ (w2.setCell ⟨g, k, none⟩ (vb d)) _
        generalize w2.setCell ⟨g, k, none⟩ (vb d) = W3 at H3 HS ⊢
        have HA : Hid (Calls Try.prog 15 #[.slice (some ⟨g, 0, none⟩) bs.length c2] W3 (Alls W3 bt)) := Lib.hid (by
          have h := oall_any (some ⟨g, 0, none⟩) c2 bt W3 HS.out (by rw [HSL.out]; exact HCC.out) (by unfold maxLen; omega) (by rw [HSL.out]; omega) HS8.out
          rwa [HSL.out] at h)
        have HBA : Hid (∀ W : World, Below W3.heap.size W3 W → Calls Try.prog 17 #[.slice (some ⟨g, 0, none⟩) bs.length c2] W (Ball W bt)) := Lib.hid (fun W hb => by
          have h := ball_any (some ⟨g, 0, none⟩) c2 bt W ((HS.out.below hb).up hb.size) (by rw [HSL.out]; exact HCC.out) (by unfold maxLen; omega) (by rw [HSL.out]; omega) HS8.out
          rwa [HSL.out] at h)
        clear hfr hcd
        refine HA.out.mono ?_
        rintro e W4 ⟨hb4, A4, c4, L4, rfl, hL4, hE4⟩
        rw [HTU.out] at hL4 ⊢
        obtain rfl : L4 = [] := List.map_eq_nil_iff.1 hL4
        have HB4 := Lib.hid (H3.out.trans (hb4.mono H3.out.size))
        have HBB := Lib.hid (HBA.out W4 hb4)
        have HE4 := Lib.hid (hE4.mono (R' := (· < W4.heap.size)) fun k hk => hk.2)
        clear hb4 hL4 hE4 HA HBA
        go_wp2_with fail
        refine HBB.out.mono ?_
        rintro e W5 ⟨hb5, A5, c5, L5, ev5, rfl, hL5, hE5⟩
        rw [HTU.out] at hL5 ⊢
        obtain rfl : L5 = [] := List.map_eq_nil_iff.1 hL5
        have HB5 := Lib.hid (HB4.out.trans (hb5.mono HB4.out.size))
        have HSE := Lib.hid (same_entries A4 A5 c4 c5 [] [] W5 (HE4.out.next hb5) (hE5.mono fun k hk => hk.2) rfl (by simp))
        clear hb5 hL5 hE5 HBB
        go_wp2_with fail
        refine HSE.out.mono ?_
        rintro e W6 ⟨rfl, hb6⟩
        have HB6 := Lib.hid (HB5.out.trans (hb6.mono HB5.out.size))
        clear hb6 HSE
        go_wp2_with fail
        refine (num_any _ W6).mono ?_
        rintro e w' ⟨rfl, rfl⟩
        go_wp2_with fail
        go_ret
        exact ⟨rfl, HB6.out⟩
    · have hm1 : ¬ (may (L.map D.t) : Int) = 0 := by omega
      have hm2' : ((may (L.map D.t) : Int) != 0) = true := by rw [bne_iff_ne]; exact hm1
      clear hm0
      generalize may (L.map D.t) = mm at *
      generalize bldB ev (L.map D.t) = bs at *
      go_wp2_with fail
      go_ret
      exact ⟨rfl, HBY.out⟩
  · generalize may (L.map D.t) = mm at *
    generalize bldB ev (L.map D.t) = bs at *
    go_wp2_with fail
    go_ret
    exact ⟨rfl, HBY.out⟩

set_option maxRecDepth 100000 in
theorem lifted (os : Os) (started : os.Started) (H : Type) (enc : TypeId × Value → H) :
    ReturnsInHanded {} Try.checked os 6 .any (Rows.blockTurnedSpec.pre6 enc Try.prog Try.f6 Rows.blockTurnedRow.domain false) (Rows.blockTurnedSpec.post enc Try.prog Try.f6 false true false false) := by
  refine lift_true (C := Try.checked) own started (by kernel_rfl) Try.func6
    (ChangeSpec.witness6 (enc := enc) (C := Try.checked) false ⟨#[], #[.slice none 0 0, .int .i64 0, .int .i64 0, .int .i64 0], []⟩ 8 (by kernel_rfl) (by kernel_rfl) (by kernel_rfl) (by kernel_rfl))
    (by kernel_rfl) (by kernel_rfl) (by kernel_rfl) Try.underlying4 rfl ?_ ?_
  · intro ds hds
    match ds, hds with
    | [d1, d2, d3, d4], _ => exact ⟨rfl, rfl, rfl⟩
  · intro W base args ds p hval0 hA0 hlt _
    have hval : ∀ (j : Nat) t v, Try.f6.params[j]? = some t → args[j]? = some v → Value.okWide Try.prog W .any base t v := hval0
    have hA : DataW.TrodAll enc Try.prog W 0 (fun _ => true) true Try.f6.params.toList args.toList ds p := hA0
    rw [Try.params6] at hA hval
    obtain ⟨v0, vs0, d0, ds0, p0, q0, hargs, rfl, rfl, h0, r0⟩ := trodAll_cons hA
    obtain ⟨v1, vs1, d1, ds1, p1, q1, rfl, rfl, rfl, h1, r1⟩ := trodAll_cons r0
    obtain ⟨v2, vs2, d2, ds2, p2, q2, rfl, rfl, rfl, h2, r2⟩ := trodAll_cons r1
    obtain ⟨v3, vs3, d3, ds3, p3, q3, rfl, rfl, rfl, h3, r3⟩ := trodAll_cons r2
    obtain ⟨rfl, rfl, rfl⟩ := trodAll_nil r3
    obtain rfl : args = #[v0, v1, v2, v3] := by cases args; simp_all
    obtain ⟨A0, c0, L0, rfl, hN0⟩ := Sk.open_ents (hval 0 _ v0 rfl rfl) h0 (fun x hx => hlt x (by simp [hx]))
    obtain ⟨a1, rfl, rfl, rfl, w1⟩ := open_int Try.underlying3 (hval 1 _ v1 rfl rfl) h1
    have b1 := i64_of w1
    obtain ⟨a2, rfl, rfl, rfl, w2⟩ := open_int Try.underlying3 (hval 2 _ v2 rfl rfl) h2
    have b2 := i64_of w2
    obtain ⟨a3, rfl, rfl, rfl, w3⟩ := open_int Try.underlying3 (hval 3 _ v3 rfl rfl) h3
    have b3 := i64_of w3
    exact walk A0 c0 L0 a1 a2 a3 W hN0 b2.2 b3.1 b3.2

theorem over : Rows.blockTurnedRow.holds Try.pinned (OpenSpec.ofChange Rows.blockTurnedSpec) :=
  OpenClaim.holds_of_wide 6 Try.f6 rfl rfl rfl rfl rfl rfl rfl ⟨rfl, rfl, rfl, rfl, rfl⟩ rfl rfl rfl rfl rfl (by kernel_rfl) Try.func6 (by kernel_rfl)
    (of_decide_eq_true (by kernel_rfl)) (by unfold Func.isWrapper; first | (rw [if_pos (by decide +kernel)]; kernel_rfl) | (rw [if_neg (by decide +kernel)]; exact ⟨rfl, rfl⟩))
    (fun os started H enc _ => lifted os started H enc)

theorem proved : Rows.BlockTurnedSaid :=
  over
#print axioms proved
end Go.Proofs.Ytobjiamdljjkjaa.blockTurned
