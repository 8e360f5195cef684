/- For all bytes, every place and every bit CrcTurns returns true and leaves all memory as it was: no condition. -/
import Derived.Test.YtalmaooakgfllaaLaw3
import Derived.RowKit3
import Derived.WalkSmall
import Derived.StillTailTactics
namespace Go.Proofs.Ytalmaooakgfllaa.crcTurns
set_option linter.unusedVariables false
set_option linter.unusedSimpArgs false
open Go.ChangeShapes Go.WideShapes Go.ChangeAt Go.RowKit Lift Crc

theorem own : ownKnob Try.prog.godebug = none := by kernel_rfl

theorem i64_and7 (n : Int) : bits .and .i64 n 7 = n % 8 := by
  have h7 : (BitVec.ofInt 64 7).toNat = 2 ^ 3 - 1 := by decide
  have key : (BitVec.ofInt 64 n &&& BitVec.ofInt 64 7).toNat = (n % ((2 ^ 64 : Nat) : Int)).toNat % 2 ^ 3 := by
    rw [BitVec.toNat_and, BitVec.toNat_ofInt, h7, Nat.and_two_pow_sub_one_eq_mod]
  show IntKind.i64.wrap ((BitVec.ofInt 64 n &&& BitVec.ofInt 64 7).toNat : Nat) = n % 8
  rw [key, IntKind.wrap_i64]
  omega
theorem flip_int {x m : Nat} (hx : x < 256) (hm : m < 8) : bits .xor .u8 (x : Int) (IntKind.u8.wrap (2 ^ min (IntKind.u64.wrap (m : Int)).toNat 8)) = ((x ^^^ 2 ^ m : Nat) : Int) := by
  have h1 : IntKind.u64.wrap (m : Int) = (m : Int) := by simp only [IntKind.wrap_u64]; omega
  have hp : 2 ^ m < 2 ^ 8 := Nat.pow_lt_pow_right (by decide) hm
  have h2 : IntKind.u8.wrap (2 ^ min (IntKind.u64.wrap (m : Int)).toNat 8) = ((2 ^ m : Nat) : Int) := by
    rw [h1, Int.toNat_natCast, Nat.min_eq_left (by omega), show (2 : Int) ^ m = ((2 ^ m : Nat) : Int) by rw [Int.natCast_pow]; rfl, IntKind.wrap_u8]
    generalize 2 ^ m = p at hp
    omega
  rw [h2, u8_xor_nat x (2 ^ m) hx hp]
theorem flip_ok {x m : Nat} (hx : x < 256) (hm : m < 8) : x ^^^ 2 ^ m < 256 ∧ x ^^^ 2 ^ m ≠ x := by
  have hp : 2 ^ m < 2 ^ 8 := Nat.pow_lt_pow_right (by decide) hm
  refine ⟨xor_lt8 hx hp, fun h => ?_⟩
  have h1 : x ^^^ (x ^^^ 2 ^ m) = x ^^^ x := by rw [h]
  rw [← Nat.xor_assoc, Nat.xor_self, Nat.zero_xor] at h1
  have := Nat.two_pow_pos m
  omega
theorem own_cap {w : World} {base n c : Nat} {A : Option Addr} {xs : List Value} (h : w.ownsRow base 5 1 (.slice A n c) n xs) : n ≤ c := by
  obtain ⟨_, _, hv, hc, _⟩ := own_parts h
  injection hv with _ _ hv
  omega
/-- The block of a slice of the call's own that is not empty. -/
theorem own_block {w : World} {base n c : Nat} {A : Option Addr} {xs : List Value} (h : w.ownsRow base 5 1 (.slice A n c) n xs) (hn : 0 < n) :
    ∃ g cur, A = some ⟨g, 0, none⟩ ∧ base ≤ g ∧ w.heap[g]? = some (.cells cur 5 (0, 0)) ∧ (∀ j u, xs[j]? = some u → w.cell? ⟨g, j, none⟩ = some u) := by
  rcases h.2 with ⟨_, h0⟩ | ⟨g, cap, cur, hv, hg, hh, _⟩
  · omega
  · injection hv with hA
    subst hA
    refine ⟨g, _, rfl, hg, hh, fun j u hu => ?_⟩
    have := h.cells (g := g) rfl j u hu
    rw [show (Addr.add ⟨g, 0, none⟩ j) = ⟨g, j, none⟩ by unfold Addr.add; split <;> simp_all] at this
    exact this

set_option maxRecDepth 100000 in
set_option maxHeartbeats 800000 in
theorem walk (A : Option Addr) (c a : Nat) (bit : Int) (bs : List Nat) (W : World) (hl : Lies W W.heap.size A (bs.map vb)) (hc : bs.length ≤ c) (hmc : c ≤ maxLen) (b8 : ∀ x, x ∈ bs → x < 256)
    (ha : a ≤ 9223372036854775807) (hb1 : -9223372036854775808 ≤ bit) (hb2 : bit ≤ 9223372036854775807) (h1 : 1 ≤ bs.length) (h300 : bs.length ≤ 300) :
    Calls Try.prog 5 #[.slice A bs.length c, .int .i64 a, .int .i64 bit] W (Yes W) := by
  have hm1 : bs.length ≤ maxLen := Nat.le_trans hc hmc
  have HM := Lib.hid hm1
  have HB := Lib.hid hl
  have B8 := Lib.hid b8
  clear hl b8 hmc hm1
  go_enter Try.func5, Try.ntmps5
  go_wp2_with fail
  refine (alive_any _).mono ?_; rintro e W1 ⟨rfl, hb1⟩
  have HW1 := Lib.hid hb1
  have HB1 := Lib.hid ((HB.out.below hb1).up hb1.size)
  clear hb1
  obtain ⟨A2, c2, W2, hr2, hown, hb2⟩ := fresh_bytes A c _ bs W1 HB1.out (by omega)
  obtain ⟨g, cur, rfl, hg, hh, hcell⟩ := own_block hown (by omega)
  have hcc : bs.length ≤ c2 := own_cap hown
  have HR := Lib.hid hr2
  have HO := Lib.hid hown
  have HW2 := Lib.hid (HW1.out.trans (hb2.mono HW1.out.size))
  have HB2 := Lib.hid ((HB1.out.below hb2).up hb2.size)
  have HH := Lib.hid hh
  have HC := Lib.hid hcell
  have HG := Lib.hid hg
  clear hr2 hown hb2 hh hcell hg
  go_wp2_with (at_builtin; refine wpList_append_run rfl _ _ 23 rfl rfl rfl HR.out ?_)
  obtain ⟨k, hk⟩ : ∃ k : Nat, k = a % bs.length := ⟨_, rfl⟩
  have hkl : k < bs.length := by rw [hk]; exact Nat.mod_lt _ (by omega)
  have e1 : (a : Int).tmod (bs.length : Int) = (k : Int) := by rw [hk]; rfl
  have e2 : IntKind.i64.wrap (k : Int) = (k : Int) := IntWalk.i64_in _ (by omega)
  have e3 : ((bs.length : Int) == 0) = false := by rw [beq_eq_false_iff_ne]; omega
  have e4 : ¬ (bs.length : Int) = 0 := by omega
  have e5 : ¬ bs = [] := fun h => by rw [h] at h1; simp at h1
  have e6 : (a : Int) % (bs.length : Int) = (k : Int) := by rw [hk]; rfl
  obtain ⟨x, hx⟩ : ∃ x : Nat, bs[k]? = some x := ⟨_, List.getElem?_eq_getElem hkl⟩
  have x8 := B8.out x (List.mem_of_getElem? hx)
  have hcx : W2.cell? ⟨g, k, none⟩ = some (.int .u8 (x : Int)) := HC.out k (vb x) (by rw [List.getElem?_map, hx]; rfl)
  have HX := Lib.hid hx
  have HK := Lib.hid hk
  obtain ⟨m, hm⟩ : ∃ m : Nat, (m : Int) = bit % 8 := ⟨(bit % 8).toNat, by omega⟩
  have hm8 : m < 8 := by omega
  have e7 : bits .and .i64 bit 7 = (m : Int) := by rw [i64_and7, hm]
  clear hx hk e4 hm
  go_still_tail 18, (by kernel_rfl)
  change wpList _ _ _ _ _ W2.drew
  have eD : bits .xor .u8 (x : Int) (IntKind.u8.wrap (2 ^ min (IntKind.u64.wrap (m : Int)).toNat 8)) = ((x ^^^ 2 ^ m : Nat) : Int) := flip_int x8 hm8
  obtain ⟨d8, dne⟩ := flip_ok (x := x) x8 hm8
  rw [eD]
  generalize x ^^^ 2 ^ m = d at d8 dne
  have hfr : W2.drew.frozen? ⟨g, k, none⟩ = false := frozen_of_row _ g k _ _ HH.out
  have hcd : W2.drew.cell? ⟨g, k, none⟩ = some (.int .u8 (x : Int)) := hcx
  have hW1 := HW1.out.size
  have hb3 : Below W.heap.size W (W2.drew.setCell ⟨g, k, none⟩ (vb d)) := HW2.out.drew.setCell (Nat.le_trans hW1 HG.out) _
  have hgs : g < W2.heap.size := (Array.getElem?_eq_some_iff.1 HH.out).1
  have hset : Lies (W2.drew.setCell ⟨g, k, none⟩ (vb d)) (W2.drew.setCell ⟨g, k, none⟩ (vb d)).heap.size (some ⟨g, 0, none⟩) ((bs.set k d).map vb) := by
    refine .inr ⟨_, rfl, by simp; exact hgs, fun j u hu => ?_⟩
    rw [show (Addr.add ⟨g, 0, none⟩ j) = ⟨g, j, none⟩ by unfold Addr.add; split <;> simp_all]
    by_cases hj : j = k
    · subst hj
      rw [List.getElem?_map, List.getElem?_set_self hkl] at hu
      injection hu with hu
      subst hu
      exact World.cell?_setCell_same _ _ _ hcd
    · rw [List.getElem?_map, List.getElem?_set_ne (Ne.symm hj), ← List.getElem?_map] at hu
      rw [World.cell?_setCell_other _ _ _ _ (fun h => hj (by injection h with _ h _; exact h.symm))]
      exact HC.out j u hu
  have hb4 := (HB.out.below hb3).up hb3.size
  have H3 := Lib.hid hb3
  have HS := Lib.hid hset
  have HB4 := Lib.hid hb4
  have HHid := Lib.hid dne
  clear hb3 hset hb4 eD dne e7 hcx hgs hW1
  generalize W2.drew = w2 at H3 HS HB4 hfr hcd
  go_wp2_with fail
  refine (table_any _).mono ?_
  intro e W4 hmade
  obtain ⟨A1, c1, rfl, hc1, hmm1, hl1, hb4⟩ := hmade.parts
  clear hmade
  rw [tab_length] at hc1 ⊢
  have HL1 := Lib.hid hl1
  have HW4 := Lib.hid (H3.out.trans (hb4.mono H3.out.size))
  have HB5 := Lib.hid ((HB4.out.below hb4).up hb4.size)
  have HS5 := Lib.hid ((HS.out.below hb4).up hb4.size)
  clear hl1 hb4 hmm1
  have bset : ∀ y, y ∈ bs.set k d → y < 256 := fun y hy => by
    rcases List.mem_or_eq_of_mem_set hy with h | h
    · exact B8.out y h
    · omega
  have hs2 := sum_by_tab A1 (some ⟨g, 0, none⟩) c1 c2 _ (bs.set k d) W4 hc1 HL1.out HS5.out (by rw [List.length_set]; exact hcc) (by rw [List.length_set]; exact HM.out) bset
  rw [List.length_set] at hs2
  have hne : crc ent bs ≠ crc ent (bs.set k d) := by
    rw [List.set_eq_take_append_cons_drop, if_pos hkl]
    have hx2 : bs = bs.take k ++ x :: bs.drop (k + 1) := by
      conv => lhs; rw [← List.take_append_drop k bs, List.drop_eq_getElem?_toList_append, HX.out]
      rfl
    conv => lhs; rw [hx2]
    exact crc_ne _ _ x d (fun y hy => B8.out y (List.mem_of_mem_take hy)) (fun y hy => B8.out y (List.mem_of_mem_drop hy)) x8 d8 (Ne.symm HHid.out)
  have hne2 : ((crc ent bs : Int) != (crc ent (bs.set k d) : Int)) = true := by rw [bne_iff_ne]; omega
  have HS2 := Lib.hid hs2
  have HNE := Lib.hid hne2
  clear hs2 hne hne2 bset
  go_wp2_with fail
  refine (sum_by_tab A1 A c1 c _ bs W4 hc1 HL1.out HB5.out hc HM.out B8.out).mono ?_; rintro e w' ⟨rfl, rfl⟩
  go_wp2_with fail
  refine HS2.out.mono ?_; rintro e w' ⟨rfl, rfl⟩
  have hne3 := HNE.out
  go_wp2_with fail
  go_ret
  exact ⟨rfl, HW4.out⟩
theorem walk_out (A : Option Addr) (c : Nat) (at' bit : Int) (bs : List Nat) (W : World) (h : bs.length < 1 ∨ 300 < bs.length ∨ at' < 0) :
    Calls Try.prog 5 #[.slice A bs.length c, .int .i64 at', .int .i64 bit] W (Yes W) := by
  by_cases h1 : bs.length < 1
  · have h0 : bs.length = 0 := by omega
    rw [h0]
    clear h h1 h0
    go_enter Try.func5, Try.ntmps5
    go_wp2_with fail
    refine (alive_any _).mono ?_; rintro e W1 ⟨rfl, hb1⟩
    have HW1 := Lib.hid hb1
    clear hb1
    go_wp2_with fail
    go_ret
    exact ⟨rfl, HW1.out⟩
  · by_cases h3 : 300 < bs.length
    · clear h
      go_enter Try.func5, Try.ntmps5
      go_wp2_with fail
      refine (alive_any _).mono ?_; rintro e W1 ⟨rfl, hb1⟩
      have HW1 := Lib.hid hb1
      clear hb1
      go_wp2_with fail
      go_ret
      exact ⟨rfl, HW1.out⟩
    · have h2 : at' < 0 := by omega
      clear h
      go_enter Try.func5, Try.ntmps5
      go_wp2_with fail
      refine (alive_any _).mono ?_; rintro e W1 ⟨rfl, hb1⟩
      have HW1 := Lib.hid hb1
      clear hb1
      go_wp2_with fail
      go_ret
      exact ⟨rfl, HW1.out⟩

set_option maxRecDepth 100000 in
theorem lifted (os : Os) (started : os.Started) (H : Type) (enc : TypeId × Value → H) :
    ReturnsInHanded {} Try.checked os 5 .any (Rows.crcTurnsSpec.pre6 enc Try.prog Try.f5 Rows.crcTurnsRow.domain false) (Rows.crcTurnsSpec.post enc Try.prog Try.f5 false true false false) := by
  refine lift_true (C := Try.checked) own started (by kernel_rfl) Try.func5
    (ChangeSpec.witness6 (enc := enc) (C := Try.checked) false ⟨#[], #[.slice none 0 0, .int .i64 0, .int .i64 0], []⟩ 8 (by kernel_rfl) (by kernel_rfl) (by kernel_rfl) (by kernel_rfl))
    (by kernel_rfl) (by kernel_rfl) (by kernel_rfl) Try.underlying4 rfl ?_ ?_
  · intro ds hds
    match ds, hds with
    | [d1, d2, d3], _ => exact ⟨rfl, rfl, rfl⟩
  · intro W base args ds p hval0 hA0 hlt _
    have hval : ∀ (j : Nat) t v, Try.f5.params[j]? = some t → args[j]? = some v → Value.okWide Try.prog W .any base t v := hval0
    have hA : DataW.TrodAll enc Try.prog W 0 (fun _ => true) true Try.f5.params.toList args.toList ds p := hA0
    rw [Try.params5] at hA hval
    obtain ⟨v0, vs0, d0, ds0, p0, q0, hargs, rfl, rfl, h0, r0⟩ := trodAll_cons hA
    obtain ⟨v1, vs1, d1, ds1, p1, q1, rfl, rfl, rfl, h1, r1⟩ := trodAll_cons r0
    obtain ⟨v2, vs2, d2, ds2, p2, q2, rfl, rfl, rfl, h2, r2⟩ := trodAll_cons r1
    obtain ⟨rfl, rfl, rfl⟩ := trodAll_nil r2
    obtain rfl : args = #[v0, v1, v2] := by cases args; simp_all
    obtain ⟨A0, c0, zs0, rfl, hc0, hm0, hl0, hw0⟩ := open_nums Try.underlying23 Try.underlying5 (by kernel_rfl) (hval 0 _ v0 rfl rfl) h0 (fun x hx => hlt x (by simp [hx]))
    obtain ⟨bs0, rfl, hz0⟩ := as_nat zs0 fun n hn => (u8_of (hw0 n hn)).1
    have hbs0 := fun b hb => (u8_of (hw0 _ (hz0 b hb))).2
    rw [List.length_map] at hc0 ⊢
    rw [List.map_map] at hl0
    obtain ⟨a1, rfl, rfl, rfl, w1⟩ := open_int Try.underlying3 (hval 1 _ v1 rfl rfl) h1
    have b1 := i64_of w1
    obtain ⟨a2, rfl, rfl, rfl, w2⟩ := open_int Try.underlying3 (hval 2 _ v2 rfl rfl) h2
    have b2 := i64_of w2
    by_cases h : bs0.length < 1 ∨ 300 < bs0.length ∨ a1 < 0
    · exact walk_out A0 c0 a1 a2 bs0 W h
    · obtain ⟨a, rfl⟩ := Int.eq_ofNat_of_zero_le (by omega : 0 ≤ a1)
      exact walk A0 c0 a a2 bs0 W hl0 hc0 hm0 (fun x hx => by have := hbs0 x hx; omega) (by omega) b2.1 b2.2 (by omega) (by omega)

theorem over : Rows.crcTurnsRow.holds Try.pinned (OpenSpec.ofChange Rows.crcTurnsSpec) :=
  OpenClaim.holds_of_wide 5 Try.f5 rfl rfl rfl rfl rfl rfl rfl ⟨rfl, rfl, rfl, rfl, rfl⟩ rfl rfl rfl rfl rfl (by kernel_rfl) Try.func5 (by kernel_rfl)
    (of_decide_eq_true (by kernel_rfl)) (by unfold Func.isWrapper; first | (rw [if_pos (by decide +kernel)]; kernel_rfl) | (rw [if_neg (by decide +kernel)]; exact ⟨rfl, rfl⟩))
    (fun os started H enc _ => lifted os started H enc)

theorem proved : Rows.CrcTurnsSaid :=
  over
#print axioms proved
end Go.Proofs.Ytalmaooakgfllaa.crcTurns
