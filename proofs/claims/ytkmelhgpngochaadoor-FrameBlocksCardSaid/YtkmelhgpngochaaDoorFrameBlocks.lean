/- Proved: for any number and any bytes, FrameBlocks of butterylaw7 answers true (what Put returns is as long as the pieces and the padding that the blocks require), and its arguments read as before. Conditions: none beyond what the given row states. -/
import Derived.Test.YtkmelhgpngochaaDoorFlaw7
import Derived.Test.YtkmelhgpngochaaDoorLaid
import Derived.Test.YtkmelhgpngochaaDoorTie
import Derived.Test.YtkmelhgpngochaaDoorCards
import Derived.SevenTiedAt
namespace Go.Proofs.YtkmelhgpngochaaDoor.frameBlocks
set_option linter.unusedVariables false
set_option linter.unusedSimpArgs false
open Go.ChangeShapes Go.WideShapes Go.ChangeAt Go.RowKit Lift Ik Fr

theorem own : ownKnob Tryd.prog.godebug = none := by kernel_rfl

/-- How long a tail is. -/
def tlen (n : Nat) : Nat := if n ≤ 121 then 7 + n else 128 + tlen (n - 121)
termination_by n
decreasing_by omega
theorem tail_tlen : ∀ (r : List Nat), (tail r).length = tlen r.length := by
  intro r
  induction hn : r.length using Nat.strongRecOn generalizing r with
  | _ n ih =>
    subst hn
    by_cases h : r.length ≤ 121
    · rw [tail_end h, piece_length, tlen, if_pos h]
    · rw [tail_more h, List.length_append, piece_length, tlen, if_neg h]
      have := ih _ (by simp; omega) (r.drop 121) rfl
      rw [this, List.length_drop, List.length_take]
      omega
/-- How long what is left of a record is. -/
def rl (p l : Nat) : Nat := if l ≤ 121 - p then 7 + l else 128 - p + tlen (l - (121 - p))
theorem rl_zero (l : Nat) : rl 0 l = tlen l := by unfold rl; conv => rhs; rw [tlen]
theorem put_rl (a : Nat) (r : List Nat) : (put a r).length = pad a + rl (121 - cap a) r.length := by
  have hc := cap_le a
  unfold put parts rl
  rw [List.length_append, List.length_replicate, show 121 - (121 - cap a) = cap a by omega]
  split
  · rw [piece_length]
  · rw [List.length_append, piece_length, tail_tlen, List.length_drop, List.length_take]
    omega
set_option maxHeartbeats 800000 in
theorem walk_no (s : Int) (A : Option Addr) (c : Nat) (r : List Nat) (w : World) (hc : r.length ≤ c) (hm : c ≤ maxLen) (h : s < 0 ∨ 1099511627776 < s ∨ 1000 < r.length) : Calls Tryd.prog 8 #[.int .i64 s, .slice A r.length c] w (Yes w) := by
  unfold maxLen at hm
  by_cases h1 : s < 0
  · go_enter Tryd.func8, Tryd.ntmps8
    go_wp2_with fail
    refine (alive_any _).mono ?_; rintro e W1 ⟨rfl, hb1⟩
    have HB1 := Lib.hid hb1
    clear hb1
    go_wp2_with fail
    go_ret
    exact ⟨rfl, HB1.out⟩
  · by_cases h2 : 1099511627776 < s
    · go_enter Tryd.func8, Tryd.ntmps8
      go_wp2_with fail
      refine (alive_any _).mono ?_; rintro e W1 ⟨rfl, hb1⟩
      have HB1 := Lib.hid hb1
      clear hb1
      go_wp2_with fail
      go_ret
      exact ⟨rfl, HB1.out⟩
    · have h3 : 1000 < r.length := by omega
      go_enter Tryd.func8, Tryd.ntmps8
      go_wp2_with fail
      refine (alive_any _).mono ?_; rintro e W1 ⟨rfl, hb1⟩
      have HB1 := Lib.hid hb1
      clear hb1
      go_wp2_with fail
      go_ret
      exact ⟨rfl, HB1.out⟩
set_option maxRecDepth 100000 in
set_option maxHeartbeats 1600000 in
theorem walk (s : Int) (A : Option Addr) (c : Nat) (r : List Nat) (w : World) (hs : 0 ≤ s ∧ s ≤ 1099511627776) (hl : Lies w w.heap.size A (r.map vb)) (hc : r.length ≤ c) (hm : c ≤ maxLen) (hn : r.length ≤ 1000) (h8 : ∀ x, x ∈ r → x < 256) :
    Calls Tryd.prog 8 #[.int .i64 s, .slice A r.length c] w (Yes w) := by
  obtain ⟨a, rfl⟩ : ∃ a : Nat, s = a := ⟨s.toNat, by omega⟩
  have HPUT := Lib.hid fun W (hb : Below w.heap.size w W) => put_any (a : Int) A c r W (by omega) ((hl.below hb).up hb.size) hc hm (by omega) h8
  have HPL := Lib.hid (put_rl a r)
  have hpl := (put_len a r).2
  rw [show ((a : Nat) : Int).toNat = a from rfl] at HPUT
  have hmm := hm
  unfold maxLen at hmm
  have hla : left a = 128 - a % 128 := rfl
  clear hl h8 hm
  generalize put a r = P at *
  by_cases h7 : left a < 7
  case' pos =>
    have hcap : 121 - cap a = 0 := by unfold cap; rw [if_pos h7]
    have hpad : pad a = left a := by unfold pad; rw [if_pos h7]
    obtain ⟨P0, eP0⟩ : ∃ P0 : Nat, P0 = 0 := ⟨_, rfl⟩
    obtain ⟨Q0, eQ0⟩ : ∃ Q0 : Nat, Q0 = left a := ⟨_, rfl⟩
    have hP0 : P0 ≤ 121 := by omega
    have EQP : Hid (Value.int .i64 0 = .int .i64 (P0 : Int)) := Lib.hid <| by rw [eP0]; rfl
    have EQQ : Hid (Value.int .i64 (128 - (a : Int) % 128) = .int .i64 (Q0 : Int)) := Lib.hid <| by rw [eQ0, hla]; congr 1; omega
    have HT0 : Hid (Q0 + rl P0 r.length = P.length) := Lib.hid (by rw [eP0, eQ0, HPL.out, hcap, hpad])
    clear eP0 eQ0
  case' neg =>
    have hcap : 121 - cap a = a % 128 := by unfold cap; rw [if_neg h7]; omega
    have hpad : pad a = 0 := by unfold pad; rw [if_neg h7]
    obtain ⟨P0, eP0⟩ : ∃ P0 : Nat, P0 = a % 128 := ⟨_, rfl⟩
    obtain ⟨Q0, eQ0⟩ : ∃ Q0 : Nat, Q0 = 0 := ⟨_, rfl⟩
    have hP0 : P0 ≤ 121 := by omega
    have EQP : Hid (Value.int .i64 ((a : Int) % 128) = .int .i64 (P0 : Int)) := Lib.hid <| by rw [eP0]; congr 1
    have EQQ : Hid (Value.int .i64 0 = .int .i64 (Q0 : Int)) := Lib.hid <| by rw [eQ0]; rfl
    have HT0 : Hid (Q0 + rl P0 r.length = P.length) := Lib.hid (by rw [eP0, eQ0, HPL.out, hcap, hpad])
    clear eP0 eQ0
  all_goals
    have h7' := h7
    rw [hla] at h7'
    clear hcap hpad h7
    go_enter Tryd.func8, Tryd.ntmps8
    go_wp2_with fail
    refine (alive_any _).mono ?_; rintro e W1 ⟨rfl, hb1⟩
    have HB1 := Lib.hid hb1
    clear hb1
    go_wp2_with fail
    refine (HPUT.out _ HB1.out).mono ?_
    rintro e W2 ⟨v2, rfl, ho2, hb2⟩
    obtain ⟨A2, c2, rfl, k1, k2, k3⟩ := own_parts ho2
    have HB2 := Lib.hid (HB1.out.trans (hb2.mono HB1.out.size))
    unfold maxLen at k2
    clear ho2 hb2 k3 HPUT
    generalize P.length = T at *
    go_wp2_with fail
    clear HPL hla h7'
    go_loopw [7, 8, 9] (fun at' i l wr => ∃ p q k : Nat, p ≤ 121 ∧ at' = .int .i64 p ∧ i = .int .i64 q ∧ l = .int .i64 k ∧ q + rl p k = T ∧ k ≤ 1000 ∧ wr = W2) (fun at' _ l _ => 2 * (intOf l).toNat + (if intOf at' = 0 then 0 else 1))
    case atStart => exact ⟨P0, Q0, r.length, hP0, EQP.out, EQQ.out, rfl, HT0.out, by omega, rfl⟩
    case round =>
      obtain ⟨p, q, k, hp, rfl, rfl, rfl, hT, hk, rfl⟩ := hrel
      have HTT := Lib.hid hT
      have hq : q ≤ T := by omega
      clear hT
      by_cases hl : k ≤ 121 - p
      · have HTk : Hid (q + (7 + k) = T) := Lib.hid (by have := HTT.out; unfold rl at this; rw [if_pos hl] at this; exact this)
        have eT : (T : Int) = (q : Int) + 7 + (k : Int) := by have := HTk.out; omega
        by_cases hk2 : 121 - p = k
        · have d1 : decide ((k : Int) < 128 - (p : Int) - 7) = false := by simp; omega
          have e1 : 128 - (p : Int) - 7 = (k : Int) := by omega
          go_wp2_with fail
          go_ret
          exact ⟨by first | rfl | (simp; omega), HB2.out⟩
        · have d1 : decide ((k : Int) < 128 - (p : Int) - 7) = true := by simp; omega
          go_wp2_with fail
          go_ret
          exact ⟨by first | rfl | (simp; omega), HB2.out⟩
      · have hle : 121 - p ≤ k := by omega
        obtain ⟨m, hm⟩ : ∃ m, k = 121 - p + m := ⟨k - (121 - p), by omega⟩
        have HTk : Hid (q + (128 - p) + rl 0 m = T) := Lib.hid (by have := HTT.out; unfold rl at this; rw [if_neg hl, hm, show 121 - p + m - (121 - p) = m by omega] at this; rw [rl_zero]; omega)
        have d1 : decide ((k : Int) < 128 - (p : Int) - 7) = false := by simp; omega
        have e3 : ((p : Int) + 7 + (128 - (p : Int) - 7)) % 128 = 0 := by omega
        have e4 : ((k : Int) - (128 - (p : Int) - 7) == 0) = false := by rw [beq_eq_false_iff_ne]; omega
        have e5 : (k : Int) - (128 - (p : Int) - 7) ≠ 0 := by omega
        go_wp2_with fail
        go_roundw
        case rel => exact ⟨0, q + (128 - p), m, by omega, by first | rfl | (rw [e3]; rfl), by go_num, by go_num, HTk.out, by omega, trivial⟩
        case measure =>
          by_cases h0 : p = 0
          · subst h0
            simp [intOf]
            omega
          · have h0' : ¬ (p : Int) = 0 := by omega
            simp [intOf, h0, h0', e3]
            omega

set_option maxRecDepth 100000 in
theorem lifted (os : Os) (started : os.Started) (H : Type) (enc : TypeId × Value → H) :
    ReturnsInHanded {} Tryd.checked os 8 .any (fun w args => (Rows.frameBlocksSpec.pre enc Tryd.prog Tryd.f8 Rows.frameBlocksRow.domain false w args ∧ laidMetH Tryd.prog Rows.frameBlocksRow.laid w) ∧ sizedMet enc Tryd.prog Tryd.f8 (OpenSpec.ofChange Rows.frameBlocksSpec) false w args) (Rows.frameBlocksSpec.post enc Tryd.prog Tryd.f8 false true false false) := by
  refine lift_laid (C := Tryd.checked) Rows.frameBlocksRow.laid own started (by kernel_rfl) Tryd.func8
    (ChangeSpec.witness_shaped (enc := enc) (C := Tryd.checked) (os := os) (X := fun w _ => laidMetH Tryd.prog Rows.frameBlocksRow.laid w) false (World.laidAll Tryd.prog os Rows.frameBlocksRow.laid) #[.int .i64 0, .slice none 0 0] 8 (World.laidAll_os _ _ _)
      (World.shaped_of_ZipB (by kernel_rfl) (by kernel_rfl)) (by kernel_rfl) (by kernel_rfl) (by kernel_rfl)
      (by rw [MakeChecks.laidMetH_plain _ _ _ (by kernel_rfl)]; exact laidMet_laidAll _ (by kernel_rfl) (by kernel_rfl)))
    (by kernel_rfl) (by kernel_rfl) (by kernel_rfl) Tryd.underlying4 rfl ?_ ?_
  · intro ds hds
    match ds, hds with
    | [d1, d2], _ => exact ⟨rfl, rfl, rfl⟩
  · intro W base args ds p hval0 hA0 hlt _
    have hval : ∀ (j : Nat) t v, Tryd.f8.params[j]? = some t → args[j]? = some v → Value.okWide Tryd.prog W .any base t v := hval0
    have hA : DataW.TrodAll enc Tryd.prog W 0 (fun _ => true) true Tryd.f8.params.toList args.toList ds p := hA0
    rw [Tryd.params8] at hA hval
    obtain ⟨v0, vs0, d0, ds0, p0, q0, hargs, rfl, rfl, h0, r0⟩ := trodAll_cons hA
    obtain ⟨v1, vs1, d1, ds1, p1, q1, rfl, rfl, rfl, h1, r1⟩ := trodAll_cons r0
    obtain ⟨rfl, rfl, rfl⟩ := trodAll_nil r1
    obtain rfl : args = #[v0, v1] := by cases args; simp_all
    obtain ⟨a0, rfl, rfl, rfl, w0⟩ := open_int Tryd.underlying3 (hval 0 _ v0 rfl rfl) h0
    have b0 := i64_of w0
    obtain ⟨A1, c1, zs1, rfl, hc1, hm1, hl1, hw1⟩ := open_nums Tryd.underlying22 Tryd.underlying5 (by kernel_rfl) (hval 1 _ v1 rfl rfl) h1 (fun x hx => hlt x (by simp [hx]))
    obtain ⟨bs1, rfl, hz1⟩ := as_nat zs1 fun n hn => (u8_of (hw1 n hn)).1
    have hbs1 := fun b hb => (u8_of (hw1 _ (hz1 b hb))).2
    rw [List.length_map] at hc1 ⊢
    rw [List.map_map] at hl1
    by_cases h : a0 < 0 ∨ 1099511627776 < a0 ∨ 1000 < bs1.length
    · exact walk_no a0 A1 c1 bs1 W hc1 hm1 h
    · exact walk a0 A1 c1 bs1 W (by omega) hl1 hc1 hm1 (by omega) (fun x hx => by have := hbs1 x hx; omega)

theorem over : Rows.frameBlocksRow.holds Tryd.pinned (OpenSpec.ofChange Rows.frameBlocksSpec) :=
  OpenClaim.holds_of_wide 8 Tryd.f8 rfl rfl rfl rfl rfl rfl rfl ⟨rfl, rfl, rfl, rfl, rfl⟩ rfl rfl rfl rfl rfl (by kernel_rfl) Tryd.func8 (by kernel_rfl)
    (of_decide_eq_true (by kernel_rfl)) (by unfold Func.isWrapper; first | (rw [if_pos (by decide +kernel)]; kernel_rfl) | (rw [if_neg (by decide +kernel)]; exact ⟨rfl, rfl⟩))
    (fun os started H enc _ => lifted os started H enc)

theorem proved : Rows.FrameBlocksCardSaid :=
  Claim7.holds_tied_plain_at .later [] [.data, .pinned] true (true, "b23d7652dd08339ba58d021077a9801cf880c861c5214500fa8176eedb20fa22") false over (fun _ h => by cases h) (by kernel_rfl) (fun _ h => by cases h) frameBlocks_row_tie rfl ⟨rfl, rfl⟩ (by kernel_rfl) rfl
    (fun f fn hf hfn => by
      obtain rfl : f = 8 := Option.some.inj ((show Tryd.prog.funcNamed Rows.frameBlocksRow.func = some 8 by kernel_rfl).symm.trans hf) |>.symm
      obtain rfl : fn = Tryd.f8 := (Option.some.inj (Tryd.func8.symm.trans hfn)).symm
      exact ⟨by kernel_rfl, fun j t ht => by
        rw [Tryd.params8] at ht
        have hm : t ∈ [3, 22] := by simpa using Array.mem_of_getElem? ht
        have hall : ([3, 22].all fun u => !Tryd.prog.wantsStandIn u) = true := by kernel_rfl
        exact (show Tryd.prog.wantsStandIn t = false by simpa using List.all_eq_true.1 hall t hm)⟩)
    (by kernel_rfl)
#print axioms proved
end Go.Proofs.YtkmelhgpngochaaDoor.frameBlocks
