/- same: both caches tell the same. -/
import Derived.Test.YtbeohfmikpbkhaaCoT
import Derived.Test.YtbeohfmikpbkhaaCl11
import Derived.Test.YtbeohfmikpbkhaaCl9
import Derived.Test.YtbeohfmikpbkhaaCl2
import Derived.Test.YtbeohfmikpbkhaaCl4
import Derived.Test.YtbeohfmikpbkhaaCl5
import Derived.Test.YtbeohfmikpbkhaaCl8
import Derived.BigQuiet
import Derived.ChangeKeysEq
namespace Go.Proofs.Ytbeohfmikpbkhaa.Ck
set_option linter.unusedVariables false
set_option linter.unusedSimpArgs false
open Go.RowKit Go.Maps Lift Ik
theorem pairs_length (K : List (Int × Int)) : (pairs K).length = K.length * 2 := by
  induction K with
  | nil => rfl
  | cons d L ih => simp only [pairs, List.flatMap_cons, List.length_append, List.length_cons] at ih ⊢; rw [ih]; simp; omega
theorem pairs_at {K : List (Int × Int)} {i : Nat} {d : Int × Int} (h : K[i]? = some d) (j : Nat) (hj : j < 2) : (pairs K)[i * 2 + j]? = [Value.int .i64 d.1, Value.int .i64 d.2][j]? := by
  induction K generalizing i with
  | nil => simp at h
  | cons e L ih =>
    have hc : pairs (e :: L) = [Value.int .i64 e.1, Value.int .i64 e.2] ++ pairs L := rfl
    rw [hc]
    cases i with
    | zero =>
      simp at h; subst h
      rw [List.getElem?_append_left (by simp; omega)]; simp
    | succ i =>
      simp at h
      rw [List.getElem?_append_right (by simp; omega), ← ih h]
      congr 1
      simp; omega
theorem pair_place {w : World} {B : Nat} {A : Option Addr} {K : List (Int × Int)} (h : Lies w B A (pairs K)) {i : Nat} {d : Int × Int} (hd : K[i]? = some d) :
    ∃ ad p : Addr, A = some ad ∧ p.block < B ∧ ad.add (i * 2) = p ∧ w.cell? p = some (.int .i64 d.1) ∧ w.cell? ⟨p.block, p.off + 1, none⟩ = some (.int .i64 d.2) := by
  have hl := (List.getElem?_eq_some_iff.1 hd).1
  obtain ⟨ad, ha, hb, hc⟩ := h.place (by rw [pairs_length]; omega)
  have e : (⟨(ad.add (i * 2)).block, (ad.add (i * 2)).off + 1, none⟩ : Addr) = ad.add (i * 2 + 1) := by
    unfold Addr.add
    rw [if_neg (by omega : ¬ i * 2 + 1 = 0)]
    split <;> simp <;> omega
  refine ⟨ad, _, ha, by rw [add_block]; exact hb, rfl, hc _ _ (by have := pairs_at hd 0 (by omega); simpa using this), ?_⟩
  rw [e]
  exact hc _ _ (by have := pairs_at hd 1 (by omega); simpa using this)
theorem eq_int (d : Nat) (k : Int) (w : World) : Sem.run Try.prog (Op.equalIn (d + 1) 3 (.int .i64 k) (.int .i64 k)) w = .ok true w := by
  simp [Op.equalIn, Sem.run_bind, run_underlying Try.underlying3]
theorem eq_items (d : Nat) (x y : Int) (w : World) : Sem.run Try.prog (Op.eqItems (d + 1) 3 1 #[.int .i64 x, .int .i64 y] #[.int .i64 x, .int .i64 y] [0, 1]) w = .ok true w := by
  have hp : Try.prog.plainKey 3 = true := by kernel_rfl
  have h0 : Sem.run Try.prog (part 3 #[.int .i64 x, .int .i64 y] 0) w = .ok (.int .i64 x) w := run_part_plain w hp rfl
  have h1 : Sem.run Try.prog (part 3 #[.int .i64 x, .int .i64 y] 1) w = .ok (.int .i64 y) w := run_part_plain w hp rfl
  simp [Op.eqItems, Sem.run_bind, h0, h1, eq_int]
theorem eq_pair (x y : Int) (w : World) : Sem.run Try.prog (Op.equalIn 10000 51 (.agg #[.int .i64 x, .int .i64 y]) (.agg #[.int .i64 x, .int .i64 y])) w = .ok true w := by
  obtain ⟨i, hi⟩ : ∃ i, Try.prog.info? 3 = some i := by
    have : (Try.prog.info? 3).isSome = true := by kernel_rfl
    exact Option.isSome_iff_exists.1 this
  have hc : Try.prog.cellsOf 3 = 1 := by kernel_rfl
  have h := run_equalIn_array w 9999 #[.int .i64 x, .int .i64 y] #[.int .i64 x, .int .i64 y] Try.underlying51 hi
  rw [hc] at h
  exact h.trans (eq_items 9998 x y w)
set_option maxRecDepth 100000 in
set_option maxHeartbeats 1600000 in
theorem same_any {w : World} {g gr room room' : Nat} {Z Zr : Nat → Prop} {r : R} (h : OC w g Z room r) (hr : RC w gr Zr room' r) (hfew : r.1.length ≤ 1000) :
    Calls Try.prog 18 #[pt g, pt gr] w fun e w' => e = .returned (.bool true) ∧ Below w.heap.size w w' := by
  have HO := Lib.hid h
  have HR := Lib.hid hr
  have HL := Lib.hid (list_any h)
  obtain ⟨N, hN⟩ : ∃ N, N = r.1.length := ⟨_, rfl⟩
  obtain ⟨K, hK⟩ : ∃ K, K = ids r.1 := ⟨_, rfl⟩
  have hKN : K.length = N := by rw [hK, hN]; simp [ids]
  rw [← hN, ← hK] at HL
  have HN := Lib.hid hN
  have HK := Lib.hid hK
  rw [← hN] at hfew
  clear h hr hN hK
  go_enter Try.func18, Try.ntmps18
  go_wp2_with fail
  refine HL.out.mono ?_
  rintro e W1 ⟨A1, c1, rfl, how1, hb1⟩
  obtain ⟨A1', c1', hv1, hc1, hm1, hl1⟩ := own_parts how1
  injection hv1 with hA1 _ hcc1
  subst hA1; subst hcc1
  have HLR := Lib.hid (rlist_any (HR.out.below hb1))
  rw [← HN.out, ← HK.out] at HLR
  have HB1 := Lib.hid hb1
  have HL1 := Lib.hid hl1
  clear how1 hb1 hl1 HL
  go_wp2_with fail
  refine HLR.out.mono ?_
  rintro e W2 ⟨A2, c2, rfl, how2, hb2⟩
  obtain ⟨A2', c2', hv2, hc2, hm2, hl2⟩ := own_parts how2
  injection hv2 with hA2 _ hcc2
  subst hA2; subst hcc2
  have HB2 := Lib.hid (HB1.out.trans (hb2.mono HB1.out.size))
  have HL1' := Lib.hid ((HL1.out.below hb2).up hb2.size)
  have HL2 := Lib.hid hl2
  have HO2 := Lib.hid (HO.out.below HB2.out)
  have HR2 := Lib.hid (HR.out.below HB2.out)
  have HU := Lib.hid (used_any HO2.out)
  have HUR := Lib.hid (rused_any HR2.out)
  unfold vi at HU HUR
  generalize used r.1 = u at HU HUR
  clear how2 hb2 hl2 HLR HL1 HB1
  unfold maxLen at hm1 hm2
  go_wp2_with fail
  refine HU.out.mono ?_
  rintro e w' ⟨rfl, rfl⟩
  go_wp2_with fail
  refine HUR.out.mono ?_
  rintro e w' ⟨rfl, rfl⟩
  have HP := Lib.hid (pins_any HO2.out)
  unfold vi at HP
  go_wp2_with fail
  refine HP.out.mono ?_
  rintro e W3 ⟨rfl, hb3⟩
  have HPR := Lib.hid (rpins_any (HR2.out.below hb3))
  unfold vi at HPR
  generalize pinned r.1 = pn at HPR ⊢
  have HB3 := Lib.hid (HB2.out.trans (hb3.mono HB2.out.size))
  have HL13 := Lib.hid (HL1'.out.below hb3)
  have HL23 := Lib.hid (HL2.out.below hb3)
  clear hb3 HP HL1' HL2 HO2 HR2 HU HUR HB2
  go_wp2_with fail
  refine HPR.out.mono ?_
  rintro e w' ⟨rfl, rfl⟩
  clear HPR
  go_wp2_with fail
  go_loopw [7] (fun i wr => ∃ k m : Nat, k ≤ N ∧ i = .int .i64 (k : Int) ∧ wr = W3.drewN m) (fun i _ => N + 1 - (intOf i).toNat)
  case atStart => exact ⟨0, 0, Nat.zero_le _, rfl, rfl⟩
  case round =>
    obtain ⟨k, m, hk, rfl, rfl⟩ := hrel
    by_cases hkk : k < N
    · obtain ⟨d, hd⟩ : ∃ d, K[k]? = some d := ⟨_, List.getElem?_eq_getElem (by omega)⟩
      obtain ⟨ad1, p1, rfl, -, hp1, q1, q2⟩ := pair_place HL13.out hd
      obtain ⟨ad2, p2, rfl, -, hp2, q3, q4⟩ := pair_place HL23.out hd
      clear hd
      have hEG : Try.prog.eqGuardType Try.prog.depth 51 = false := by kernel_rfl
      have hEQ := eq_pair d.1 d.2
      go_wp2_with fail
      go_quiet (fail)
      go_wp2_with fail
      go_roundw
      case rel => exact ⟨k + 1, _, by omega, by go_num, rfl⟩
      case measure => simp [intOf]; omega
    · obtain rfl : k = N := by omega
      go_wp2_with fail
      go_ret
      exact ⟨rfl, HB3.out.trans (Below.mono (Joins.below_draws _ W3 m) HB3.out.size)⟩
end Go.Proofs.Ytbeohfmikpbkhaa.Ck
