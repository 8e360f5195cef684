/- What Put of package frame answers. -/
import Derived.Test.YtkmelhgpngochaaDoorFfrag
import Derived.Test.YtkmelhgpngochaaDoorCut
namespace Go.Proofs.YtkmelhgpngochaaDoor.Fr
set_option linter.unusedVariables false
set_option linter.unusedSimpArgs false
open Go.RowKit Lift Ik
/-- How long a slice is. -/
def lenV : Value → Nat
  | .slice _ n _ => n
  | _ => 0
set_option maxRecDepth 100000 in
set_option maxHeartbeats 1600000 in
theorem put_any (s : Int) (A : Option Addr) (c : Nat) (r : List Nat) (w : World) (hs : -9223372036854775808 ≤ s ∧ s ≤ 9223372036854775807) (hl : Lies w w.heap.size A (r.map vb)) (hc : r.length ≤ c) (hm : c ≤ maxLen) (hn : r.length ≤ 1000000) (h8 : ∀ c, c ∈ r → c < 256) :
    Calls Tryd.prog 11 #[.int .i64 s, .slice A r.length c] w (Made w.heap.size w (put s.toNat r)) := by
  obtain ⟨a, ha⟩ : ∃ a : Nat, a = s.toNat := ⟨_, rfl⟩
  rw [← ha]
  have hmax : max s 0 = (a : Int) := by omega
  have hmax' : max 0 s = (a : Int) := by omega
  have hrm := room_any a w (by omega)
  have hlp := left_pos a
  have hcl := cap_le a
  have hmk := make_own (left a) (by omega) w
  have HL := Lib.hid hl
  have H8 := Lib.hid h8
  have HPL := Lib.hid (put_len a r)
  have HP : Hid (put a r = List.replicate (pad a) 0 ++ parts (cap a) r) := Lib.hid rfl
  clear hl h8 ha
  by_cases h7 : left a < 7
  case' pos =>
    have hcap : cap a = 121 := by unfold cap; rw [if_pos h7]
    have hpad : pad a = left a := by unfold pad; rw [if_pos h7]
    rw [hcap, hpad] at HP
    have HB0 := Lib.hid (Joins.below_alloc1 w (.cells (madeCells #[.int .u8 0] (left a)) 5))
    have HO0 := Lib.hid hmk.2
    have hm1 := hmk.1
    clear hmk hcap hpad hcl
    generalize put a r = P at *
    generalize left a = L at *
    have HRM := Lib.hid hrm
    clear hrm
    have HX0 : Hid ((List.replicate L 0).length ≤ 6) := Lib.hid (by simp; omega)
    go_enter Tryd.func11, Tryd.ntmps11
    go_wp2_with fail
    refine HRM.out.mono ?_; rintro e w' ⟨rfl, rfl⟩
    go_wp2_with fail
    obtain ⟨N, hN⟩ : ∃ N : Nat, N = 121 := ⟨_, rfl⟩
    rw [show (121 : Nat) = N from hN.symm] at HP
    rw [show (Value.int .i64 128) = .int .i64 ((N + 7 : Nat) : Int) by rw [hN]; rfl]
    have hN1 : N ≤ 121 := by omega
    clear hN hm1
    generalize List.replicate L 0 = xs0 at *
  case' neg =>
    have hcap : left a = cap a + 7 := by unfold cap; rw [if_neg h7]; omega
    have hpad : pad a = 0 := by unfold pad; rw [if_neg h7]
    rw [hpad] at HP
    have HB0 := Lib.hid (Below.refl w.heap.size w)
    have HO0 : Hid (w.ownsRow w.heap.size 5 1 (.slice none 0 0) (List.replicate 0 0).length ((List.replicate 0 0).map vb)) := Lib.hid (World.ownsRow_nil _ _ _ _)
    have HX0 : Hid ((List.replicate 0 0 : List Nat).length ≤ 6) := Lib.hid (by simp)
    rw [hcap] at hrm h7
    have hN1 := hcl
    generalize List.replicate 0 0 = xs0 at *
    generalize put a r = P at *
    clear hmk hpad hcl hcap hlp
    generalize cap a = N at *
    have HRM := Lib.hid hrm
    clear hrm
    go_enter Tryd.func11, Tryd.ntmps11
    go_wp2_with fail
    refine HRM.out.mono ?_; rintro e w' ⟨rfl, rfl⟩
    go_wp2_with fail
  all_goals
    refine (Crc.table_any _).mono ?_
    rintro e W1 ⟨vT, rfl, hoT, hbT⟩
    obtain ⟨A1, c1, rfl, hc1, hm1, hlT⟩ := own_parts hoT
    rw [Crc.tab_length] at hc1 hoT ⊢
    have hoff := LiesP.of_own hoT
    have HT1 := Lib.hid (LiesP.later (w' := W1) (R' := fun k => k < W1.heap.size ∧ ¬ Value.ownBlock _ = some k) hoff (fun _ _ => rfl) fun j hj => ⟨hj.2.1, fun he => by have := (HO0.out.lt j he).2; omega⟩)
    have HO1 := Lib.hid (own_later HO0.out hbT)
    have HB1 := Lib.hid (HB0.out.trans (hbT.mono HB0.out.size))
    have HTL := Lib.hid hlT
    clear hoT hlT hoff hbT HO0 HB0 hm1
    have hx0 := HX0.out
    by_cases hr : r.length ≤ N
    · have hF := frag_any w.heap.size 1 c1 c _ A1 A xs0 r W1 HO1.out HB1.out.size HTL.out hc1 (HL.out.below HB1.out) hc hm (by omega) hn (by decide) H8.out
      rw [show ((1 : Nat) : Int) = 1 from rfl] at hF
      have HF := Lib.hid hF
      have HQ : Hid (P = xs0 ++ piece 1 r) := Lib.hid (by rw [HP.out]; unfold parts; rw [if_pos hr])
      clear hF
      go_wp2_with fail
      refine HF.out.mono ?_; rintro e W2 ⟨v2, rfl, ho2, on2⟩
      have HO2 := Lib.hid ho2
      have HB2 := Lib.hid (HB1.out.trans (on2.below HO1.out HB1.out.size))
      clear ho2 on2
      go_wp2_with fail
      go_ret
      exact ⟨_, rfl, by rw [HQ.out]; exact HO2.out, HB2.out⟩
    · have htl : (r.take N).length = N := by rw [List.length_take]; omega
      have hF := frag_any w.heap.size 2 c1 c _ A1 A xs0 (r.take N) W1 HO1.out HB1.out.size HTL.out hc1 ((HL.out.below HB1.out).front (by rw [List.map_take]; exact List.take_prefix _ _)) (by omega) hm (by omega) (by omega) (by decide) (byte_front H8.out fun x hx => List.mem_of_mem_take hx)
      rw [show ((2 : Nat) : Int) = 2 from rfl, htl] at hF
      have HF := Lib.hid hF
      have HQ : Hid (P = (xs0 ++ piece 2 (r.take N)) ++ tail (r.drop N)) := Lib.hid (by rw [HP.out]; unfold parts; rw [if_neg hr, List.append_assoc])
      have hc1' := cut_to A r.length c N (by omega) hc hm
      obtain ⟨A2, hA2, _, hc2'⟩ := cut_from A r.length c N (by omega) hc hm
      have hdl : (r.drop N).length = r.length - N := List.length_drop
      clear hF htl
      go_wp2_with fail
      refine HF.out.mono ?_; rintro e W2 ⟨v2, rfl, ho2, on2⟩
      have HO2 := Lib.hid ho2
      have HB2 := Lib.hid (HB1.out.trans (on2.below HO1.out HB1.out.size))
      have HT2 := Lib.hid (Off.onto HT1.out on2)
      have HL2 : Hid (Lies W2 w.heap.size A2 ((r.drop N).map vb)) := Lib.hid ((HL.out.below HB2.out).cut (p := N) (fun h0 => hA2 (by omega)) (List.prefix_refl _))
      have H82 : Hid (∀ x, x ∈ r.drop N → x < 256) := Lib.hid (byte_front H8.out fun x hx => List.mem_of_mem_drop hx)
      have hpl := HPL.out
      clear ho2 on2 HT1 HO1 HB1 HTL HF HL H8 HPL HP
      go_wp2_with fail
      rw [← hdl]
      have hdc : (r.drop N).length ≤ c - N := by omega
      have hdm : (r.drop N).length ≤ 1000000 := by omega
      have hcm2 : c - N ≤ maxLen := by unfold maxLen at hm ⊢; omega
      generalize hR : r.drop N = R at *
      clear hR
      generalize hQ0 : xs0 ++ piece 2 (r.take N) = Q0 at *
      clear hQ0
      go_loopw [1, 5] (fun rec out wr => ∃ (r' : List Nat) (A' : Option Addr) (c' : Nat) (done : List Nat), rec = .slice A' r'.length c' ∧ r'.length ≤ c' ∧ c' ≤ maxLen ∧ r'.length ≤ 1000000 ∧ Hid (Lies wr w.heap.size A' (r'.map vb)) ∧ Hid (∀ x, x ∈ r' → x < 256) ∧
        Hid (wr.ownsRow w.heap.size 5 1 out done.length (done.map vb)) ∧ Hid (P = done ++ tail r') ∧ Hid (Below w.heap.size w wr) ∧ Hid (Off out wr A1 (Crc.tab.map Crc.vw))) (fun rec _ _ => lenV rec)
      case atStart => exact ⟨R, A2, c - N, Q0, rfl, hdc, hcm2, hdm, HL2, H82, HO2, HQ, HB2, HT2⟩
      case round =>
        clear hdc hcm2 hdm HL2 H82 HO2 HQ HB2 HT2 hA2 hc1' hc2' hdl hx0
        obtain ⟨r', A', c', done, rfl, k1, k2, k3, KL, K8, KO, KP, KB, KT⟩ := hrel
        have kd : done.length ≤ 3000000 := by have := congrArg List.length KP.out; rw [List.length_append] at this; omega
        by_cases hlt : 121 < r'.length
        · have htl : (r'.take 121).length = 121 := by rw [List.length_take]; omega
          have hF := frag_any w.heap.size 3 c1 c' _ A1 A' done (r'.take 121) wr KO.out KB.out.size (Off.lies KT.out) hc1 (KL.out.front (by rw [List.map_take]; exact List.take_prefix _ _)) (by omega) k2 (by omega) (by omega) (by decide) (byte_front K8.out fun x hx => List.mem_of_mem_take hx)
          rw [show ((3 : Nat) : Int) = 3 from rfl, htl] at hF
          have HF := Lib.hid hF
          have HQ : Hid (P = (done ++ piece 3 (r'.take 121)) ++ tail (r'.drop 121)) := Lib.hid (by rw [KP.out, tail_more (by omega), List.append_assoc])
          have hc1' : ∀ W : World, Sem.run Tryd.prog (Instr.slice 22 (.slice A' r'.length c') none (some (.int .i64 121)) none) W = .ok (.slice A' 121 c') W := cut_to A' r'.length c' 121 (by omega) k1 k2
          obtain ⟨A2, hA2, _, hc2a⟩ := cut_from A' r'.length c' 121 (by omega) k1 k2
          have hc2' : ∀ W : World, Sem.run Tryd.prog (Instr.slice 22 (.slice A' r'.length c') (some (.int .i64 121)) none none) W = .ok (.slice A2 (r'.length - 121) (c' - 121)) W := hc2a
          have hdl : (r'.drop 121).length = r'.length - 121 := List.length_drop
          clear hF htl hc2a
          go_wp2_with fail
          refine HF.out.mono ?_; rintro e W3 ⟨v3, rfl, ho3, on3⟩
          have HO3 := Lib.hid ho3
          have HB3 := Lib.hid (KB.out.trans (on3.below KO.out KB.out.size))
          have HT3 := Lib.hid (Off.onto KT.out on3)
          have HL3 : Hid (Lies W3 w.heap.size A2 ((r'.drop 121).map vb)) := Lib.hid ((KL.out.below (on3.below KO.out KB.out.size)).cut (p := 121) (fun h0 => hA2 (by omega)) (List.prefix_refl _))
          have H83 : Hid (∀ x, x ∈ r'.drop 121 → x < 256) := Lib.hid (byte_front K8.out fun x hx => List.mem_of_mem_drop hx)
          clear ho3 on3
          go_wp2_with fail
          go_roundw
          case rel => exact ⟨r'.drop 121, A2, c' - 121, done ++ piece 3 (r'.take 121), by rw [hdl], by omega, by unfold maxLen at k2 ⊢; omega, by omega, HL3, H83, HO3, HQ, HB3, HT3⟩
          case measure => simp [lenV]; omega
        · have hF := frag_any w.heap.size 4 c1 c' _ A1 A' done r' wr KO.out KB.out.size (Off.lies KT.out) hc1 KL.out k1 k2 (by omega) (by omega) (by decide) K8.out
          rw [show ((4 : Nat) : Int) = 4 from rfl] at hF
          have HF := Lib.hid hF
          have HQ : Hid (P = done ++ piece 4 r') := Lib.hid (by rw [KP.out, tail_end (by omega)])
          clear hF
          go_wp2_with fail
          refine HF.out.mono ?_; rintro e W3 ⟨v3, rfl, ho3, on3⟩
          have HO3 := Lib.hid ho3
          have HB3 := Lib.hid (KB.out.trans (on3.below KO.out KB.out.size))
          clear ho3 on3
          go_wp2_with fail
          go_ret
          exact ⟨_, rfl, by rw [HQ.out]; exact HO3.out, HB3.out⟩
end Go.Proofs.YtkmelhgpngochaaDoor.Fr
