/- What the document's own Put answers. -/
import Derived.Test.YtkmelhgpngochaaDoorFrpiece
import Derived.Test.YtkmelhgpngochaaDoorFput
namespace Go.Proofs.YtkmelhgpngochaaDoor.Fr
set_option linter.unusedVariables false
set_option linter.unusedSimpArgs false
open Go.RowKit Lift Ik
/-- What is still to be written. -/
def rest (fi : Bool) (q : Nat) (r : List Nat) : List Nat := if fi then parts (121 - q) r else tail r
def kindB (fi en : Bool) : Nat := if fi then (if en then 1 else 2) else (if en then 4 else 3)
theorem rest_end {fi : Bool} {q : Nat} {r : List Nat} (h : r.length ≤ 121 - q) : rest fi q r = piece (kindB fi true) r := by
  cases fi
  · exact tail_end (by omega)
  · simp [rest, parts, kindB, h]
theorem rest_more {fi : Bool} {q : Nat} {r : List Nat} (h : ¬ r.length ≤ 121 - q) (hq : fi = false → q = 0) : rest fi q r = piece (kindB fi false) (r.take (121 - q)) ++ rest false 0 (r.drop (121 - q)) := by
  cases fi
  · have := hq rfl
    subst this
    exact tail_more (by omega)
  · simp only [rest, parts, kindB, if_neg h]
    rfl
set_option maxRecDepth 100000 in
set_option maxHeartbeats 3200000 in
theorem rput_any (s : Int) (A : Option Addr) (c : Nat) (r : List Nat) (w : World) (hs : -9223372036854775808 ≤ s ∧ s ≤ 9223372036854775807) (hl : Lies w w.heap.size A (r.map vb)) (hc : r.length ≤ c) (hm : c ≤ maxLen) (hn : r.length ≤ 1000000) (h8 : ∀ c, c ∈ r → c < 256) :
    Calls Tryd.prog 12 #[.int .i64 s, .slice A r.length c] w (Made w.heap.size w (put s.toNat r)) := by
  obtain ⟨a, ha⟩ : ∃ a : Nat, a = s.toNat := ⟨_, rfl⟩
  rw [← ha]
  have HL := Lib.hid hl
  have H8 := Lib.hid h8
  have HPL := Lib.hid (put_len a r)
  have HP : Hid (put a r = List.replicate (pad a) 0 ++ rest true (121 - cap a) r) := Lib.hid (by have := cap_le a; unfold rest; rw [if_pos rfl, show 121 - (121 - cap a) = cap a by omega]; unfold put; exact Eq.refl _)
  have hla : left a = 128 - a % 128 := rfl
  clear hl h8
  have three : s < 0 ∨ (0 ≤ s ∧ left a < 7) ∨ (0 ≤ s ∧ 7 ≤ left a) := by omega
  rcases three with h | h | h
  case' inl =>
    obtain rfl : a = 0 := by omega
    rw [show pad 0 = 0 from rfl, show 121 - cap 0 = 0 from rfl] at HP
    have HB0 := Lib.hid (Below.refl w.heap.size w)
    have HO0 : Hid (w.ownsRow w.heap.size 5 1 (.slice none 0 0) (List.replicate 0 0).length ((List.replicate 0 0).map vb)) := Lib.hid (World.ownsRow_nil _ _ _ _)
    have hq : (0 : Nat) ≤ 121 := by decide
    generalize List.replicate 0 0 = xs0 at *
    generalize put 0 r = P at *
    clear ha hla
    go_enter Tryd.func12, Tryd.ntmps12
    go_wp2_with fail
    clear h
  case' inr.inl =>
    have hpad : pad a = left a := by unfold pad; rw [if_pos h.2]
    have hcap : 121 - cap a = 0 := by unfold cap; rw [if_pos h.2]
    rw [hpad, hcap] at HP
    have hmk := make_own (left a) (by omega) w
    have ea : ((left a : Nat) : Int) = 128 - s % 128 := by omega
    have HO0 := Lib.hid hmk.2
    have hm1 := hmk.1
    rw [ea] at hm1
    have HB0 := Lib.hid (Joins.below_alloc1 w (.cells (madeCells #[.int .u8 0] (left a)) 5))
    have h1 := h.1
    have h2 : 128 - s % 128 < 7 := by omega
    have hq : (0 : Nat) ≤ 121 := by decide
    clear hmk hpad hcap ha hla ea h
    generalize left a = L at *
    generalize hxs : List.replicate L 0 = xs0 at *
    generalize put a r = P at *
    clear hxs
    go_enter Tryd.func12, Tryd.ntmps12
    go_wp2_with fail
    clear hm1 h1 h2
  case' inr.inr =>
    have hpad : pad a = 0 := by unfold pad; rw [if_neg (by omega)]
    have hcap : 121 - cap a = a % 128 := by unfold cap; rw [if_neg (by omega)]; omega
    rw [hpad, hcap] at HP
    have HB0 := Lib.hid (Below.refl w.heap.size w)
    have HO0 : Hid (w.ownsRow w.heap.size 5 1 (.slice none 0 0) (List.replicate 0 0).length ((List.replicate 0 0).map vb)) := Lib.hid (World.ownsRow_nil _ _ _ _)
    have ea : s % 128 = ((a % 128 : Nat) : Int) := by omega
    have h1 := h.1
    have h2 : 7 ≤ 128 - s % 128 := by omega
    have hq : a % 128 ≤ 121 := by omega
    generalize List.replicate 0 0 = xs0 at *
    generalize put a r = P at *
    clear hpad hcap ha hla h
    go_enter Tryd.func12, Tryd.ntmps12
    go_wp2_with fail
    rw [ea]
    generalize a % 128 = q at *
    clear h1 h2 ea
  all_goals
    have hpl : P.length ≤ 2000021 := by have := HPL.out; omega
    clear HPL
    go_loopw [1, 5, 6, 7] (fun rec at' out fi wr => ∃ (r' : List Nat) (A' : Option Addr) (c' : Nat) (done : List Nat) (p : Nat) (f : Bool), rec = .slice A' r'.length c' ∧ at' = .int .i64 p ∧ fi = .bool f ∧ p ≤ 121 ∧ (f = false → p = 0) ∧ r'.length ≤ c' ∧ c' ≤ maxLen ∧ r'.length ≤ 1000000 ∧ Hid (Lies wr w.heap.size A' (r'.map vb)) ∧ Hid (∀ x, x ∈ r' → x < 256) ∧
      Hid (wr.ownsRow w.heap.size 5 1 out done.length (done.map vb)) ∧ Hid (P = done ++ rest f p r') ∧ Hid (Below w.heap.size w wr)) (fun rec _ _ fi _ => 2 * lenV rec + (match fi with | .bool true => 1 | _ => 0))
    case atStart => first | exact ⟨r, A, c, xs0, 0, true, rfl, rfl, rfl, hq, (fun h => by cases h), hc, hm, hn, Lib.hid (HL.out.below HB0.out), H8, HO0, HP, HB0⟩ | exact ⟨r, A, c, xs0, q, true, rfl, rfl, rfl, hq, (fun h => by cases h), hc, hm, hn, Lib.hid (HL.out.below HB0.out), H8, HO0, HP, HB0⟩
    case round =>
      clear hc hm hn HL H8 HO0 HP HB0 hq
      obtain ⟨r', A', c', done, p, f, rfl, rfl, rfl, hp, hf, k1, k2, k3, KL, K8, KO, KP, KB⟩ := hrel
      have kd : done.length ≤ 3000000 := by have := congrArg List.length KP.out; rw [List.length_append] at this; omega
      have e3 : ((p : Int) + 7 + (128 - (p : Int) - 7)) % 128 = 0 := by omega
      cases f
      · obtain rfl := hf rfl
        clear hf e3
        by_cases hr : r'.length ≤ 121
        · have d1 : decide ((r'.length : Int) ≤ 121) = true := by simp; omega
          have HF := Lib.hid (show Calls Tryd.prog 20 #[.int .u8 4, .slice A' r'.length c'] wr _ from rpiece_any 4 c' w.heap.size A' r' wr KL.out KB.out.size k1 k2 k3 (by decide) K8.out)
          have HQ : Hid (P = done ++ piece 4 r') := Lib.hid (by rw [KP.out, rest_end (q := 0) hr]; rfl)
          have hc1 := cut_to A' r'.length c' r'.length k1 k1 k2
          go_wp2_with fail
          refine HF.out.mono ?_; rintro e W2 ⟨v2, rfl, ho2, hb2⟩
          obtain ⟨A2, c2, rfl, h21, h22, hl2⟩ := own_parts ho2
          have hpn := piece_length 4 r'
          obtain ⟨v3, W3, hr3, ho3, on3⟩ := append_bytes (c := c2) (own_later KO.out hb2) hl2 (by omega) (Nat.le_trans KB.out.size hb2.size)
          have HR3 := Lib.hid hr3
          have HO3 := Lib.hid ho3
          have HB3 := Lib.hid (KB.out.trans ((hb2.mono KB.out.size).trans (on3.below (own_later KO.out hb2) (Nat.le_trans KB.out.size hb2.size))))
          clear ho2 hb2 hl2 hr3 ho3 on3 hpn
          go_wp2_with (at_builtin; refine wpList_append_run rfl _ _ 22 rfl rfl rfl HR3.out ?_)
          go_ret
          exact ⟨_, rfl, by rw [HQ.out]; exact HO3.out, HB3.out⟩
        · have d1 : decide ((r'.length : Int) ≤ 121) = false := by simp; omega
          have htl : (r'.take 121).length = 121 := by rw [List.length_take]; omega
          have en : ((121 : Nat) : Int) = 121 := by omega
          have hF := rpiece_any 3 c' w.heap.size A' (r'.take 121) wr (KL.out.front (by rw [List.map_take]; exact List.take_prefix _ _)) KB.out.size (by omega) k2 (by omega) (by decide) (byte_front K8.out fun x hx => List.mem_of_mem_take hx)
          rw [htl] at hF
          have HF := Lib.hid (show Calls Tryd.prog 20 #[.int .u8 3, .slice A' 121 c'] wr _ from hF)
          have HQ : Hid (P = (done ++ piece 3 (r'.take 121)) ++ rest false 0 (r'.drop 121)) := Lib.hid (by rw [KP.out, rest_more (q := 0) hr (by simp), List.append_assoc]; rfl)
          have hc1 := cut_to A' r'.length c' 121 (by omega) k1 k2
          obtain ⟨A2, hA2, _, hc2⟩ := cut_from A' r'.length c' 121 (by omega) k1 k2
          rw [en] at hc1 hc2
          have hdl : (r'.drop 121).length = r'.length - 121 := List.length_drop
          clear hF htl
          go_wp2_with fail
          refine HF.out.mono ?_; rintro e W2 ⟨v2, rfl, ho2, hb2⟩
          obtain ⟨Ap, cp, rfl, h21, h22, hl2⟩ := own_parts ho2
          have hpn := piece_length 3 (r'.take 121)
          have hpn2 : (r'.take 121).length ≤ 121 := by rw [List.length_take]; omega
          obtain ⟨v3, W3, hr3, ho3, on3⟩ := append_bytes (c := cp) (own_later KO.out hb2) hl2 (by omega) (Nat.le_trans KB.out.size hb2.size)
          have HR3 := Lib.hid hr3
          have HO3 := Lib.hid ho3
          have hbb := (hb2.mono KB.out.size).trans (on3.below (own_later KO.out hb2) (Nat.le_trans KB.out.size hb2.size))
          have HB3 := Lib.hid (KB.out.trans hbb)
          have HL3 : Hid (Lies W3 w.heap.size A2 ((r'.drop 121).map vb)) := Lib.hid ((KL.out.below hbb).cut (p := 121) (fun h0 => hA2 (by omega)) (List.prefix_refl _))
          have H83 : Hid (∀ x, x ∈ r'.drop 121 → x < 256) := Lib.hid (byte_front K8.out fun x hx => List.mem_of_mem_drop hx)
          clear ho2 hb2 hl2 hr3 ho3 on3 hpn hpn2 hbb
          go_wp2_with (at_builtin; refine wpList_append_run rfl _ _ 22 rfl rfl rfl HR3.out ?_)
          go_roundw
          case rel => exact ⟨r'.drop 121, A2, c' - 121, done ++ piece 3 (r'.take 121), 0, false, by rw [hdl], rfl, rfl, by omega, fun _ => rfl, by omega, by unfold maxLen at k2 ⊢; omega, by omega, HL3, H83, HO3, HQ, HB3⟩
          case measure => simp [lenV]; omega
      · clear hf
        by_cases hr : r'.length ≤ 121 - p
        · have d1 : decide ((r'.length : Int) ≤ 128 - (p : Int) - 7) = true := by simp; omega
          have HF := Lib.hid (show Calls Tryd.prog 20 #[.int .u8 1, .slice A' r'.length c'] wr _ from rpiece_any 1 c' w.heap.size A' r' wr KL.out KB.out.size k1 k2 k3 (by decide) K8.out)
          have HQ : Hid (P = done ++ piece 1 r') := Lib.hid (by rw [KP.out, rest_end (q := p) hr]; rfl)
          have hc1 := cut_to A' r'.length c' r'.length k1 k1 k2
          go_wp2_with fail
          refine HF.out.mono ?_; rintro e W2 ⟨v2, rfl, ho2, hb2⟩
          obtain ⟨A2, c2, rfl, h21, h22, hl2⟩ := own_parts ho2
          have hpn := piece_length 1 r'
          obtain ⟨v3, W3, hr3, ho3, on3⟩ := append_bytes (c := c2) (own_later KO.out hb2) hl2 (by omega) (Nat.le_trans KB.out.size hb2.size)
          have HR3 := Lib.hid hr3
          have HO3 := Lib.hid ho3
          have HB3 := Lib.hid (KB.out.trans ((hb2.mono KB.out.size).trans (on3.below (own_later KO.out hb2) (Nat.le_trans KB.out.size hb2.size))))
          clear ho2 hb2 hl2 hr3 ho3 on3 hpn
          go_wp2_with (at_builtin; refine wpList_append_run rfl _ _ 22 rfl rfl rfl HR3.out ?_)
          go_ret
          exact ⟨_, rfl, by rw [HQ.out]; exact HO3.out, HB3.out⟩
        · have d1 : decide ((r'.length : Int) ≤ 128 - (p : Int) - 7) = false := by simp; omega
          have htl : (r'.take (121 - p)).length = (121 - p) := by rw [List.length_take]; omega
          have en : (((121 - p) : Nat) : Int) = 128 - (p : Int) - 7 := by omega
          have hF := rpiece_any 2 c' w.heap.size A' (r'.take (121 - p)) wr (KL.out.front (by rw [List.map_take]; exact List.take_prefix _ _)) KB.out.size (by omega) k2 (by omega) (by decide) (byte_front K8.out fun x hx => List.mem_of_mem_take hx)
          rw [htl] at hF
          have HF := Lib.hid (show Calls Tryd.prog 20 #[.int .u8 2, .slice A' (121 - p) c'] wr _ from hF)
          have HQ : Hid (P = (done ++ piece 2 (r'.take (121 - p))) ++ rest false 0 (r'.drop (121 - p))) := Lib.hid (by rw [KP.out, rest_more (q := p) hr (by simp), List.append_assoc]; rfl)
          have hc1 := cut_to A' r'.length c' (121 - p) (by omega) k1 k2
          obtain ⟨A2, hA2, _, hc2⟩ := cut_from A' r'.length c' (121 - p) (by omega) k1 k2
          rw [en] at hc1 hc2
          have hdl : (r'.drop (121 - p)).length = r'.length - (121 - p) := List.length_drop
          clear hF htl
          go_wp2_with fail
          refine HF.out.mono ?_; rintro e W2 ⟨v2, rfl, ho2, hb2⟩
          obtain ⟨Ap, cp, rfl, h21, h22, hl2⟩ := own_parts ho2
          have hpn := piece_length 2 (r'.take (121 - p))
          have hpn2 : (r'.take (121 - p)).length ≤ 121 := by rw [List.length_take]; omega
          obtain ⟨v3, W3, hr3, ho3, on3⟩ := append_bytes (c := cp) (own_later KO.out hb2) hl2 (by omega) (Nat.le_trans KB.out.size hb2.size)
          have HR3 := Lib.hid hr3
          have HO3 := Lib.hid ho3
          have hbb := (hb2.mono KB.out.size).trans (on3.below (own_later KO.out hb2) (Nat.le_trans KB.out.size hb2.size))
          have HB3 := Lib.hid (KB.out.trans hbb)
          have HL3 : Hid (Lies W3 w.heap.size A2 ((r'.drop (121 - p)).map vb)) := Lib.hid ((KL.out.below hbb).cut (p := (121 - p)) (fun h0 => hA2 (by omega)) (List.prefix_refl _))
          have H83 : Hid (∀ x, x ∈ r'.drop (121 - p) → x < 256) := Lib.hid (byte_front K8.out fun x hx => List.mem_of_mem_drop hx)
          clear ho2 hb2 hl2 hr3 ho3 on3 hpn hpn2 hbb
          go_wp2_with (at_builtin; refine wpList_append_run rfl _ _ 22 rfl rfl rfl HR3.out ?_)
          go_roundw
          case rel => exact ⟨r'.drop (121 - p), A2, c' - (121 - p), done ++ piece 2 (r'.take (121 - p)), 0, false, by rw [hdl], (by rw [e3]; rfl), rfl, by omega, fun _ => rfl, by omega, by unfold maxLen at k2 ⊢; omega, by omega, HL3, H83, HO3, HQ, HB3⟩
          case measure => simp [lenV]; omega
end Go.Proofs.YtkmelhgpngochaaDoor.Fr
