/- What skipPadding of package frame answers. -/
import Derived.Test.YtkmelhgpngochaaDoorFtrim
import Derived.Test.YtkmelhgpngochaaDoorRef
namespace Go.Proofs.YtkmelhgpngochaaDoor.Fr
set_option linter.unusedVariables false
set_option linter.unusedSimpArgs false
open Go.RowKit Lift Ik
/-- A reader of the bytes b, at the place a. -/
structure Rr (w : World) (g : Nat) (A : Option Addr) (c : Nat) (b : List Nat) (a : Nat) (As : Option Addr) (cs : Nat) : Prop where
  box : Box w g 45 [.slice A b.length c, .int .i64 (a : Int), .slice As 256 cs]
  log : Lies w g A (b.map vb)
  sums : Lies w g As (Crc.tab.map Crc.vw)
  len : b.length ≤ c
  cap : c ≤ maxLen
  small : b.length ≤ 1000000
  byte : ∀ x, x ∈ b → x < 256
  place : a ≤ b.length
  cap2 : 256 ≤ cs
theorem Rr.moved {w w' : World} {g c a a' cs : Nat} {A As : Option Addr} {b : List Nat} (h : Rr w g A c b a As cs) (hk : Keep (· = g) w w') (hb : Box w' g 45 [.slice A b.length c, .int .i64 (a' : Int), .slice As 256 cs]) (ha : a' ≤ b.length) : Rr w' g A c b a' As cs :=
  ⟨hb, h.log.later fun p hp => World.cell?_of_block (hk.block _ (Nat.lt_trans hp h.box.lt) (by omega)), h.sums.later fun p hp => World.cell?_of_block (hk.block _ (Nat.lt_trans hp h.box.lt) (by omega)), h.len, h.cap, h.small, h.byte, ha, h.cap2⟩
theorem Rr.below {w w' : World} {g c a cs B : Nat} {A As : Option Addr} {b : List Nat} (h : Rr w g A c b a As cs) (hk : Below B w w') (hB : g < B) : Rr w' g A c b a As cs :=
  ⟨h.box.below hk hB, h.log.later fun p hp => hk.cell (Nat.lt_trans hp hB), h.sums.later fun p hp => hk.cell (Nat.lt_trans hp hB), h.len, h.cap, h.small, h.byte, h.place, h.cap2⟩
theorem clean_far {b : List Nat} {a : Nat} (h : ¬ left a < 7) : clean b a ∧ skip b a = a := by
  unfold clean padding skip
  rw [if_neg h, if_neg h]
  exact ⟨by simp, rfl⟩
set_option maxRecDepth 100000 in
set_option maxHeartbeats 800000 in
theorem skip_any (g c a cs : Nat) (A As : Option Addr) (b : List Nat) (w : World) (h : Rr w g A c b a As cs) :
    Calls Tryd.prog (31) #[.pointer (some ⟨g, 0, none⟩)] w fun e w' => e = .returned (.bool (decide (clean b a))) ∧ Keep (· = g) w w' ∧ Rr w' g A c b (skip b a) As cs := by
  have H := Lib.hid h
  obtain ⟨p0, p1, p2, f0, f1, f2⟩ := h.box.facts3
  have hpl := h.place
  have hsm := h.small
  have hlp := left_pos a
  have HRM := Lib.hid (room_any a w (by omega))
  by_cases h7 : left a < 7
  · obtain ⟨k, hk⟩ : ∃ k, k = min (left a) (b.length - a) := ⟨_, rfl⟩
    have hskip : Hid (skip b a = a + k) := Lib.hid (by unfold skip; rw [if_pos h7]; omega)
    have hpad : Hid (padding b a = (b.drop a).take (left a)) := Lib.hid (by unfold padding; rw [if_pos h7])
    have hpk : Hid ((padding b a).length = k) := Lib.hid (by rw [hpad.out, List.length_take, List.length_drop]; omega)
    have hclean : Hid (decide (clean b a) = decide (((bare (padding b a)).length : Int) = 0)) := Lib.hid (by
      have e := bare_nil (padding b a)
      by_cases hc : clean b a
      · rw [decide_eq_true hc, decide_eq_true (by have := e.2 hc; omega)]
      · rw [decide_eq_false hc, decide_eq_false (fun h0 => hc (e.1 (by omega)))])
    obtain ⟨A2, hA2, _, hcut⟩ := cut_mid A b.length c a k (by omega) h.len h.cap
    have HLp : Hid (Lies w g A2 ((padding b a).map vb)) := Lib.hid (h.log.cut (p := a) (fun h0 => hA2 (by rw [hpk.out] at h0; exact h0)) (by rw [hpad.out]; exact List.take_prefix _ _))
    have H8p : Hid (∀ x, x ∈ padding b a → x < 256) := Lib.hid (by rw [hpad.out]; exact fun x hx => h.byte x (List.mem_of_mem_drop (List.mem_of_mem_take hx)))
    have emin : min ((a : Int) + (left a : Int)) (b.length : Int) = (a : Int) + (k : Int) := by omega
    have hcut2 := fun W => hcut W ((a : Int) + (k : Int)) rfl
    have hkc : k ≤ c - a := by have := h.len; omega
    have hcm : c - a ≤ maxLen := by have := h.cap; unfold maxLen at this ⊢; omega
    have hka : a + k ≤ b.length := by omega
    clear hcut hk h
    generalize hL : left a = L at *
    go_enter (Tryd.func31), (Tryd.ntmps31)
    go_wp2_with fail
    refine HRM.out.mono ?_; rintro e w' ⟨rfl, rfl⟩
    go_wp2_with fail
    go_quiet (fail)
    go_wp2_with fail
    have hbd := Joins.below_draws w.heap.size w nq
    have hk1 : Keep (· = g) w ((w.drewN nq).setCell ⟨g, 1, none⟩ (.int .i64 ((a : Int) + (k : Int)))) := Keep.setCell (S := (· = g)) (p := ⟨g, 1, none⟩) (below_keep hbd) (.inr rfl) _
    have hb1 := (H.out.box.below hbd H.out.box.lt).set 1 (.int .i64 ((a : Int) + (k : Int)))
    have HR1 : Hid (Rr ((w.drewN nq).setCell ⟨g, 1, none⟩ (.int .i64 ((a : Int) + (k : Int)))) g A c b (a + k) As cs) := Lib.hid (H.out.moved hk1 hb1 hka)
    have HT := Lib.hid (trim_any A2 (c - a) g (padding b a) ((w.drewN nq).setCell ⟨g, 1, none⟩ (.int .i64 ((a : Int) + (k : Int)))) (HLp.out.later fun p hp => World.cell?_of_block (hk1.block _ (Nat.lt_trans hp H.out.box.lt) (by omega))) (by rw [hpk.out]; exact hkc) hcm H8p.out)
    rw [hpk.out] at HT
    have HK1 := Lib.hid hk1
    clear hbd hk1 hb1
    generalize (w.drewN nq).setCell ⟨g, 1, none⟩ (.int .i64 ((a : Int) + (k : Int))) = W1 at *
    refine HT.out.mono ?_
    rintro e w' ⟨⟨A', c', rfl⟩, rfl⟩
    go_wp2_with fail
    go_ret
    exact ⟨by rw [hclean.out]; rfl, HK1.out, by rw [hskip.out]; exact HR1.out⟩
  · obtain ⟨c1, c2⟩ := clean_far (b := b) h7
    have HC1 := Lib.hid c1
    have HC2 := Lib.hid c2
    clear c1 c2 h
    go_enter (Tryd.func31), (Tryd.ntmps31)
    go_wp2_with fail
    refine HRM.out.mono ?_; rintro e w' ⟨rfl, rfl⟩
    go_wp2_with fail
    go_ret
    exact ⟨by rw [decide_eq_true HC1.out]; rfl, Keep.refl _ _, by rw [HC2.out]; exact H.out⟩
end Go.Proofs.YtkmelhgpngochaaDoor.Fr
