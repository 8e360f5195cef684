/- What the laws of chapter 12 share. It wants XLo: ohsh_any, omay_any, obloom_any (the project's own Hash, May, Build). -/
import Derived.Test.YtndkehadboekbaaLo
import Derived.Lib.SlBytesConst
namespace Go.Proofs.Ytndkehadboekbaa.Bl
set_option linter.unusedVariables false
set_option linter.unusedSimpArgs false
open Go.RowKit Lift Ik Sq
/-- A law answers true, and nothing old has changed. -/
def Yes (w : World) (e : Ending) (w' : World) : Prop := e = .returned (.bool true) ∧ Below w.heap.size w w'
theorem run_str {w : World} {B c : Nat} {A : Option Addr} {bs : List Nat} (hl : Lies w B A (bs.map vb)) : Sem.run Try.prog (convert 25 9 (.slice A bs.length c)) w = .ok (.string (str bs)) w :=
  run_string_lies (P := Try.prog) (c := c) _ _ 5 Try.underlying25 Try.underlying5 Try.underlying9 hl
def bigS (L : List E) : Bool := L.any (fun e => decide (200 < e.bs.length)) || decide (60 < L.length)
theorem big_no {L : List E} (h : bigS L = false) : L.length ≤ 60 ∧ ∀ e, e ∈ L → e.bs.length ≤ 200 := by
  simp [bigS] at h
  exact ⟨h.2, h.1⟩
theorem any_drop {L : List E} {j : Nat} {e : E} {p : E → Bool} (h : L[j]? = some e) : (L.drop j).any p = (p e || (L.drop (j + 1)).any p) := by
  obtain ⟨h1, h2⟩ := List.getElem?_eq_some_iff.1 h
  rw [List.drop_eq_getElem_cons h1, h2]
  rfl
set_option maxRecDepth 100000 in
set_option maxHeartbeats 400000 in
theorem big_any (A : Option Addr) (c B : Nat) (L : List E) (w : World) (h : Seqs w B A c L) :
    Calls Try.prog 8 #[.slice A L.length c] w fun e w' => e = .returned (.bool (bigS L)) ∧ w = w' := by
  have HO := Lib.hid h
  have hc := h.len
  have hm := h.cap
  unfold maxLen at hm
  clear h
  go_enter Try.func8, Try.ntmps8
  go_wp2_with fail
  go_loop [3] (fun i => ∃ j : Nat, j ≤ L.length ∧ i = .int .i64 j ∧ Hid (bigS L = ((L.drop j).any (fun e => decide (200 < e.bs.length)) || decide (60 < L.length)))) (fun i => L.length + 1 - (intOf i).toNat)
  case atStart => exact ⟨0, by omega, rfl, Lib.hid rfl⟩
  case round =>
    obtain ⟨j, hj, rfl, hb⟩ := hrel
    by_cases hlt : j < L.length
    · obtain ⟨d, hd⟩ : ∃ d, L[j]? = some d := ⟨_, List.getElem?_eq_getElem hlt⟩
      obtain ⟨ad, hA, -, hp⟩ := HO.out.place hd
      subst hA
      have HD := Lib.hid (any_drop (p := fun e : E => decide (200 < e.bs.length)) hd)
      have hcap := (HO.out.ok d (List.mem_of_getElem? hd)).cap
      have hmax := (HO.out.ok d (List.mem_of_getElem? hd)).max
      unfold maxLen at hmax
      clear hd
      by_cases k1 : 200 < d.bs.length
      · have e : Hid (bigS L = true) := Lib.hid (by rw [hb.out, HD.out]; simp [k1])
        go_wp2_with fail
        go_ret
        exact ⟨by rw [e.out]; rfl, rfl⟩
      · go_wp2_with fail
        go_round
        case rel => exact ⟨j + 1, by omega, by go_num, Lib.hid (by rw [hb.out, HD.out]; simp [k1])⟩
        case measure => simp [intOf]; omega
    · obtain rfl : j = L.length := by omega
      have e : Hid (bigS L = decide (60 < L.length)) := Lib.hid (by rw [hb.out]; simp)
      go_wp2_with fail
      go_ret
      exact ⟨by rw [e.out]; simp; omega, rfl⟩
theorem may_none (ky : List Nat) (b : Nat) : mayB (bloomB [] b) ky = false := by
  obtain ⟨h1, h2, h3⟩ := bloom_parts [] b
  have h4 := kOf_in b
  have h5 := mOf_in 0 b
  unfold mayB
  rw [h1, h2, decide_eq_false (by omega), decide_eq_false (by omega), Bool.false_or, Bool.false_or, List.all_eq_false]
  refine ⟨0, List.mem_range.2 (by omega), fun h => ?_⟩
  obtain ⟨key, hk, _⟩ := (bloom_on (keys := []) (Nat.mod_lt _ (by rw [List.length_nil]; omega))).1 h
  cases hk
theorem none_len (b : Nat) : (bloomB [] b).length = 9 := by
  rw [bloomB_len]
  have : mOf 0 b = 64 := by unfold mOf; omega
  rw [List.length_nil, this]
theorem seqs_nil (w : World) (B : Nat) : Seqs w B none 0 [] := ⟨.inl rfl, Nat.le_refl _, by decide, by simp⟩
set_option maxRecDepth 100000 in
set_option maxHeartbeats 1600000 in
theorem alive_any (w : World) : Calls Try.prog 7 #[] w (Yes w) := by
  have kc := fun (W : World) (C : Array Value) (n c : Nat) => Lib.run_convert_bytes_const (P := Try.prog) W 25 5 C n c Try.underlying25 Try.underlying5
  go_enter Try.func7, Try.ntmps7
  go_wp2_with fail
  obtain ⟨W0, hW0⟩ : ∃ W0, W0 = (w.alloc (.cells #[.int .u8 97] 5 (1, 2))).alloc (.cells #[.slice (some ⟨w.heap.size, 0, none⟩) 1 1] 25) := ⟨_, rfl⟩
  have hb := Joins.below_alloc2 w (.cells #[.int .u8 97] 5 (1, 2)) (.cells #[.slice (some ⟨w.heap.size, 0, none⟩) 1 1] 25)
  have hz : ((w.alloc (.cells #[.int .u8 97] 5 (1, 2))).alloc (.cells #[.slice (some ⟨w.heap.size, 0, none⟩) 1 1] 25)).heap.size = w.heap.size + 2 := by simp
  have l1 : Lies ((w.alloc (.cells #[.int .u8 97] 5 (1, 2))).alloc (.cells #[.slice (some ⟨w.heap.size, 0, none⟩) 1 1] 25)) (w.heap.size + 2) (some ⟨w.heap.size, 0, none⟩) ([97].map vb) :=
    .inr ⟨_, rfl, by simp, fun j u hj => by
      rcases j with _ | j
      · simp at hj; subst hj
        show _ = some (vb 97)
        go_simp
        exact Joins.cell_alloc_mark_at _ _ _ _ _ 0 rfl
      · simp at hj⟩
  have l2 : Lies ((w.alloc (.cells #[.int .u8 97] 5 (1, 2))).alloc (.cells #[.slice (some ⟨w.heap.size, 0, none⟩) 1 1] 25)) (w.heap.size + 2) (some ⟨w.heap.size + 1, 0, none⟩) ([(⟨some ⟨w.heap.size, 0, none⟩, 1, [97]⟩ : E)].map E.v) := by
    have h1 : (w.alloc (.cells #[.int .u8 97] 5 (1, 2))).heap.size = w.heap.size + 1 := by simp
    have := lies_block (cs := #[.slice (some ⟨w.heap.size, 0, none⟩) 1 1]) (heap_alloc_new (w.alloc (.cells #[.int .u8 97] 5 (1, 2))) (.cells #[.slice (some ⟨w.heap.size, 0, none⟩) 1 1] 25)) (Nat.lt_succ_self _)
    rw [h1] at this
    exact this
  rw [← hW0] at hb hz l1 l2
  have hs : Seqs W0 W0.heap.size (some ⟨w.heap.size + 1, 0, none⟩) 1 [⟨some ⟨w.heap.size, 0, none⟩, 1, [97]⟩] := by
    rw [hz]
    exact ⟨l2, Nat.le_refl _, by decide, fun e he => by
      rw [List.mem_singleton.1 he]
      exact ⟨l1, Nat.le_refl _, (by decide : 1 ≤ maxLen), by simp⟩⟩
  have HBU := Lib.hid (obloom_any (some ⟨w.heap.size + 1, 0, none⟩) 1 W0.heap.size [⟨some ⟨w.heap.size, 0, none⟩, 1, [97]⟩] 10 W0 hs (Nat.le_refl _) (by simp))
  rw [← hW0]
  have HB0 := Lib.hid hb
  have c10 : clampB 10 = 10 := rfl
  rw [c10] at HBU
  clear hb hz l1 l2 hs hW0
  refine HBU.out.mono ?_
  intro e W1 hmade
  obtain ⟨v1, rfl, ho1, hb1⟩ := hmade
  obtain ⟨A1, c1, rfl, hc1, hm1, hl1⟩ := own_parts ho1
  have HMY := Lib.hid (bloom_may (keys := [[97]]) (bits := 10) (key := [97]) (by simp))
  have HLEN := Lib.hid (show (bloomB [[97]] 10).length ≤ 1000000 by rw [bloomB_len]; unfold mOf; simp)
  have HBY := Lib.hid (bloomB_byte [[97]] 10)
  have HL1 := Lib.hid hl1
  have HC1 := Lib.hid (And.intro hc1 hm1)
  have HB1 := Lib.hid (HB0.out.trans (hb1.mono HB0.out.size))
  clear ho1 hb1 hl1 hc1 hm1 HBU
  obtain ⟨F, hF⟩ : ∃ F, F = bloomB [[97]] 10 := ⟨_, rfl⟩
  have e1 : (List.map E.bs [(⟨some ⟨w.heap.size, 0, none⟩, 1, [97]⟩ : E)]) = [[97]] := rfl
  rw [e1, ← hF] at HL1 HC1 ⊢
  rw [← hF] at HMY HLEN HBY
  clear hF e1
  have HBN : Hid (∀ W : World, Calls Try.prog 9 #[.slice none 0 0, .int .i64 10] W (Made W.heap.size W (bloomB [] 10))) := Lib.hid fun W => obloom_any none 0 W.heap.size [] 10 W (seqs_nil _ _) (Nat.le_refl _) (by simp)
  have HN9 := Lib.hid (none_len 10)
  have HNM := Lib.hid (may_none [97] 10)
  have HNB := Lib.hid (bloomB_byte [] 10)
  generalize bloomB [] 10 = N at *
  go_wp2_with fail
  refine (HBN.out W1).mono ?_
  intro e W2 hmade
  obtain ⟨v2, rfl, ho2, hb2⟩ := hmade
  obtain ⟨A2, c2, rfl, -, -, -⟩ := own_parts ho2
  rw [HN9.out]
  have HB2 := Lib.hid (HB1.out.trans (hb2.mono HB1.out.size))
  have HL2 := Lib.hid ((HL1.out.below hb2).up hb2.size)
  clear hb2 ho2
  go_wp2_with fail
  obtain ⟨W3, hW3⟩ : ∃ W3, W3 = W2.alloc (.cells #[.int .u8 97] 5 (1, 2)) := ⟨_, rfl⟩
  have hb3 : Below W2.heap.size W2 W3 := by rw [hW3]; exact Joins.below_alloc1 _ _
  have l3 : Lies W3 W3.heap.size (some ⟨W2.heap.size, 0, none⟩) ([97].map vb) := by
    rw [hW3]
    exact .inr ⟨_, rfl, by simp, fun j u hj => by
      rcases j with _ | j
      · simp at hj; subst hj
        exact Joins.cell_alloc_mark_at _ _ _ _ _ 0 rfl
      · simp at hj⟩
  rw [← hW3]
  have HB3 := Lib.hid (HB2.out.trans (hb3.mono HB2.out.size))
  have HM3 := Lib.hid (omay_any A1 (some ⟨W2.heap.size, 0, none⟩) c1 1 W3.heap.size F [97] W3 (Nat.le_refl _) ((HL2.out.below hb3).up hb3.size) HC1.out.1 HC1.out.2 HBY.out l3 (Nat.le_refl _) (by decide) (by simp) HLEN.out)
  rw [HMY.out] at HM3
  clear hb3 l3 hW3 HL2
  refine HM3.out.mono ?_
  rintro e W4 ⟨rfl, hb4⟩
  have HB4 := Lib.hid (HB3.out.trans (hb4.mono HB3.out.size))
  clear hb4 HM3
  go_wp2_with fail
  refine (HBN.out W4).mono ?_
  intro e W5 hmade
  obtain ⟨v2, rfl, ho5, hb5⟩ := hmade
  obtain ⟨A5, c5, rfl, hc5, hm5, hl5⟩ := own_parts ho5
  rw [HN9.out] at hc5 ⊢
  have HB5 := Lib.hid (HB4.out.trans (hb5.mono HB4.out.size))
  have HL5 := Lib.hid hl5
  have HC5 := Lib.hid (And.intro hc5 hm5)
  clear hb5 ho5 hl5 hc5 hm5
  go_wp2_with fail
  obtain ⟨W6, hW6⟩ : ∃ W6, W6 = W5.alloc (.cells #[.int .u8 97] 5 (1, 2)) := ⟨_, rfl⟩
  have hb6 : Below W5.heap.size W5 W6 := by rw [hW6]; exact Joins.below_alloc1 _ _
  have l6 : Lies W6 W6.heap.size (some ⟨W5.heap.size, 0, none⟩) ([97].map vb) := by
    rw [hW6]
    exact .inr ⟨_, rfl, by simp, fun j u hj => by
      rcases j with _ | j
      · simp at hj; subst hj
        exact Joins.cell_alloc_mark_at _ _ _ _ _ 0 rfl
      · simp at hj⟩
  rw [← hW6]
  have HB6 := Lib.hid (HB5.out.trans (hb6.mono HB5.out.size))
  have hm6 := omay_any A5 (some ⟨W5.heap.size, 0, none⟩) c5 1 W6.heap.size N [97] W6 (Nat.le_refl _) ((HL5.out.below hb6).up hb6.size) (by rw [HN9.out]; exact HC5.out.1) HC5.out.2 HNB.out l6 (Nat.le_refl _) (by decide) (by simp) (by rw [HN9.out]; decide)
  rw [HNM.out, HN9.out] at hm6
  have HM6 := Lib.hid hm6
  clear hb6 l6 hW6 HL5 hm6
  refine HM6.out.mono ?_
  rintro e W7 ⟨rfl, hb7⟩
  have HB7 := Lib.hid (HB6.out.trans (hb7.mono HB6.out.size))
  clear hb7 HM6
  go_wp2_with fail
  go_ret
  exact ⟨rfl, HB7.out⟩
end Go.Proofs.Ytndkehadboekbaa.Bl
