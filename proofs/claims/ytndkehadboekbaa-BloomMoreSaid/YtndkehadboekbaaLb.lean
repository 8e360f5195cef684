/- The document's filter: Bloom. -/
import Derived.Test.YtndkehadboekbaaLh
import Derived.Test.YtndkehadboekbaaSeqs
import Derived.Test.YtndkehadboekbaaCut
namespace Go.Proofs.Ytndkehadboekbaa.Bl
set_option linter.unusedVariables false
set_option linter.unusedSimpArgs false
open Go.RowKit Lift Ik Sq
theorem own_put {w : World} {base gb n c j e size : Nat} {xs : List Value} {u : Value} (h : w.ownsRow base e size (.slice (some ⟨gb, 0, none⟩) n c) n xs) (hj : j < xs.length) : (w.setCell ⟨gb, j, none⟩ u).ownsRow base e size (.slice (some ⟨gb, 0, none⟩) n c) n (xs.set j u) := by
  refine ⟨by rw [List.length_set]; exact h.1, ?_⟩
  rcases h.2 with ⟨h0, _⟩ | ⟨g, cap, cur, hv, hB, hh, h1, h2, h3, h4⟩
  · cases h0
  · injection hv with e1 e2 e3
    injection e1 with e1
    injection e1 with e1
    subst e1 e3
    refine .inr ⟨gb, c, (cur.toList.set j u).toArray, rfl, hB, ?_, h1, h2, by simpa using h3, ?_⟩
    · rw [heap_setCell_same w gb j _ _ _ hh]
      have e : cur.setIfInBounds j u = (cur.toList.set j u).toArray := Array.toList_inj.1 (by simp)
      rw [e]
    · have hlt : j < n * size := by rw [h.1] at hj; exact hj
      rw [← h4, List.take_set]
theorem own_free {w : World} {base gb n c e size : Nat} {xs : List Value} (h : w.ownsRow base e size (.slice (some ⟨gb, 0, none⟩) n c) n xs) (j : Nat) : w.frozen? ⟨gb, j, none⟩ = false := by
  rcases h.2 with ⟨h0, _⟩ | ⟨g, cap, cur, hv, hB, hh, _⟩
  · cases h0
  · injection hv with e1 e2 e3
    injection e1 with e1
    injection e1 with e1
    subst e1
    exact frozen_of_row w gb j _ _ hh
theorem add_zero_at (g j : Nat) : Addr.add ⟨g, 0, none⟩ j = ⟨g, j, none⟩ := by unfold Addr.add; split <;> simp_all
theorem betw_any (n : Int) (b t : Nat) (hb : 1 ≤ b) (ht : (t : Int) = min (max n 1) b) (w : World) : Calls Try.prog 16 #[.int .i64 n, .int .i64 1, .int .i64 (b : Int)] w fun e w' => e = .returned (.int .i64 (t : Int)) ∧ w = w' := by
  by_cases h1 : n < 1
  · have d1 : decide (n < 1) = true := decide_eq_true h1
    have E := Lib.hid (show (t : Int) = 1 by omega)
    clear ht
    go_enter Try.func16, Try.ntmps16
    go_wp2_with fail
    go_ret
    exact ⟨by rw [E.out]; rfl, rfl⟩
  · have d1 : decide (n < 1) = false := decide_eq_false h1
    by_cases h2 : (b : Int) < n
    · have d2 : decide ((b : Int) < n) = true := decide_eq_true h2
      have E := Lib.hid (show (t : Int) = b by omega)
      clear ht
      go_enter Try.func16, Try.ntmps16
      go_wp2_with fail
      go_ret
      exact ⟨by rw [E.out]; rfl, rfl⟩
    · have d2 : decide ((b : Int) < n) = false := decide_eq_false h2
      have E := Lib.hid (show (t : Int) = n by omega)
      clear ht
      go_enter Try.func16, Try.ntmps16
      go_wp2_with fail
      go_ret
      exact ⟨by rw [E.out]; rfl, rfl⟩
theorem set_int {b z : Nat} (hb : b < 256) (hz : z < 8) : bits .or .u8 (b : Int) (2 ^ z % 256) = ((b ||| 2 ^ z : Nat) : Int) := by
  have h1 : 2 ^ z < 2 ^ 8 := Nat.pow_lt_pow_right (by decide) hz
  have h2 := u8_or_nat b (2 ^ z) hb (by omega)
  have h3 : (2 : Int) ^ z % 256 = ((2 ^ z : Nat) : Int) := by
    rw [show (2 : Int) ^ z = ((2 ^ z : Nat) : Int) from by rw [Int.natCast_pow]; rfl]
    exact (fun (p : Nat) (hp : p < 256) => (by omega : (p : Int) % 256 = (p : Int))) (2 ^ z) h1
  rw [h3]
  exact h2
set_option maxRecDepth 100000 in
set_option maxHeartbeats 3200000 in
theorem rbloom_any (A : Option Addr) (c B : Nat) (L : List E) (bits' : Int) (w : World) (hl : Seqs w B A c L) (hB : B ≤ w.heap.size) (hn : L.length ≤ 1000000) :
    Calls Try.prog 10 #[.slice A L.length c, .int .i64 bits'] w (Made w.heap.size w (bloomB (L.map E.bs) (clampB bits'))) := by
  have HS := Lib.hid hl
  have hc := hl.len
  have hm := hl.cap
  unfold maxLen at hm
  have hlen : (L.map E.bs).length = L.length := List.length_map ..
  obtain ⟨be, hbe⟩ : ∃ be, be = clampB bits' := ⟨_, rfl⟩
  have hbi := clampB_in bits'
  rw [← hbe] at hbi ⊢
  obtain ⟨b1, b2⟩ := hbi
  have HB1 := Lib.hid (betw_any bits' 40 be (by omega) (by rw [hbe]; unfold clampB; omega) w)
  have e69 : (be : Int) * 69 / 100 = ((be * 69 / 100 : Nat) : Int) := by omega
  have HB2 := Lib.hid (betw_any ((be * 69 / 100 : Nat) : Int) 30 (kOf be) (by omega) (by unfold kOf; omega) w)
  have hki := kOf_in be
  have hmi := mOf_in (L.map E.bs).length be
  unfold bloomB
  rw [hlen] at hmi ⊢
  have hPb : L.length * be ≤ 40000000 := Nat.le_trans (Nat.mul_le_mul hn b2) (by decide)
  obtain ⟨P, hP⟩ : ∃ P, P = L.length * be := ⟨_, rfl⟩
  rw [← hP] at hPb
  have eP : (L.length : Int) * (be : Int) = (P : Int) := by rw [hP]; exact (Int.natCast_mul _ _).symm
  have hM : mOf L.length be = (max P 64 + 7) / 8 * 8 := by unfold mOf; rw [hP]
  clear hl
  have HLEN := Lib.hid hlen
  clear hlen hbe
  generalize kOf be = k at *
  generalize hQ : be * 69 / 100 = Q at *
  generalize mOf L.length be = m at *
  obtain ⟨n8, hn8⟩ : ∃ n8, m / 8 = n8 := ⟨_, rfl⟩
  rw [hn8]
  obtain ⟨k1, k2⟩ := hki
  obtain ⟨m1, m2⟩ := hmi
  have hm4 : m ≤ 50000000 := by omega
  have HQ := Lib.hid hQ
  have HPL := Lib.hid hP
  have hqb : Q ≤ 100 := by omega
  clear hQ hP
  go_enter Try.func10, Try.ntmps10
  go_wp2_with fail
  refine HB1.out.mono ?_
  rintro e w' ⟨rfl, rfl⟩
  go_wp2_with fail
  refine HB2.out.mono ?_
  rintro e w' ⟨rfl, rfl⟩
  clear HB1 HB2 e69
  have HN8 := Lib.hid hn8
  have HMM := Lib.hid hM
  have H82 := Lib.hid m2
  clear hn8 hM m2
  go_upto_if 24 with fail
  go_cut [6] (fun e6 wx => e6 = .int .i64 ((max P 64 : Nat) : Int) ∧ wx = w)
  case first =>
    by_cases h64 : P < 64
    · have d1 : decide ((P : Int) < 64) = true := decide_eq_true (by omega)
      have d2 : decide (P < 64) = true := decide_eq_true h64
      have e1 : ((max P 64 : Nat) : Int) = 64 := by omega
      have E1 := Lib.hid e1
      clear e1
      go_wp2_with fail
      go_meet
      exact ⟨by rw [E1.out], rfl⟩
    · have d1 : decide ((P : Int) < 64) = false := decide_eq_false (by omega)
      have d2 : decide (P < 64) = false := decide_eq_false h64
      have e1 : ((max P 64 : Nat) : Int) = P := by omega
      have E1 := Lib.hid e1
      clear e1
      go_wp2_with fail
      go_meet
      exact ⟨by rw [E1.out], rfl⟩
  case rest =>
  obtain ⟨rfl, hw⟩ := hcut
  rw [hw]
  clear hw wc
  have hM := HMM.out
  have hn8 := HN8.out
  have m2 := H82.out
  obtain ⟨R, hR⟩ : ∃ R, R = max P 64 := ⟨_, rfl⟩
  rw [← hR] at hM ⊢
  have eM : ((R : Int) + 7) / 8 * 8 = (m : Int) := by omega
  have hRb : R ≤ 50000000 := by omega
  have en8 : (m : Int) / 8 = (n8 : Int) := by omega
  have hmk := make_own n8 (by omega) w
  obtain ⟨hrun, hown0⟩ := hmk
  have HRUN := Lib.hid hrun
  have hb0 : Below w.heap.size w (w.alloc (.cells (madeCells #[.int .u8 0] n8) 5)) := Joins.below_alloc1 w _
  rw [List.length_replicate] at hown0
  have hmn : m = 8 * n8 := by omega
  have HMN := Lib.hid hmn
  have HSR : Hid ((w.alloc (.cells (madeCells #[.int .u8 0] n8) 5)).ownsRow w.heap.size 5 1 (.slice (some ⟨w.heap.size, 0, none⟩) n8 n8) n8 ((addA m k (zeroB n8) ((L.map E.bs).take 0)).map vb)) := Lib.hid hown0
  have HB0 := Lib.hid hb0
  clear hn8 hrun hb0 hown0 hR hM hPb eP HPL hmn
  have hn8b : n8 ≤ 50000000 := by omega
  have hrun' := HRUN.out
  go_wp2_with fail
  generalize w.alloc (.cells (madeCells #[.int .u8 0] n8) 5) = W0 at HSR HB0 ⊢
  clear hrun' HRUN
  go_loopw [8, 9, 10, 11, 12] (fun i h d j x wr => ∃ n : Nat, n ≤ L.length ∧ i = .int .i64 (n : Int) ∧ Hid (wr.ownsRow w.heap.size 5 1 (.slice (some ⟨w.heap.size, 0, none⟩) n8 n8) n8 ((addA m k (zeroB n8) ((L.map E.bs).take n)).map vb)) ∧ Hid (Below w.heap.size w wr)) (fun i _ _ _ _ _ => L.length + 1 - (intOf i).toNat)
  case atStart => exact ⟨0, Nat.zero_le _, rfl, HSR, HB0⟩
  case round =>
    obtain ⟨n, hn', rfl, hown, hb⟩ := hrel
    by_cases hlt : n < L.length
    · obtain ⟨e, he⟩ : ∃ e, L[n]? = some e := ⟨_, List.getElem?_eq_getElem hlt⟩
      obtain ⟨ad, hA, -, hp⟩ := ((HS.out.up hB).below hb.out).place he
      subst hA
      have hok := (HS.out.up hB).below hb.out |>.ok e (List.mem_of_getElem? he)
      have HH := Lib.hid (rhsh_any e.a e.c w.heap.size e.bs wr hok.lies hok.cap hok.max hok.byte)
      have hhl := hsh_lt e.bs
      have e5 := rot_int hhl
      have hrl := rot_lt hhl
      have HZ := Lib.hid (nth_zero (d := rot (hsh e.bs)) hhl)
      have HNX : Hid (addA m k (zeroB n8) ((L.map E.bs).take (n + 1)) = addN m (addA m k (zeroB n8) ((L.map E.bs).take n)) (hsh e.bs) (rot (hsh e.bs)) k) := Lib.hid (addA_next (by rw [List.getElem?_map, he]; rfl))
      have HF8 : Hid (∀ x, x ∈ addA m k (zeroB n8) ((L.map E.bs).take n) → x < 256) := Lib.hid (addA_byte _ _ fun c hc => by
        unfold zeroB at hc
        rw [List.mem_replicate] at hc
        omega)
      have HFL : Hid ((addA m k (zeroB n8) ((L.map E.bs).take n)).length = n8) := Lib.hid (by rw [addA_len]; simp [zeroB])
      generalize addA m k (zeroB n8) ((L.map E.bs).take n) = F at *
      generalize hsh e.bs = h at *
      generalize rot h = d at *
      clear hok he
      go_wp2_with fail
      refine HH.out.mono ?_
      rintro e' w' ⟨rfl, rfl⟩
      clear HH hp
      go_wp2_with fail
      go_loopw [9, 11, 12] (fun v9 v11 v12 wi => ∃ j : Nat, j ≤ k ∧ v9 = .int .u32 ((nth h d j : Nat) : Int) ∧ v11 = .int .i64 (j : Int) ∧ Hid (wi.ownsRow w.heap.size 5 1 (.slice (some ⟨w.heap.size, 0, none⟩) n8 n8) n8 ((addN m F h d j).map vb)) ∧ Hid (Below w.heap.size w wi)) (fun _ j _ _ => k + 1 - (intOf j).toNat)
      case atStart => exact ⟨0, Nat.zero_le _, by rw [HZ.out], rfl, hown, hb⟩
      case round =>
        obtain ⟨j, hj, rfl, rfl, hown2, hb2⟩ := hrel
        by_cases hjl : j < k
        · obtain ⟨H, hH⟩ : ∃ H, H = nth h d j := ⟨_, rfl⟩
          obtain ⟨X, hX⟩ : ∃ X, X = H % m := ⟨_, rfl⟩
          have hXl : X < m := by rw [hX]; exact Nat.mod_lt _ (by omega)
          have q0 : (H : Int) % (m : Int) = (X : Int) := by rw [hX]; exact (Int.natCast_emod _ _).symm
          obtain ⟨Y, hY⟩ : ∃ Y, Y = X / 8 := ⟨_, rfl⟩
          obtain ⟨Z, hZ⟩ : ∃ Z, Z = X % 8 := ⟨_, rfl⟩
          have q1 : (X : Int) / 8 = (Y : Int) := by omega
          have q2 : (X : Int) % 8 = (Z : Int) := by omega
          have hYl : Y < n8 := by have := HMN.out; omega
          have hZ8 : Z < 8 := by omega
          have hGl : (addN m F h d j).length = n8 := by rw [addN_len]; exact HFL.out
          have hG8 := addN_byte (m := m) (h := h) (d := d) HF8.out j
          obtain ⟨b, hb'⟩ : ∃ b, (addN m F h d j)[Y]? = some b := ⟨_, List.getElem?_eq_getElem (by omega)⟩
          have b8 := hG8 b (List.mem_of_getElem? hb')
          have g1 := hown2.out.cells (g := w.heap.size) rfl Y (vb b) (by rw [List.getElem?_map, hb']; rfl)
          rw [add_zero_at] at g1
          have g2 := own_free hown2.out Y
          have e8 := set_int b8 hZ8
          have hH32 : H < 4294967296 := by rw [hH]; exact nth_lt _ _ _
          have e9 : ((H : Int) + (d : Int)) % 4294967296 = ((nth h d (j + 1) : Nat) : Int) := by rw [← nth_next, ← hH]; omega
          have HNN : Hid (addN m F h d (j + 1) = (addN m F h d j).set Y (b ||| 2 ^ Z)) := Lib.hid (by
            show setB (addN m F h d j) (nth h d j % m) = _
            rw [← hH, ← hX]
            unfold setB
            rw [← hY, ← hZ, List.getD_eq_getElem?_getD, hb']
            rfl)
          have hown3 := own_put (j := Y) (u := vb (b ||| 2 ^ Z)) hown2.out (by rw [List.length_map, hGl]; exact hYl)
          rw [← List.map_set, ← HNN.out] at hown3
          have HO3 := Lib.hid hown3
          have hb3 : Below w.heap.size w (wr.setCell ⟨w.heap.size, Y, none⟩ (vb (b ||| 2 ^ Z))) := hb2.out.setCell (p := ⟨w.heap.size, Y, none⟩) (Nat.le_refl _) _
          have HB3 := Lib.hid hb3
          have hX32 : X < 4294967296 := by omega
          have n0 : ¬ (m : Int) = 0 := by omega
          rw [← hH]
          clear hX hY hZ hG8 hb' hown3 hb3 hGl
          have HHH := Lib.hid hH
          clear hH
          go_wp2_with fail
          go_roundw
          case rel => exact ⟨j + 1, by omega, by first | rfl | rw [e9], by go_num, HO3, HB3⟩
          case measure => simp [intOf]; omega
        · obtain rfl : j = k := by omega
          rw [← HNX.out] at hown2
          go_wp2_with fail
          go_roundw
          case rel => exact ⟨n + 1, by omega, by go_num, hown2, hb2⟩
          case measure => simp [intOf]; omega
    · obtain rfl : n = L.length := by omega
      have hall : (L.map E.bs).take L.length = L.map E.bs := List.take_of_length_le (by rw [HLEN.out]; exact Nat.le_refl _)
      rw [hall] at hown
      have HFL : Hid ((addA m k (zeroB n8) (L.map E.bs)).length = n8) := Lib.hid (by rw [addA_len]; simp [zeroB])
      clear hall
      generalize addA m k (zeroB n8) (L.map E.bs) = F at *
      have hown' := hown.out
      rw [← HFL.out] at hown'
      obtain ⟨v', w', hr, ho, hon⟩ := append_byte k hown' (by rw [HFL.out]; omega) hb.out.size
      have HR := Lib.hid hr
      have HO := Lib.hid ho
      have HBB := Lib.hid (hb.out.trans (hon.below hown' hb.out.size))
      rw [HFL.out] at HR
      obtain ⟨A9, c9, hv9, -, -, -⟩ := own_parts ho
      subst hv9
      clear hr ho hon hown'
      have k256 : k < 256 := by omega
      go_wp2_with (at_builtin; refine wpList_append_run rfl _ _ 25 rfl rfl rfl HR.out ?_)
      go_ret
      exact ⟨.slice A9 (F ++ [k]).length c9, by rw [List.length_append]; first | rfl | (rw [HFL.out]; rfl), HO.out, HBB.out⟩
end Go.Proofs.Ytndkehadboekbaa.Bl
