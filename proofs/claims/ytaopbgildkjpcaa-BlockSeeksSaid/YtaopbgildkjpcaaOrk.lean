/- What package ikey's Read answers: the key lies in new memory. -/
import Derived.Test.YtaopbgildkjpcaaBrk
namespace Go.Proofs.Ytaopbgildkjpcaa.Ik
set_option linter.unusedVariables false
set_option linter.unusedSimpArgs false
open Go.RowKit Lift
theorem read_shortF (A : Option Addr) (c : Nat) (bs : List Nat) (w : World) (h : bs.length < 9) :
    Calls Try.prog 80 #[.slice A bs.length c] w (ToldF w bs) := by
  go_enter Try.func80, Try.ntmps80
  go_wp2_with fail
  go_returns
  exact told_shortF h (Joins.below_alloc1 _ _)
set_option maxRecDepth 100000 in
set_option maxHeartbeats 400000 in
theorem read_anyF (A : Option Addr) (c : Nat) (bs : List Nat) (w : World) (hl : Lies w w.heap.size A (bs.map vb)) (hc : bs.length ≤ c) (hm : c ≤ maxLen) (hb : ∀ x, x ∈ bs → x < 256) (h : 9 ≤ bs.length) (hsmall : bs.length ≤ 140737488354000) :
    Calls Try.prog 80 #[.slice A bs.length c] w (ToldF w bs) := by
  unfold maxLen at hm
  have HL := Lib.hid hl
  have H8 := Lib.hid hb
  clear hl hb
  obtain ⟨n, hn⟩ : ∃ n, bs.length = n + 8 := ⟨bs.length - 8, by omega⟩
  obtain ⟨ad, rfl, _, hcell⟩ := HL.out.place (by simp; omega)
  have HC := Lib.hid (cells_at hcell)
  have en : ((bs.length : Int) - 8) = (n : Int) := by omega
  clear hcell
  go_enter Try.func80, Try.ntmps80
  go_wp2_with fail
  have hb0 := Joins.below_alloc1 w (.cells #[.slice none 0 0, .int .u64 0, .int .i64 0] 38)
  have z0 := Blk.new w (.slice none 0 0) (.int .u64 0) (.int .i64 0)
  have hsz : (w.alloc (.cells #[.slice none 0 0, .int .u64 0, .int .i64 0] 38)).heap.size = w.heap.size + 1 := by simp
  generalize w.alloc (.cells #[.slice none 0 0, .int .u64 0, .int .i64 0] 38) = W0 at hb0 z0 hsz ⊢
  have HL0 := Lib.hid (HL.out.below hb0)
  obtain ⟨_, hA, _, hcell⟩ := HL0.out.place (by simp; omega)
  cases hA
  have HC := Lib.hid (cells_at hcell)
  have HB0 := Lib.hid hb0
  have Z0 := Lib.hid z0
  have HSZ := Lib.hid hsz
  clear hcell hb0 z0 hsz
  go_loop [5, 20] (fun x i => ∃ j y : Nat, j ≤ 8 ∧ i = .int .i64 j ∧ x = .int .u64 y ∧ Hid (y = num ((bs.drop n).take j)) ∧ Hid (y < 256 ^ j)) (fun _ i => 10 - (intOf i).toNat)
  case atStart => exact ⟨0, 0, by omega, rfl, rfl, Lib.hid rfl, Lib.hid (by decide)⟩
  case round =>
    obtain ⟨j, y, hj, rfl, rfl, hy, hlt8⟩ := hrel
    by_cases hlt : j < 8
    · obtain ⟨d, hd⟩ : ∃ d : Nat, bs[n + j]? = some d := ⟨_, List.getElem?_eq_getElem (by omega)⟩
      have d8 := H8.out d (List.mem_of_getElem? hd)
      have h1 : W0.cell? ((ad.add n).add j) = some (.int .u8 (d : Int)) := by rw [add_add]; exact HC.out _ _ hd
      have e := or_step y d j hlt hlt8.out d8
      have HD := Lib.hid hd
      clear hd
      go_wp2_with fail
      go_round
      case rel => exact ⟨j + 1, y + d * 256 ^ j, by omega, by go_num, by go_num, Lib.hid (num_step HD.out hy.out), Lib.hid (pow_step hlt8.out d8)⟩
      case measure => simp [intOf]; omega
    · obtain rfl : j = 8 := by omega
      have hy2 : y = num (bs.drop n) := by rw [hy.out, List.take_of_length_le (by simp; omega)]
      have hy3 : y < 18446744073709551616 := by have := hlt8.out; omega
      have hok : okB n (y / 256) ((y : Int) % 256) = okR bs := by
        unfold okR rawK
        simp only
        rw [show bs.length - 8 = n by omega, ← hy2, List.length_take, Nat.min_eq_left (by omega)]
        rfl
      have hr := fun W => right_any (some ad) c n (y / 256) ((y : Int) % 256) W
      rw [hok, show ((y / 256 : Nat) : Int) = (y : Int) / 256 by omega] at hr
      have HR := Lib.hid hr
      have HY2 := Lib.hid hy2
      clear hy hy2 hlt8 hok hr
      go_wp2_with fail
      have hb1 := Joins.below_alloc1 W0 (.cells #[.slice (some ad) n c, .int .u64 ((y : Int) / 256), .int .i64 ((y : Int) % 256)] 38)
      have z1 := Z0.out.later hb1 (by have := HSZ.out; omega)
      have t1 := Blk.new W0 (.slice (some ad) n c) (.int .u64 ((y : Int) / 256)) (.int .i64 ((y : Int) % 256))
      have hsz1 : (W0.alloc (.cells #[.slice (some ad) n c, .int .u64 ((y : Int) / 256), .int .i64 ((y : Int) % 256)] 38)).heap.size = W0.heap.size + 1 := by simp
      refine (HR.out _).mono ?_
      rintro e W2 ⟨rfl, hb2⟩
      have z2 := z1.later hb2 (by have := HSZ.out; omega)
      have t2 := t1.later hb2 (by omega)
      have HB2 := Lib.hid (HB0.out.trans ((hb1.trans (hb2.mono hb1.size)).mono HB0.out.size))
      have HZ2 : Hid (W0.heap.size < W2.heap.size) := Lib.hid (by have := hb2.size; omega)
      clear hb1 hb2 z1 t1 hsz1
      have Z2 := Lib.hid z2
      have T2 := Lib.hid t2
      obtain ⟨p0, p1, p2, p3, p4, p5⟩ := z2.facts
      obtain ⟨q0, q1, q2, q3, q4, q5⟩ := t2.facts
      clear z2 t2
      by_cases ho : okR bs = true
      · rw [ho]
        have hk : (bs.take n).length = n := by rw [List.length_take]; omega
        have hcl := clone_any ad c (bs.take n) W2 ((((HL.out.below HB2.out).up HB2.out.size).front (by rw [List.map_take]; exact List.take_prefix _ _))) (by have := hsmall; omega)
        rw [hk] at hcl
        have HCL := Lib.hid hcl
        have HK := Lib.hid hk
        clear hk hcl
        go_wp2_with fail
        refine HCL.out.mono ?_
        rintro e W3 ⟨v, rfl, hown, hb3⟩
        obtain ⟨A3, c3, rfl, hc3, hm3, _⟩ := own_parts hown
        have z3 := Z2.out.later hb3 (by have := HSZ.out; have := HZ2.out; omega)
        have t3 := T2.out.later hb3 HZ2.out
        obtain ⟨p0, p1, p2, p3, p4, p5⟩ := z3.facts
        obtain ⟨q0, q1, q2, q3, q4, q5⟩ := t3.facts
        rw [HK.out] at hown hc3 ⊢
        have HB3 := Lib.hid (HB2.out.trans (hb3.mono HB2.out.size))
        have HO := Lib.hid hown
        have HC3 := Lib.hid hc3
        have HM3 := Lib.hid hm3
        have Z3 := Lib.hid z3
        have T3 := Lib.hid t3
        have hne : w.heap.size ≠ W0.heap.size := by have := HSZ.out; omega
        have z4 := Blk.set (i := 0) (v := .slice A3 n c3) z3 hne
        have t4 := Blk.set0 (v0 := .slice A3 n c3) t3
        obtain ⟨r0, r1, r2, r3, r4, r5⟩ := z4.facts
        obtain ⟨s0, s1, s2, s3, s4, s5⟩ := t4.facts
        have Z4 := Lib.hid z4
        have HNE := Lib.hid hne
        clear hown hc3 hm3 hb3 z3 t3 z4 t4 hne
        go_wp2_with fail
        have hb4 := (((HB3.out.setCell (p := ⟨W0.heap.size, 0, none⟩) (by show w.heap.size ≤ W0.heap.size; have := HSZ.out; omega) (.slice A3 n c3)).setCell (p := ⟨w.heap.size, 0, none⟩) (Nat.le_refl _) (.slice A3 n c3)).setCell (p := ⟨w.heap.size, 1, none⟩) (Nat.le_refl _) (.int .u64 ((y : Int) / 256))).setCell (p := ⟨w.heap.size, 2, none⟩) (Nat.le_refl _) (.int .i64 ((y : Int) % 256))
        have zb := ((Z4.out.set0 (v0 := .slice A3 n c3)).set1 (v1 := .int .u64 ((y : Int) / 256))).set2 (v2 := .int .i64 ((y : Int) % 256))
        have hl1 : w.heap.size < W2.heap.size := by have := HSZ.out; have := HZ2.out; omega
        have ho4 := ownsRow_setCell_below (ownsRow_setCell_below (ownsRow_setCell_below (ownsRow_setCell_below HO.out (a := ⟨W0.heap.size, 0, none⟩) HZ2.out (.slice A3 n c3)) (a := ⟨w.heap.size, 0, none⟩) hl1 (.slice A3 n c3)) (a := ⟨w.heap.size, 1, none⟩) hl1 (.int .u64 ((y : Int) / 256))) (a := ⟨w.heap.size, 2, none⟩) hl1 (.int .i64 ((y : Int) % 256))
        generalize (((W3.setCell ⟨W0.heap.size, 0, none⟩ (.slice A3 n c3)).setCell ⟨w.heap.size, 0, none⟩ (.slice A3 n c3)).setCell ⟨w.heap.size, 1, none⟩ (.int .u64 ((y : Int) / 256))).setCell ⟨w.heap.size, 2, none⟩ (.int .i64 ((y : Int) % 256)) = W4 at hb4 zb ho4 ⊢
        refine bodyPost_ret (results_blk rfl _ _ _ _ _ _ rfl zb) rfl ?_
        have hln := Lies.of_own ho4
        have hlf : LiesP W4 (Sk.Fresh w.heap.size W4) A3 ((bs.take n).map vb) := (LiesP.of_own ho4).later (fun _ _ => rfl) fun k hk => ⟨Nat.le_trans HB2.out.size hk.1, hk.2⟩
        clear zb ho4
        exact told_okF HK.out (by omega) (by omega) ho hb4 HC3.out HM3.out H8.out HY2.out hln hlf
      · have ho' : okR bs = false := by simpa using ho
        rw [ho']
        go_wp2_with fail
        have hb3 := ((HB2.out.setCell (p := ⟨w.heap.size, 0, none⟩) (Nat.le_refl _) (.slice none 0 0)).setCell (p := ⟨w.heap.size, 1, none⟩) (Nat.le_refl _) (.int .u64 0)).setCell (p := ⟨w.heap.size, 2, none⟩) (Nat.le_refl _) (.int .i64 0)
        have zb := ((Z2.out.set0 (v0 := .slice none 0 0)).set1 (v1 := .int .u64 0)).set2 (v2 := .int .i64 0)
        generalize ((W2.setCell ⟨w.heap.size, 0, none⟩ (.slice none 0 0)).setCell ⟨w.heap.size, 1, none⟩ (.int .u64 0)).setCell ⟨w.heap.size, 2, none⟩ (.int .i64 0) = W3 at hb3 zb ⊢
        refine bodyPost_ret (results_blk rfl _ _ _ _ _ _ rfl zb) rfl ?_
        exact told_badF (by omega) ho' hb3

theorem read_allF (A : Option Addr) (c : Nat) (bs : List Nat) (w : World) (hl : Lies w w.heap.size A (bs.map vb)) (hc : bs.length ≤ c) (hm : c ≤ maxLen) (hb : ∀ x, x ∈ bs → x < 256) (hsmall : bs.length ≤ 140737488354000) :
    Calls Try.prog 80 #[.slice A bs.length c] w (ToldF w bs) := by
  by_cases h : bs.length < 9
  · exact read_shortF A c bs w h
  · exact read_anyF A c bs w hl hc hm hb (by omega) hsmall
end Go.Proofs.Ytaopbgildkjpcaa.Ik
