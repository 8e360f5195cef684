/- Package block: what readRestarts, readEntries, read, Open and Build answer. -/
import Derived.Test.YtobjiamdljjkjaaOlay
import Derived.Test.YtobjiamdljjkjaaBrk
import Derived.Test.YtobjiamdljjkjaaGet
import Derived.Deep.DeepCutAuto
import Derived.Test.YtobjiamdljjkjaaBac
import Derived.Test.YtobjiamdljjkjaaOint
import Derived.Deep.QuietTactic
import Derived.BigQuiet
import Derived.Test.YtobjiamdljjkjaaBbld2
/- Package block: what readRestarts answers. -/
namespace Go.Proofs.Ytobjiamdljjkjaa.Bk
set_option linter.unusedVariables false
set_option linter.unusedSimpArgs false
open Go.RowKit Lift Ik Sk Vn
theorem make_nums (n : Nat) (hn : n ≤ 1000000000) (W : World) : Sem.run Try.prog (Instr.makeSlice 41 (.int .u32 (n : Int)) (.int .u32 (n : Int))) W = .ok (.slice (some ⟨W.heap.size, 0, none⟩) n n) (W.alloc (.cells (madeCells #[.int .i64 0] n) 3)) := by
  obtain ⟨i, hi, hz, hs, hb⟩ := info_parts (P := Try.prog) (e := 3) (z := .int .i64 0) (size := 1) (bytes := 8) (by kernel_rfl)
  have h := run_make (P := Try.prog) W 41 3 i (.int .i64 0) Try.underlying41 hi hz .u32 .u32 (n : Int) (n : Int) (by omega) (by omega) (by rw [hb]; omega) (by omega)
  rw [hs, Nat.mul_one] at h
  exact h
/-- What readRestarts answers to a block without its sum. -/
def Rres (w : World) (bs : List Nat) (A : Option Addr) (c : Nat) (e : Ending) (w' : World) : Prop :=
  Below w.heap.size w w' ∧ (((bs.length - 8) / 4 < cnt bs ∧ e = .returned (.tuple #[.slice none 0 0, .slice none 0 0, .bool false])) ∨
    (cnt bs ≤ (bs.length - 8) / 4 ∧ ∃ (Ar : Option Addr), e = .returned (.tuple #[.slice A (front bs).length c, .slice Ar (rest bs).length (rest bs).length, .bool true]) ∧
      w'.ownsRow w.heap.size 3 1 (.slice Ar (rest bs).length (rest bs).length) (rest bs).length ((rest bs).map vn)))
set_option maxRecDepth 1000000 in
set_option maxHeartbeats 3200000 in
theorem orest_any (A : Option Addr) (c : Nat) (bs : List Nat) (w : World) (hl : Lies w w.heap.size A (bs.map vb)) (h8l : 8 ≤ bs.length) (hc : bs.length ≤ c) (hm : c ≤ maxLen) (hs : bs.length ≤ 50000000) (h8 : ∀ x, x ∈ bs → x < 256) :
    Calls Try.prog 69 #[.slice A (bs.length - 4) c] w (Rres w bs A c) := by
  obtain ⟨m, hmm⟩ : ∃ m, bs.length = m + 8 := ⟨bs.length - 8, by omega⟩
  have HL := Lib.hid hl
  have H8 := Lib.hid h8
  have HM := Lib.hid hm
  have HMM := Lib.hid hmm
  have hC1 := ocut_any A c (m + 4) 4 w (by omega) (by omega) hm
  have e4 : bs.length - 4 = m + 4 := by omega
  have hcm : m + 8 ≤ c := by omega
  have hm5 : m ≤ 50000000 := by omega
  have hcs := hm
  unfold maxLen at hcs
  rw [e4]
  have HC1 := Lib.hid hC1
  have HE8 : Hid (bs.length - 8 = m) := Lib.hid (by omega)
  clear hl h8 hm hmm hC1 e4 hc h8l hs
  go_enter Try.func69, Try.ntmps69
  go_wp2_with fail
  refine HC1.out.mono ?_
  rintro e w1 ⟨A1, q, hA1, rfl, rfl⟩
  have hb1 := Joins.below_draws w.heap.size w q
  have l4 : ((bs.drop m).take 4).length = 4 := by rw [List.length_take, List.length_drop]; have := HMM.out; omega
  have hN : Calls Try.prog 68 #[.slice A1 4 (c - m)] (w.drewN q) fun e w' => e = .returned (.int .u32 (cnt bs : Nat)) ∧ w.drewN q = w' := by
    have h := onumber_any A1 (c - m) w.heap.size ((bs.drop m).take 4) (w.drewN q) (Lies.cut (HL.out.below hb1) (fun _ => hA1 (by omega)) (List.take_prefix _ _)) (by omega) (by omega) (by have := HM.out; unfold maxLen at this ⊢; omega) (fun x hx => H8.out x (List.mem_of_mem_drop (List.mem_of_mem_take hx)))
    rw [l4] at h
    have e : cnt bs = num ((bs.drop m).take 4) := by unfold cnt; rw [HE8.out]
    rw [e]
    exact h
  have hcn : cnt bs < 4294967296 := by
    have := num_lt ((bs.drop m).take 4) fun x hx => H8.out x (List.mem_of_mem_drop (List.mem_of_mem_take hx))
    rw [l4] at this
    unfold cnt
    rw [HE8.out]
    exact this
  have HN := Lib.hid hN
  have HW1 := Lib.hid hb1
  have HB1 : Hid (Below w.heap.size w (w.drewN q)) := Lib.hid hb1
  have HSZ : Hid ((w.drewN q).heap.size = w.heap.size) := Lib.hid rfl
  have e40 : m + 4 - 4 = m := by omega
  rw [e40]
  clear hb1 hN l4 hA1 HC1 e40
  generalize w.drewN q = W1 at *
  obtain ⟨n, hn⟩ : ∃ n, n = cnt bs := ⟨_, rfl⟩
  rw [← hn] at HN hcn
  have HNC := Lib.hid hn
  clear hn
  have hq4 : Int.tdiv (m : Int) 4 = ((m / 4 : Nat) : Int) := by
    rw [Int.tdiv_eq_ediv_of_nonneg (by omega)]
    omega
  go_wp2_with fail
  refine HN.out.mono ?_
  rintro e w' ⟨rfl, rfl⟩
  by_cases hbig : m / 4 < n
  · have d1 : decide (m / 4 < n) = true := decide_eq_true hbig
    have d2 : ((m / 4 : Nat) : Int) < (n : Int) := by omega
    have d3 : (m : Int) / 4 < (n : Int) := by omega
    clear hq4
    go_wp2_with fail
    go_returns
    exact ⟨HB1.out, .inl ⟨by rw [← HNC.out, HE8.out]; exact hbig, rfl⟩⟩
  · have d1 : decide (m / 4 < n) = false := decide_eq_false hbig
    have d2 : decide (((m / 4 : Nat) : Int) < (n : Int)) = false := decide_eq_false (by omega)
    have d3 : decide ((m : Int) / 4 < (n : Int)) = false := decide_eq_false (by omega)
    have hnm : 4 * n ≤ m := by omega
    have HC2 := Lib.hid (ocut_any A c m (4 * n) W1 hnm (by omega) HM.out)
    rw [show ((4 * n : Nat) : Int) = (n : Int) * 4 by omega] at HC2
    clear hq4
    go_wp2_with fail
    refine HC2.out.mono ?_
    rintro e w2 ⟨A2, q2, hA2, rfl, rfl⟩
    have HB2 := Lib.hid (HB1.out.trans (Joins.below_draws w.heap.size W1 q2))
    have HS2 : Hid ((W1.drewN q2).heap.size = w.heap.size) := Lib.hid HSZ.out
    have HA2 := Lib.hid hA2
    have HFL : Hid ((front bs).length = m - 4 * n) := Lib.hid (by unfold front; rw [← HNC.out, HE8.out, List.length_take]; have := HMM.out; omega)
    have HRL : Hid ((rest bs).length = n) := Lib.hid (by unfold rest; rw [List.length_map, List.length_range, HNC.out])
    have HMK := Lib.hid (make_nums n (by omega))
    have hmk := HMK.out
    clear hA2 HC2 HN
    generalize W1.drewN q2 = W2 at *
    go_upto_region 7 with fail
    have HF0 : Hid (Filled (W2.alloc (.cells (madeCells #[.int .i64 0] n) 3)) w.heap.size n 0 3 ((rest bs).map vn)) := Lib.hid (by have := Filled.start W2 (.int .i64 0) n 3 ((rest bs).map vn); rwa [HS2.out] at this)
    have HB3 : Hid (Below w.heap.size w (W2.alloc (.cells (madeCells #[.int .i64 0] n) 3))) := Lib.hid (HB2.out.trans ((Joins.below_alloc1 W2 _).mono HB2.out.size))
    rw [HS2.out]
    generalize W2.alloc (.cells (madeCells #[.int .i64 0] n) 3) = W3 at *
    clear hmk
    go_wp2_with fail
    go_loopw [37] (fun i wr => ∃ k : Nat, k ≤ n ∧ i = .int .i64 (k : Int) ∧ Hid (Filled wr w.heap.size n k 3 ((rest bs).map vn)) ∧ Hid (Below w.heap.size w wr)) (fun i _ => n + 1 - (intOf i).toNat)
    case atStart => exact ⟨0, by omega, rfl, HF0, HB3⟩
    case round =>
      obtain ⟨k, hk, rfl, hf, hb⟩ := hrel
      by_cases hlt : k < n
      · obtain ⟨A3, hA3, -, hcut⟩ := cut_from A2 (4 * n) (c - (m - 4 * n)) (4 * k) (by omega) (by omega) (Nat.le_trans (Nat.sub_le _ _) HM.out)
        have hcut4 := cut_to A3 (4 * n - 4 * k) (c - (m - 4 * n) - 4 * k) 4 (by omega) (by omega) (Nat.le_trans (Nat.sub_le _ _) (Nat.le_trans (Nat.sub_le _ _) HM.out))
        rw [show ((4 * k : Nat) : Int) = (k : Int) * 4 by omega] at hcut
        obtain ⟨x, hx⟩ : ∃ x, x = num ((bs.drop (m - 4 * (n - k))).take 4) := ⟨_, rfl⟩
        have l4 : ((bs.drop (m - 4 * (n - k))).take 4).length = 4 := by rw [List.length_take, List.length_drop]; have := HMM.out; omega
        have hx32 : x < 4294967296 := by
          have := num_lt ((bs.drop (m - 4 * (n - k))).take 4) fun y hy => H8.out y (List.mem_of_mem_drop (List.mem_of_mem_take hy))
          rw [l4] at this
          rw [hx]
          exact this
        have HNU : Hid (Calls Try.prog 68 #[.slice A3 4 (c - (m - 4 * n) - 4 * k)] wr fun e w' => e = .returned (.int .u32 (x : Nat)) ∧ wr = w') := Lib.hid (by
          have hl1 : Lies wr w.heap.size A2 (((bs.drop (m - 4 * n)).take (4 * n)).map vb) := Lies.cut (HL.out.below hb.out) (fun _ => HA2.out (by omega)) (List.take_prefix _ _)
          have hl2 : Lies wr w.heap.size A3 (((bs.drop (m - 4 * (n - k))).take 4).map vb) := Lies.cut hl1 (fun _ => hA3 (by omega)) (by
            rw [List.drop_take, List.drop_drop, show m - 4 * n + 4 * k = m - 4 * (n - k) by omega]
            exact List.take_prefix_take_left (by omega))
          have h := onumber_any A3 (c - (m - 4 * n) - 4 * k) w.heap.size ((bs.drop (m - 4 * (n - k))).take 4) wr hl2 (by omega) (by omega) (Nat.le_trans (Nat.sub_le _ _) (Nat.le_trans (Nat.sub_le _ _) HM.out)) (fun y hy => H8.out y (List.mem_of_mem_drop (List.mem_of_mem_take hy)))
          rw [l4, ← hx] at h
          exact h)
        have HXR : Hid (((rest bs).map vn)[k]? = some (.int .i64 (x : Int))) := Lib.hid (by
          unfold rest
          rw [List.map_map, List.getElem?_map, ← HNC.out, List.getElem?_range hlt, HE8.out, hx]
          rfl)
        obtain ⟨u, hcell⟩ := hf.out.cell hlt
        have hfree := hf.out.free k
        have HF2 := Lib.hid (hf.out.next hlt HXR.out)
        have HB4 : Hid (Below w.heap.size w (wr.setCell ⟨w.heap.size, k, none⟩ (.int .i64 (x : Int)))) := Lib.hid (hb.out.setCell (Nat.le_refl _) _)
        have hkc : (4 : Nat) ≤ 4 * n - 4 * k := by omega
        clear hx l4 hA3
        go_wp2_with fail
        refine HNU.out.mono ?_
        rintro e w' ⟨rfl, rfl⟩
        go_wp2_with fail
        go_roundw
        case rel => exact ⟨k + 1, by omega, by go_num, HF2, HB4⟩
        case measure => simp [intOf]; omega
      · obtain rfl : k = n := by omega
        have HO := Lib.hid (hf.out.own (B := w.heap.size) (Nat.le_refl _) (by rw [List.length_map, HRL.out]) (by unfold maxLen; omega))
        go_wp2_with fail
        go_returns
        refine ⟨hb.out, .inr ⟨by rw [HE8.out, ← HNC.out]; omega, some ⟨w.heap.size, 0, none⟩, ?_, ?_⟩⟩
        · rw [HRL.out, HFL.out]; rfl
        · rw [HRL.out]; exact HO.out
end Go.Proofs.Ytobjiamdljjkjaa.Bk

/- What package ikey's Read answers: the key lies in new memory. -/
namespace Go.Proofs.Ytobjiamdljjkjaa.Ik
set_option linter.unusedVariables false
set_option linter.unusedSimpArgs false
open Go.RowKit Lift
theorem read_shortF (A : Option Addr) (c : Nat) (bs : List Nat) (w : World) (h : bs.length < 9) :
    Calls Try.prog 118 #[.slice A bs.length c] w (ToldF w bs) := by
  go_enter Try.func118, Try.ntmps118
  go_wp2_with fail
  go_returns
  exact told_shortF h (Joins.below_alloc1 _ _)
set_option maxRecDepth 100000 in
set_option maxHeartbeats 400000 in
theorem read_anyF (A : Option Addr) (c : Nat) (bs : List Nat) (w : World) (hl : Lies w w.heap.size A (bs.map vb)) (hc : bs.length ≤ c) (hm : c ≤ maxLen) (hb : ∀ x, x ∈ bs → x < 256) (h : 9 ≤ bs.length) (hsmall : bs.length ≤ 140737488354000) :
    Calls Try.prog 118 #[.slice A bs.length c] w (ToldF w bs) := by
  unfold maxLen at hm
  have HL := Lib.hid hl
  have H8 := Lib.hid hb
  clear hl hb
  obtain ⟨n, hn⟩ : ∃ n, bs.length = n + 8 := ⟨bs.length - 8, by omega⟩
  obtain ⟨ad, rfl, _, hcell⟩ := HL.out.place (by simp; omega)
  have HC := Lib.hid (cells_at hcell)
  have en : ((bs.length : Int) - 8) = (n : Int) := by omega
  clear hcell
  go_enter Try.func118, Try.ntmps118
  go_wp2_with fail
  have hb0 := Joins.below_alloc1 w (.cells #[.slice none 0 0, .int .u64 0, .int .i64 0] 38)
  have z0 := Blk.new w (.slice none 0 0) (.int .u64 0) (.int .i64 0)
  have hsz : (w.alloc (.cells #[.slice none 0 0, .int .u64 0, .int .i64 0] 38)).heap.size = w.heap.size + 1 := by simp
  generalize w.alloc (.cells #[.slice none 0 0, .int .u64 0, .int .i64 0] 38) = W0 at hb0 z0 hsz ⊢
  have HL0 := Lib.hid (HL.out.below hb0)
  obtain ⟨_, hA, _, hcell⟩ := HL0.out.place (by simp; omega)
  cases hA
  have HC := Lib.hid (cells_at hcell)
  have HB0 := Lib.hid hb0
  have Z0 := Lib.hid z0
  have HSZ := Lib.hid hsz
  clear hcell hb0 z0 hsz
  go_loop [5, 20] (fun x i => ∃ j y : Nat, j ≤ 8 ∧ i = .int .i64 j ∧ x = .int .u64 y ∧ Hid (y = num ((bs.drop n).take j)) ∧ Hid (y < 256 ^ j)) (fun _ i => 10 - (intOf i).toNat)
  case atStart => exact ⟨0, 0, by omega, rfl, rfl, Lib.hid rfl, Lib.hid (by decide)⟩
  case round =>
    obtain ⟨j, y, hj, rfl, rfl, hy, hlt8⟩ := hrel
    by_cases hlt : j < 8
    · obtain ⟨d, hd⟩ : ∃ d : Nat, bs[n + j]? = some d := ⟨_, List.getElem?_eq_getElem (by omega)⟩
      have d8 := H8.out d (List.mem_of_getElem? hd)
      have h1 : W0.cell? ((ad.add n).add j) = some (.int .u8 (d : Int)) := by rw [add_add]; exact HC.out _ _ hd
      have e := or_step y d j hlt hlt8.out d8
      have HD := Lib.hid hd
      clear hd
      go_wp2_with fail
      go_round
      case rel => exact ⟨j + 1, y + d * 256 ^ j, by omega, by go_num, by go_num, Lib.hid (num_step HD.out hy.out), Lib.hid (pow_step hlt8.out d8)⟩
      case measure => simp [intOf]; omega
    · obtain rfl : j = 8 := by omega
      have hy2 : y = num (bs.drop n) := by rw [hy.out, List.take_of_length_le (by simp; omega)]
      have hy3 : y < 18446744073709551616 := by have := hlt8.out; omega
      have hok : okB n (y / 256) ((y : Int) % 256) = okR bs := by
        unfold okR rawK
        simp only
        rw [show bs.length - 8 = n by omega, ← hy2, List.length_take, Nat.min_eq_left (by omega)]
        rfl
      have hr := fun W => right_any (some ad) c n (y / 256) ((y : Int) % 256) W
      rw [hok, show ((y / 256 : Nat) : Int) = (y : Int) / 256 by omega] at hr
      have HR := Lib.hid hr
      have HY2 := Lib.hid hy2
      clear hy hy2 hlt8 hok hr
      go_wp2_with fail
      have hb1 := Joins.below_alloc1 W0 (.cells #[.slice (some ad) n c, .int .u64 ((y : Int) / 256), .int .i64 ((y : Int) % 256)] 38)
      have z1 := Z0.out.later hb1 (by have := HSZ.out; omega)
      have t1 := Blk.new W0 (.slice (some ad) n c) (.int .u64 ((y : Int) / 256)) (.int .i64 ((y : Int) % 256))
      have hsz1 : (W0.alloc (.cells #[.slice (some ad) n c, .int .u64 ((y : Int) / 256), .int .i64 ((y : Int) % 256)] 38)).heap.size = W0.heap.size + 1 := by simp
      refine (HR.out _).mono ?_
      rintro e W2 ⟨rfl, hb2⟩
      have z2 := z1.later hb2 (by have := HSZ.out; omega)
      have t2 := t1.later hb2 (by omega)
      have HB2 := Lib.hid (HB0.out.trans ((hb1.trans (hb2.mono hb1.size)).mono HB0.out.size))
      have HZ2 : Hid (W0.heap.size < W2.heap.size) := Lib.hid (by have := hb2.size; omega)
      clear hb1 hb2 z1 t1 hsz1
      have Z2 := Lib.hid z2
      have T2 := Lib.hid t2
      obtain ⟨p0, p1, p2, p3, p4, p5⟩ := z2.facts
      obtain ⟨q0, q1, q2, q3, q4, q5⟩ := t2.facts
      clear z2 t2
      by_cases ho : okR bs = true
      · rw [ho]
        have hk : (bs.take n).length = n := by rw [List.length_take]; omega
        have hcl := clone_any ad c (bs.take n) W2 ((((HL.out.below HB2.out).up HB2.out.size).front (by rw [List.map_take]; exact List.take_prefix _ _))) (by have := hsmall; omega)
        rw [hk] at hcl
        have HCL := Lib.hid hcl
        have HK := Lib.hid hk
        clear hk hcl
        go_wp2_with fail
        refine HCL.out.mono ?_
        rintro e W3 ⟨v, rfl, hown, hb3⟩
        obtain ⟨A3, c3, rfl, hc3, hm3, _⟩ := own_parts hown
        have z3 := Z2.out.later hb3 (by have := HSZ.out; have := HZ2.out; omega)
        have t3 := T2.out.later hb3 HZ2.out
        obtain ⟨p0, p1, p2, p3, p4, p5⟩ := z3.facts
        obtain ⟨q0, q1, q2, q3, q4, q5⟩ := t3.facts
        rw [HK.out] at hown hc3 ⊢
        have HB3 := Lib.hid (HB2.out.trans (hb3.mono HB2.out.size))
        have HO := Lib.hid hown
        have HC3 := Lib.hid hc3
        have HM3 := Lib.hid hm3
        have Z3 := Lib.hid z3
        have T3 := Lib.hid t3
        have hne : w.heap.size ≠ W0.heap.size := by have := HSZ.out; omega
        have z4 := Blk.set (i := 0) (v := .slice A3 n c3) z3 hne
        have t4 := Blk.set0 (v0 := .slice A3 n c3) t3
        obtain ⟨r0, r1, r2, r3, r4, r5⟩ := z4.facts
        obtain ⟨s0, s1, s2, s3, s4, s5⟩ := t4.facts
        have Z4 := Lib.hid z4
        have HNE := Lib.hid hne
        clear hown hc3 hm3 hb3 z3 t3 z4 t4 hne
        go_wp2_with fail
        have hb4 := (((HB3.out.setCell (p := ⟨W0.heap.size, 0, none⟩) (by show w.heap.size ≤ W0.heap.size; have := HSZ.out; omega) (.slice A3 n c3)).setCell (p := ⟨w.heap.size, 0, none⟩) (Nat.le_refl _) (.slice A3 n c3)).setCell (p := ⟨w.heap.size, 1, none⟩) (Nat.le_refl _) (.int .u64 ((y : Int) / 256))).setCell (p := ⟨w.heap.size, 2, none⟩) (Nat.le_refl _) (.int .i64 ((y : Int) % 256))
        have zb := ((Z4.out.set0 (v0 := .slice A3 n c3)).set1 (v1 := .int .u64 ((y : Int) / 256))).set2 (v2 := .int .i64 ((y : Int) % 256))
        have hl1 : w.heap.size < W2.heap.size := by have := HSZ.out; have := HZ2.out; omega
        have ho4 := ownsRow_setCell_below (ownsRow_setCell_below (ownsRow_setCell_below (ownsRow_setCell_below HO.out (a := ⟨W0.heap.size, 0, none⟩) HZ2.out (.slice A3 n c3)) (a := ⟨w.heap.size, 0, none⟩) hl1 (.slice A3 n c3)) (a := ⟨w.heap.size, 1, none⟩) hl1 (.int .u64 ((y : Int) / 256))) (a := ⟨w.heap.size, 2, none⟩) hl1 (.int .i64 ((y : Int) % 256))
        generalize (((W3.setCell ⟨W0.heap.size, 0, none⟩ (.slice A3 n c3)).setCell ⟨w.heap.size, 0, none⟩ (.slice A3 n c3)).setCell ⟨w.heap.size, 1, none⟩ (.int .u64 ((y : Int) / 256))).setCell ⟨w.heap.size, 2, none⟩ (.int .i64 ((y : Int) % 256)) = W4 at hb4 zb ho4 ⊢
        refine bodyPost_ret (results_blk rfl _ _ _ _ _ _ rfl zb) rfl ?_
        have hln := Lies.of_own ho4
        have hlf : LiesP W4 (Sk.Fresh w.heap.size W4) A3 ((bs.take n).map vb) := (LiesP.of_own ho4).later (fun _ _ => rfl) fun k hk => ⟨Nat.le_trans HB2.out.size hk.1, hk.2⟩
        clear zb ho4
        exact told_okF HK.out (by omega) (by omega) ho hb4 HC3.out HM3.out H8.out HY2.out hln hlf
      · have ho' : okR bs = false := by simpa using ho
        rw [ho']
        go_wp2_with fail
        have hb3 := ((HB2.out.setCell (p := ⟨w.heap.size, 0, none⟩) (Nat.le_refl _) (.slice none 0 0)).setCell (p := ⟨w.heap.size, 1, none⟩) (Nat.le_refl _) (.int .u64 0)).setCell (p := ⟨w.heap.size, 2, none⟩) (Nat.le_refl _) (.int .i64 0)
        have zb := ((Z2.out.set0 (v0 := .slice none 0 0)).set1 (v1 := .int .u64 0)).set2 (v2 := .int .i64 0)
        generalize ((W2.setCell ⟨w.heap.size, 0, none⟩ (.slice none 0 0)).setCell ⟨w.heap.size, 1, none⟩ (.int .u64 0)).setCell ⟨w.heap.size, 2, none⟩ (.int .i64 0) = W3 at hb3 zb ⊢
        refine bodyPost_ret (results_blk rfl _ _ _ _ _ _ rfl zb) rfl ?_
        exact told_badF (by omega) ho' hb3

theorem read_allF (A : Option Addr) (c : Nat) (bs : List Nat) (w : World) (hl : Lies w w.heap.size A (bs.map vb)) (hc : bs.length ≤ c) (hm : c ≤ maxLen) (hb : ∀ x, x ∈ bs → x < 256) (hsmall : bs.length ≤ 140737488354000) :
    Calls Try.prog 118 #[.slice A bs.length c] w (ToldF w bs) := by
  by_cases h : bs.length < 9
  · exact read_shortF A c bs w h
  · exact read_anyF A c bs w hl hc hm hb (by omega) hsmall
end Go.Proofs.Ytobjiamdljjkjaa.Ik

/- Package block: a reader of packed entries: what take and next answer. -/
namespace Go.Proofs.Ytobjiamdljjkjaa.Bk
set_option linter.unusedVariables false
set_option linter.unusedSimpArgs false
open Go.RowKit Lift Ik Sk Vn
open Vt (res)
theorem dec_len : ∀ (l : List Nat) (i y : Nat), (dec l i y).2.2 = 0 → i + 1 ≤ (dec l i y).2.1 ∧ (dec l i y).2.1 ≤ i + l.length := by
  intro l
  induction l with
  | nil => intro i y h; simp [dec] at h
  | cons c l ih =>
    intro i y h
    simp only [dec] at h ⊢
    split
    · rename_i h1
      rw [if_pos h1] at h
      cases h
    · rename_i h1
      rw [if_neg h1] at h
      split
      · simp
      · rename_i h2
        rw [if_neg h2] at h
        have := ih _ _ h
        simp
        omega

theorem res_ok {bs : List Nat} {p c a : Nat} (h : res bs (p : Nat) = (c, a, 0)) : c < 18446744073709551616 ∧ p < a ∧ a ≤ bs.length := by
  unfold Vt.res at h
  by_cases h1 : ((p : Nat) : Int) < 0 ∨ (bs.length : Int) < ((p : Nat) : Int)
  · rw [if_pos h1] at h
    injection h with _ h
    injection h with _ h
    cases h
  · rw [if_neg h1, Int.toNat_natCast] at h
    injection h with hc h
    injection h with ha he
    rw [if_pos he] at ha
    have h2 := dec_len (bs.drop p) 0 0 he
    have h3 : (decAt bs p).2.1 = (dec (bs.drop p) 0 0).2.1 := rfl
    rw [List.length_drop] at h2
    refine ⟨by rw [← hc]; exact dec_lt _ 0 0 (by omega) (by simp), by omega, by omega⟩
section
variable {bs last : List Nat} {p c a n d v q f : Nat}
theorem step_a (h : (res bs p).2.2 ≠ 0 ∨ last.length < (res bs p).1) : step bs p last = none := by unfold step; rw [if_pos h]
theorem step_b (r1 : res bs p = (c, a, 0)) (hc : ¬ last.length < c) (h : (res bs (a : Nat)).2.2 ≠ 0) : step bs p last = none := by
  unfold step
  rw [r1]
  simp only
  rw [if_neg (by simpa using hc), if_pos h]
theorem step_c (r1 : res bs p = (c, a, 0)) (hc : ¬ last.length < c) (r2 : res bs (a : Nat) = (n, d, 0)) (h : (res bs (d : Nat)).2.2 ≠ 0 ∨ bs.length - (res bs (d : Nat)).2.1 < n ∨ bs.length - (res bs (d : Nat)).2.1 - n < (res bs (d : Nat)).1) : step bs p last = none := by
  unfold step
  rw [r1]
  simp only
  rw [if_neg (by simpa using hc), r2]
  simp only
  rw [if_neg (by simp), if_pos h]
theorem step_d (r1 : res bs p = (c, a, 0)) (hc : ¬ last.length < c) (r2 : res bs (a : Nat) = (n, d, 0)) (r3 : res bs (d : Nat) = (v, q, 0)) (h1 : ¬ bs.length - q < n) (h2 : ¬ bs.length - q - n < v) :
    step bs p last = if resE (last.take c ++ (bs.drop q).take n) ≠ 0 then none else some (⟨resK (last.take c ++ (bs.drop q).take n), (bs.drop (q + n)).take v⟩, last.take c ++ (bs.drop q).take n, q + n + v) := by
  unfold step
  rw [r1]
  simp only
  rw [if_neg (by simpa using hc), r2]
  simp only
  rw [if_neg (by simp), r3]
  simp only
  rw [if_neg (by omega)]
theorem loose_end (h : bs.length ≤ p) : loose bs (f + 1) p last = some [] := by unfold loose; rw [if_pos h]
theorem loose_no (h : p < bs.length) (hs : step bs p last = none) : loose bs (f + 1) p last = none := by unfold loose; rw [if_neg (by omega), hs]
theorem loose_one {t : T} {kb : List Nat} (h : p < bs.length) (hs : step bs p last = some (t, kb, q)) : loose bs (f + 1) p last = (loose bs f q kb).map (t :: ·) := by
  have e : loose bs (f + 1) p last = (if bs.length ≤ p then some [] else match step bs p last with
    | none => none
    | some (t, kb, qq) => (loose bs f qq kb).map (t :: ·)) := rfl
  rw [e, if_neg (by omega), hs]
end
theorem cut_to64 (A : Option Addr) (n c k : Nat) (h : k ≤ c) (hc : n ≤ c) (hm : c ≤ maxLen) (W : World) : Sem.run Try.prog (Instr.slice 25 (.slice A n c) none (some (.int .u64 (k : Int))) none) W = .ok (.slice A k c) W := by
  unfold maxLen at hm
  go_simp

/-- A reader's cells. -/
abbrev rcells (A : Option Addr) (n c p : Nat) (K : Value) : List Value := [.slice A n c, .int .i64 (p : Int), K]
/-- What take answers. -/
def Took (w : World) (g : Nat) (A : Option Addr) (bs : List Nat) (c p : Nat) (K : Value) (n : Nat) (e : Ending) (w' : World) : Prop :=
  (bs.length - p < n ∧ e = .returned (.tuple #[.slice none 0 0, .bool false]) ∧ ∃ q, w' = w.drewN q) ∨
  (n ≤ bs.length - p ∧ ∃ A' : Option Addr, (0 < n → A' = A.map (·.add p)) ∧ A'.isSome = A.isSome ∧ e = .returned (.tuple #[.slice A' n (c - p), .bool true]) ∧ Keep (· = g) w w' ∧ Lift.Box w' g 134 (rcells A bs.length c (p + n) K))
set_option maxRecDepth 100000 in
set_option maxHeartbeats 800000 in
theorem otake_any (g c p n : Nat) (A : Option Addr) (K : Value) (bs : List Nat) (w : World) (hx : Lift.Box w g 134 (rcells A bs.length c p K)) (hp : p ≤ bs.length) (hc : bs.length ≤ c) (hm : c ≤ maxLen) (hs : bs.length ≤ 100000000) (hn : n < 18446744073709551616) :
    Calls Try.prog 117 #[.pointer (some ⟨g, 0, none⟩), .int .u64 (n : Int)] w (Took w g A bs c p K n) := by
  have HX := Lib.hid hx
  obtain ⟨x0, x1, x2, f0, f1, f2⟩ := hx.facts3
  obtain ⟨A', hA, hsome, hcut⟩ := cut_from A bs.length c p hp hc hm
  obtain ⟨m, hmm⟩ : ∃ m, bs.length - p = m := ⟨_, rfl⟩
  have hmp : m + p = bs.length := by omega
  have hmc : m ≤ c - p := by omega
  have hcm : c - p ≤ maxLen := Nat.le_trans (Nat.sub_le _ _) hm
  have hm1 := hm
  unfold maxLen at hm1
  have HA := Lib.hid hA
  have HSO := Lib.hid hsome
  unfold Took
  rw [hmm] at hcut ⊢
  clear hx hA hsome
  have HMP := Lib.hid hmp
  by_cases h : n ≤ m
  · have hcut2 := cut_to64 A' m (c - p) n (by omega) hmc hcm
    have d1 : decide (m < n) = false := decide_eq_false (by omega)
    have d2 : decide ((m : Int) < (n : Int)) = false := decide_eq_false (by omega)
    have hn1 : n ≤ 100000000 := by omega
    have hp1 : p ≤ 100000000 := by omega
    clear hmm hmp
    go_enter Try.func117, Try.ntmps117
    go_wp2_with fail
    go_quiet (fail)
    go_wp2_with fail
    have hbd := Joins.below_draws w.heap.size w nq
    have hk1 : Keep (· = g) w ((w.drewN nq).setCell ⟨g, 1, none⟩ (.int .i64 ((p : Int) + (n : Int)))) := Keep.setCell (S := (· = g)) (p := ⟨g, 1, none⟩) (below_keep hbd) (.inr rfl) _
    have hb1 := (HX.out.below hbd HX.out.lt).set 1 (.int .i64 ((p : Int) + (n : Int)))
    have HK1 := Lib.hid hk1
    have HB1 := Lib.hid hb1
    clear hbd hk1 hb1
    generalize (w.drewN nq).setCell ⟨g, 1, none⟩ (.int .i64 ((p : Int) + (n : Int))) = W1 at *
    go_returns
    refine .inr ⟨h, A', fun h0 => HA.out (by have := HMP.out; omega), HSO.out, rfl, HK1.out, ?_⟩
    exact HB1.out
  · have d1 : decide (m < n) = true := decide_eq_true (by omega)
    have d2 : (m : Int) < (n : Int) := by omega
    have hp1 : p ≤ 100000000 := by omega
    clear hmm hmp
    go_enter Try.func117, Try.ntmps117
    go_wp2_with fail
    go_quiet (fail)
    go_wp2_with fail
    go_returns
    exact .inl ⟨by omega, rfl, _, rfl⟩
end Go.Proofs.Ytobjiamdljjkjaa.Bk

/- Package block: a reader of packed entries: what next answers. -/
namespace Go.Proofs.Ytobjiamdljjkjaa.Bk
set_option linter.unusedVariables false
set_option linter.unusedSimpArgs false
open Go.RowKit Lift Ik Sk Vn
open Vt (res)
/-- The numbers got so far: j of them, from p on; q is the place behind them. -/
def Got (bs : List Nat) (p q a b c : Nat) : Nat → Prop
  | 0 => q = p
  | 1 => res bs (p : Nat) = (a, q, 0)
  | 2 => ∃ q1 : Nat, res bs (p : Nat) = (a, q1, 0) ∧ res bs (q1 : Nat) = (b, q, 0)
  | _ => ∃ q1 q2 : Nat, res bs (p : Nat) = (a, q1, 0) ∧ res bs (q1 : Nat) = (b, q2, 0) ∧ res bs (q2 : Nat) = (c, q, 0)
def upd (j n : Nat) (i x : Nat) : Nat := if j = i then n else x
theorem got_err {bs last : List Nat} {p q a b c j : Nat} (h : Got bs p q a b c j) (hj : j < 3) (he : (res bs (q : Nat)).2.2 ≠ 0) : step bs p last = none := by
  match j, hj with
  | 0, _ => obtain rfl : q = p := h; exact step_a (.inl he)
  | 1, _ =>
    have h : res bs (p : Nat) = (a, q, 0) := h
    by_cases hl : last.length < a
    · exact step_a (.inr (by rw [h]; exact hl))
    · exact step_b h hl he
  | 2, _ =>
    obtain ⟨q1, h1, h2⟩ := h
    by_cases hl : last.length < a
    · exact step_a (.inr (by rw [h1]; exact hl))
    · exact step_c h1 hl h2 (.inl he)
theorem got_next {bs : List Nat} {p q q' a b c j n : Nat} (h : Got bs p q a b c j) (hj : j < 3) (he : res bs (q : Nat) = (n, q', 0)) : Got bs p q' (upd j n 0 a) (upd j n 1 b) (upd j n 2 c) (j + 1) := by
  match j, hj with
  | 0, _ => obtain rfl : q = p := h; exact he
  | 1, _ => exact ⟨q, h, he⟩
  | 2, _ => obtain ⟨q1, h1, h2⟩ := h; exact ⟨q1, q, h1, h2, he⟩
theorem got_place {bs : List Nat} {p q a b c j : Nat} (h : Got bs p q a b c j) (hj : j ≤ 3) (hp : p ≤ bs.length) : p ≤ q ∧ q ≤ bs.length := by
  match j, hj with
  | 0, _ => obtain rfl : q = p := h; exact ⟨Nat.le_refl _, hp⟩
  | 1, _ =>
    have h : res bs (p : Nat) = (a, q, 0) := h
    have := res_ok h
    omega
  | 2, _ =>
    obtain ⟨q1, h1, h2⟩ := h
    have := res_ok h1
    have := res_ok h2
    omega
  | 3, _ =>
    obtain ⟨q1, q2, h1, h2, h3⟩ := h
    have := res_ok h1
    have := res_ok h2
    have := res_ok h3
    omega
theorem got_lt {bs : List Nat} {p q a b c : Nat} (h : Got bs p q a b c 3) : a < 18446744073709551616 ∧ b < 18446744073709551616 ∧ c < 18446744073709551616 ∧ p < q := by
  obtain ⟨q1, q2, h1, h2, h3⟩ := h
  have := res_ok h1
  have := res_ok h2
  have := res_ok h3
  omega
abbrev lcells (a b c : Nat) : List Value := [.int .u64 (a : Int), .int .u64 (b : Int), .int .u64 (c : Int)]
theorem lcells_set (a b c j n : Nat) (hj : j < 3) : (lcells a b c).set j (.int .u64 (n : Int)) = lcells (upd j n 0 a) (upd j n 1 b) (upd j n 2 c) := by
  match j, hj with
  | 0, _ => rfl
  | 1, _ => rfl
  | 2, _ => rfl
/-- A reader of the bytes bs at the place p. -/
structure Rdr (w : World) (g : Nat) (A : Option Addr) (c p : Nat) (bs : List Nat) (Ak : Option Addr) (ck : Nat) (last : List Nat) (base : Nat) : Prop where
  box : Lift.Box w g 134 (rcells A bs.length c p (.slice Ak last.length ck))
  log : Lies w base A (bs.map vb)
  bg : base ≤ g
  own : w.ownsRow base 5 1 (.slice Ak last.length ck) last.length (last.map vb)
  place : p ≤ bs.length
  l8 : ∀ x, x ∈ last → x < 256
/-- The blocks that next may write. -/
abbrev RS (g : Nat) (Ak : Option Addr) (n ck : Nat) (k : Nat) : Prop := k = g ∨ (Value.slice Ak n ck).ownBlock = some k
/-- New blocks of bytes, but for that of v. -/
def FK (B : Nat) (w : World) (v : Value) (k : Nat) : Prop := Fresh B w k ∧ ¬ v.ownBlock = some k
/-- What next answers. -/
def Nxt (w : World) (g : Nat) (A : Option Addr) (c p : Nat) (bs : List Nat) (Ak : Option Addr) (ck : Nat) (last : List Nat) (base : Nat) (e : Ending) (w' : World) : Prop :=
  Keep (RS g Ak last.length ck) w w' ∧ ((step bs p last = none ∧ e = .returned (.tuple #[.agg #[.slice none 0 0, .int .u64 0, .int .i64 0, .slice none 0 0], .bool false])) ∨
    ∃ (d : D) (kb : List Nat) (tn : Nat) (Ak' : Option Addr) (ck' : Nat), step bs p last = some (d.t, kb, tn) ∧ e = .returned (.tuple #[d.v, .bool true]) ∧ d.Ok w' (FK w.heap.size w' (.slice Ak' kb.length ck')) ∧ Rdr w' g A c tn bs Ak' ck' kb base ∧ p < tn ∧
      (∀ k, (Value.slice Ak' kb.length ck').ownBlock = some k → (Value.slice Ak last.length ck).ownBlock = some k ∨ w.heap.size ≤ k))
theorem own_front {w : World} {base : Nat} {A : Option Addr} {ck m : Nat} {xs : List Nat} (h : w.ownsRow base 5 1 (.slice A xs.length ck) xs.length (xs.map vb)) (hm : m ≤ xs.length) : w.ownsRow base 5 1 (.slice A m ck) (xs.take m).length ((xs.take m).map vb) := by
  have hl : (xs.take m).length = m := by rw [List.length_take]; omega
  obtain ⟨h1, h2⟩ := h
  rw [hl]
  refine ⟨by rw [List.length_map, hl, Nat.mul_one], ?_⟩
  rcases h2 with ⟨h2, h3⟩ | ⟨b, cap, cur, hv, hB, hh, r⟩
  · injection h2 with e1 e2 e3
    have : m = 0 := by omega
    subst this
    left
    subst e1
    subst e3
    exact ⟨rfl, rfl⟩
  · right
    injection hv with e1 e2 e3
    obtain ⟨r1, r2, r3, r4⟩ := r
    refine ⟨b, cap, cur, by rw [e1, e3], hB, hh, by omega, r2, r3, ?_⟩
    rw [Nat.mul_one] at r4 ⊢
    rw [List.map_take, ← r4, List.take_take, Nat.min_eq_left hm]
theorem keep_setRow {S : Nat → Prop} {a w : World} (h : Keep S a w) {g : Nat} (hg : a.heap.size ≤ g ∨ S g) (cells : Array Value) : Keep S a (w.setRow g cells) :=
  ⟨h.os, h.tape, h.output, by rw [size_setRow]; exact h.size, fun k hk hn => (setRow_other w g k _ (fun e => by subst e; rcases hg with h1 | h1; omega; exact hn h1)).trans (h.block k hk hn)⟩
theorem hold_store {P : Program} {w : World} {ops : Array Oper} {o : Oper} {a : Act} {K' : Act → World → Prop} {Q : Exit → Act → World → Prop} (hw : Region.wanted o (yielded ops a.tmps) = true) (ty : TypeId) (x y : Operand)
    (ho : o.op = .store ty x y) (g : Nat) (cells : Array Value) (hx : a.eval x = .pointer (some ⟨g, 0, none⟩)) (hy : a.eval y = .agg cells) (t : TypeId) (old : Array Value) (hg : w.heap[g]? = some (.cells old t (0, 0)))
    (hi : (P.info? ty).map (·.size) = some cells.size) (hold : old.size = cells.size) (h1 : cells.all (·.oneCell') = true) (h : K' (a.put o.dst undef) (w.setRow g cells)) :
    if Region.wanted o (yielded ops a.tmps) = true then Oper.wp P o a w K' Q else K' (a.put o.dst undef) w := by
  rw [if_pos hw]
  exact wp_store_row ty x y ho g cells hx hy t old hg hi hold h1 h
abbrev zrow : Array Value := #[.slice none 0 0, .int .u64 0, .int .i64 0, .slice none 0 0]
set_option maxRecDepth 1000000 in
set_option maxHeartbeats 3200000 in
theorem onext_any (g c p ck base : Nat) (A Ak : Option Addr) (bs last : List Nat) (w : World) (h : Rdr w g A c p bs Ak ck last base) (hp : p < bs.length) (hc : bs.length ≤ c) (hm : c ≤ maxLen) (hs : bs.length ≤ 50000000) (hls : last.length ≤ 100000000) (h8 : ∀ x, x ∈ bs → x < 256) :
    Calls Try.prog 96 #[.pointer (some ⟨g, 0, none⟩)] w (Nxt w g A c p bs Ak ck last base) := by
  have H := Lib.hid h
  have H8 := Lib.hid h8
  have HM := Lib.hid hm
  have hml := Nat.le_trans hc hm
  have HML := Lib.hid hml
  have hgl := h.box.lt
  clear h h8
  obtain ⟨W0, hW0⟩ : ∃ W0, W0 = (w.alloc (.cells #[.slice none 0 0, .int .u64 0, .int .i64 0, .slice none 0 0] 48)).alloc (.cells #[.int .u64 0, .int .u64 0, .int .u64 0] 153) := ⟨_, rfl⟩
  have hb0 : Below w.heap.size w W0 := by rw [hW0]; exact Joins.below_alloc2 _ _ _
  have hr0 : Lift.Box W0 w.heap.size 48 [.slice none 0 0, .int .u64 0, .int .i64 0, .slice none 0 0] := by rw [hW0]; exact (Lift.Box.new w _ [.slice none 0 0, .int .u64 0, .int .i64 0, .slice none 0 0]).alloc _
  have hz0 : W0.heap.size = w.heap.size + 1 + 1 := by rw [hW0]; simp
  have ha0 : Lift.Box W0 (w.heap.size + 1) 153 (lcells 0 0 0) := by
    rw [hW0]
    have := Lift.Box.new (w.alloc (.cells #[.slice none 0 0, .int .u64 0, .int .i64 0, .slice none 0 0] 48)) 153 (lcells 0 0 0)
    rwa [show (w.alloc (.cells #[.slice none 0 0, .int .u64 0, .int .i64 0, .slice none 0 0] 48)).heap.size = w.heap.size + 1 by simp] at this
  have HB0 := Lib.hid hb0
  have HR0 := Lib.hid hr0
  have HA0 := Lib.hid ha0
  have HZ0 := Lib.hid hz0
  have HX0 := Lib.hid (H.out.box.below hb0 hgl)
  go_enter Try.func96, Try.ntmps96
  go_upto_region 2 with fail
  rw [← hW0]
  clear hb0 hr0 ha0 hz0 hW0
  go_wp2_with fail
  go_loopw [15] (fun i wr => ∃ (j q a b v : Nat), j ≤ 3 ∧ i = .int .i64 (j : Int) ∧ Hid (Got bs p q a b v j) ∧ Hid (Keep (fun k => k = g ∨ k = w.heap.size + 1) W0 wr) ∧ Hid (Lift.Box wr (w.heap.size + 1) 153 (lcells a b v)) ∧ Hid (Lift.Box wr g 134 (rcells A bs.length c q (.slice Ak last.length ck)))) (fun i _ => 10 - (intOf i).toNat)
  case atStart => exact ⟨0, p, 0, 0, 0, by omega, rfl, Lib.hid rfl, Lib.hid (Keep.refl _ _), HA0, HX0⟩
  case round =>
    obtain ⟨j, q, a, b, v, hj, rfl, hgot, hkeep, hbox, hrd⟩ := hrel
    obtain ⟨hpq, hq⟩ := got_place hgot.out hj (Nat.le_of_lt hp)
    have hg1 : ¬ g = w.heap.size + 1 := by omega
    have hlog : Lies wr base A (bs.map vb) := (H.out.log.below (HB0.out.mono (by have := H.out.bg; omega))).later fun a ha => World.cell?_of_block (hkeep.out.block _ (by have := H.out.bg; have := HZ0.out; omega) (by have := H.out.bg; omega))
    obtain ⟨x0, x1, x2, f0, f1, f2⟩ := hrd.out.facts3
    obtain ⟨l0, l1, l2, m0, m1, m2⟩ := hbox.out.facts3
    by_cases hlt : j < 3
    · obtain ⟨⟨n, q', er⟩, hres⟩ : ∃ r, r = res bs (q : Nat) := ⟨_, rfl⟩
      have HG : Hid (∀ m, Calls Try.prog 116 #[.slice A bs.length c, .int .i64 (q : Int)] (wr.drewN m) fun e w' => e = .returned (.tuple #[.int .u64 (n : Int), .int .i64 (q' : Int), .int .i64 (er : Int)]) ∧ wr.drewN m = w') := Lib.hid fun m => by
        have h := Vt.get_calls A c base bs (q : Int) (wr.drewN m) (hlog.below (Joins.below_draws base wr m)) hc HML.out H8.out
        rw [← hres] at h
        exact h
      have HRES := Lib.hid hres.symm
      have hn64 : er = 0 → n < 18446744073709551616 := fun h => (res_ok (by rw [HRES.out, h])).1
      have HN64 := Lib.hid hn64
      clear hres hlog hn64
      go_wp2_with fail
      go_quiet (first | (go_at_call 116; refine Calls.quiet_of_same ((HG.out _).mono fun e w' hh => ⟨hh.1, hh.2.symm⟩)))
      have hbd := Joins.below_draws wr.heap.size wr nq
      have hkeep2 := Lib.hid (hkeep.out.trans (below_keep (S := fun _ => False) hbd) fun i _ h => h.elim)
      have hbox2 := Lib.hid (hbox.out.below hbd hbox.out.lt)
      have hrd2 := Lib.hid (hrd.out.below hbd hrd.out.lt)
      clear hbd HG hkeep hbox hrd x0 x1 x2 f0 f1 f2 l0 l1 l2 m0 m1 m2
      generalize wr.drewN nq = W2 at *
      obtain ⟨x0, x1, x2, f0, f1, f2⟩ := hrd2.out.facts3
      obtain ⟨l0, l1, l2, m0, m1, m2⟩ := hbox2.out.facts3
      by_cases he : er = 0
      · subst he
        have HGN := Lib.hid (got_next hgot.out hlt HRES.out)
        have hn := HN64.out rfl
        have hcell : ∃ u, W2.cell? ⟨w.heap.size + 1, j, none⟩ = some u := ⟨_, (hbox2.out.cell j).trans (List.getElem?_eq_getElem (by simpa using hlt))⟩
        obtain ⟨u, hcell⟩ := hcell
        have hfree := hbox2.out.free j
        have hb3 := hbox2.out.set j (.int .u64 (n : Int))
        rw [lcells_set a b v j n hlt] at hb3
        have hr3 : Lift.Box (W2.setCell ⟨w.heap.size + 1, j, none⟩ (.int .u64 (n : Int))) g 134 (rcells A bs.length c q (.slice Ak last.length ck)) := hrd2.out.setOther (p := ⟨w.heap.size + 1, j, none⟩) hg1 _
        have hk3 : Keep (fun k => k = g ∨ k = w.heap.size + 1) W0 (W2.setCell ⟨w.heap.size + 1, j, none⟩ (.int .u64 (n : Int))) := Keep.setCell hkeep2.out (.inr (.inr rfl)) _
        have hb4 : Lift.Box ((W2.setCell ⟨w.heap.size + 1, j, none⟩ (.int .u64 (n : Int))).setCell ⟨g, 1, none⟩ (.int .i64 (q' : Int))) (w.heap.size + 1) 153 (lcells (upd j n 0 a) (upd j n 1 b) (upd j n 2 v)) := hb3.setOther (p := ⟨g, 1, none⟩) (Ne.symm hg1) _
        have hr4 := hr3.set 1 (.int .i64 (q' : Int))
        have hk4 : Keep (fun k => k = g ∨ k = w.heap.size + 1) W0 ((W2.setCell ⟨w.heap.size + 1, j, none⟩ (.int .u64 (n : Int))).setCell ⟨g, 1, none⟩ (.int .i64 (q' : Int))) := Keep.setCell hk3 (.inr (.inl rfl)) _
        obtain ⟨y0, y1, y2, g0, g1, g2⟩ := hr3.facts3
        have HB4 := Lib.hid hb4
        have HR4 := Lib.hid hr4
        have HK4 := Lib.hid hk4
        clear hb3 hr3 hk3 hb4 hr4 hk4
        go_wp2_with fail
        go_roundw
        case rel => exact ⟨j + 1, q', _, _, _, by omega, by go_num, HGN, HK4, HB4, HR4⟩
        case measure => simp [intOf]; omega
      · have HST := Lib.hid (got_err (last := last) hgot.out hlt (by rw [HRES.out]; exact he))
        have hef : ((er : Int) != 0) = true := by rw [bne_iff_ne]; omega
        have hef2 : ((er : Int) == 0) = false := by rw [beq_eq_false_iff_ne]; omega
        have hrb := HR0.out.keep hkeep2.out (by omega)
        have hgb : ¬ w.heap.size = g := by omega
        clear he
        have HRB := Lib.hid hrb
        have HKE : Hid (Keep (RS g Ak last.length ck) w W2) := Lib.hid ((below_keep (S := RS g Ak last.length ck) HB0.out).trans hkeep2.out fun i hi hh => .inl (by rcases hh with h | h; exact h; omega))
        clear hrb
        go_wp2_with (refine wpList_store_row rfl _ _ _ rfl w.heap.size zrow rfl rfl _ zrow HRB.out (by kernel_rfl) (by kernel_rfl) (by kernel_rfl) ?_)
        refine bodyPost_ret (results_box (us := zrow.toList) rfl Try.underlying48 (by kernel_rfl) _ rfl (setRow_heap _ _ _ _ _ _ HRB.out)) rfl ?_
        exact ⟨keep_setRow HKE.out (.inl (Nat.le_refl _)) _, .inl ⟨HST.out, rfl⟩⟩
    · obtain rfl : j = 3 := by omega
      obtain ⟨q1, q2, R1, R2, R3⟩ := id hgot.out
      obtain ⟨ha64, hb64, hv64, hpq3⟩ := got_lt hgot.out
      have HR1 := Lib.hid R1
      have HR2 := Lib.hid R2
      have HR3 := Lib.hid R3
      have HKE : Hid (Keep (RS g Ak last.length ck) w wr) := Lib.hid ((below_keep (S := RS g Ak last.length ck) HB0.out).trans hkeep.out fun i hi hh => .inl (by rcases hh with h | h; exact h; omega))
      have HRB := Lib.hid (HR0.out.keep hkeep.out (by have := HZ0.out; omega))
      clear R1 R2 R3
      by_cases hla : last.length < a
      · have HST := Lib.hid (step_a (bs := bs) (p := p) (last := last) (.inr (by rw [HR1.out]; exact hla)))
        have d1 : decide (last.length < a) = true := decide_eq_true hla
        have d2 : (last.length : Int) < (a : Int) := by omega
        clear hlog
        go_wp2_with (refine wpList_store_row rfl _ _ _ rfl w.heap.size zrow rfl rfl _ zrow HRB.out (by kernel_rfl) (by kernel_rfl) (by kernel_rfl) ?_)
        refine bodyPost_ret (results_box (us := zrow.toList) rfl Try.underlying48 (by kernel_rfl) _ rfl (setRow_heap _ _ _ _ _ _ HRB.out)) rfl ?_
        exact ⟨keep_setRow HKE.out (.inl (Nat.le_refl _)) _, .inl ⟨HST.out, rfl⟩⟩
      · have d1 : decide (last.length < a) = false := decide_eq_false hla
        have d2 : decide ((last.length : Int) < (a : Int)) = false := decide_eq_false (by omega)
        have HLOG := Lib.hid hlog
        have HT1 := Lib.hid (otake_any g c q b A (.slice Ak last.length ck) bs wr hrd.out hq hc HM.out (by omega) hb64)
        clear hlog
        go_wp2_with fail
        refine HT1.out.mono ?_
        rintro e W2 (⟨hlt, rfl, m, rfl⟩ | ⟨hle, A1, hA1, hS1, rfl, hk1, hx1⟩)
        · have HST := Lib.hid (step_c (last := last) HR1.out hla HR2.out (.inr (.inl (by rw [HR3.out]; exact hlt))))
          have hbd := Joins.below_draws wr.heap.size wr m
          have HRB2 := HRB
          have HKE2 := HKE
          have HRB := Lib.hid (HRB2.out.below hbd HRB2.out.lt)
          have HKE := Lib.hid (HKE2.out.trans (below_keep (S := fun _ => False) hbd) fun i _ h => h.elim)
          clear hbd HRB2 HKE2 hlt x0 x1 x2 f0 f1 f2 l0 l1 l2 m0 m1 m2 HT1
          generalize wr.drewN m = W2 at *
          go_wp2_with (refine wpList_store_row rfl _ _ _ rfl w.heap.size zrow rfl rfl _ zrow HRB.out (by kernel_rfl) (by kernel_rfl) (by kernel_rfl) ?_)
          refine bodyPost_ret (results_box (us := zrow.toList) rfl Try.underlying48 (by kernel_rfl) _ rfl (setRow_heap _ _ _ _ _ _ HRB.out)) rfl ?_
          exact ⟨keep_setRow HKE.out (.inl (Nat.le_refl _)) _, .inl ⟨HST.out, rfl⟩⟩
        · have hbox2 := hbox.out.keep hk1 (by omega)
          have hle' : b ≤ bs.length - q := hle
          have HX1 := Lib.hid hx1
          have HK1 := Lib.hid hk1
          have HBX2 := Lib.hid hbox2
          have HRB2 := Lib.hid (HRB.out.keep hk1 (by omega))
          have HKE2 := Lib.hid (HKE.out.trans hk1 fun i hi hh => .inl hh)
          have HA1 := Lib.hid hA1
          have HS1 := Lib.hid hS1
          obtain ⟨l0, l1, l2, m0, m1, m2⟩ := hbox2.facts3
          have HT2 := Lib.hid (otake_any g c (q + b) v A (.slice Ak last.length ck) bs W2 hx1 (by omega) hc HM.out (by omega) hv64)
          clear HT1 x0 x1 x2 f0 f1 f2 hbox2 hx1 hk1 HRB HKE hA1 hS1
          go_wp2_with fail
          refine HT2.out.mono ?_
          rintro e W3 (⟨hlt, rfl, m, rfl⟩ | ⟨hle2, A2, hA2, hS2, rfl, hk2, hx2⟩)
          · have HST := Lib.hid (step_c (last := last) HR1.out hla HR2.out (.inr (.inr (by rw [HR3.out]; show bs.length - q - b < v; omega))))
            have hbd := Joins.below_draws W2.heap.size W2 m
            have HRB := Lib.hid (HRB2.out.below hbd HRB2.out.lt)
            have HKE := Lib.hid (HKE2.out.trans (below_keep (S := fun _ => False) hbd) fun i _ h => h.elim)
            clear hbd HRB2 HKE2 hlt l0 l1 l2 m0 m1 m2 HT2 HX1 HK1 HBX2
            generalize W2.drewN m = W3 at *
            go_wp2_with (refine wpList_store_row rfl _ _ _ rfl w.heap.size zrow rfl rfl _ zrow HRB.out (by kernel_rfl) (by kernel_rfl) (by kernel_rfl) ?_)
            refine bodyPost_ret (results_box (us := zrow.toList) rfl Try.underlying48 (by kernel_rfl) _ rfl (setRow_heap _ _ _ _ _ _ HRB.out)) rfl ?_
            exact ⟨keep_setRow HKE.out (.inl (Nat.le_refl _)) _, .inl ⟨HST.out, rfl⟩⟩
          · have HST := Lib.hid (step_d (last := last) HR1.out hla HR2.out HR3.out (show ¬ bs.length - q < b by omega) (show ¬ bs.length - q - b < v by omega))
            have HRB3 := Lib.hid (HRB2.out.keep hk2 (by omega))
            have HKE3 := Lib.hid (HKE2.out.trans hk2 fun i hi hh => .inl hh)
            obtain ⟨x0, x1, x2, f0, f1, f2⟩ := hx2.facts3
            have HX2 := Lib.hid hx2
            have hw3 : Keep (fun k => k = g ∨ k = w.heap.size + 1) W0 W3 := (hkeep.out.trans HK1.out fun i _ hh => .inl hh).trans hk2 fun i _ hh => .inl hh
            have hgo : ¬ (Value.slice Ak last.length ck).ownBlock = some g := own_apart H.out.own H.out.box (by decide)
            have hown3 := own_kept (own_later H.out.own HB0.out) hw3 (fun k hk hh => by
              have := (H.out.own.lt k hk).2
              rcases hh with h | h
              · subst h; exact hgo hk
              · omega)
            have hlog3 : Lies W3 base A (bs.map vb) := (HLOG.out.later fun a ha => World.cell?_of_block (HK1.out.block _ (by have := H.out.bg; have := hrd.out.lt; omega) (by have := H.out.bg; omega))).later fun a ha => World.cell?_of_block (hk2.block _ (by have := H.out.bg; have := HX1.out.lt; omega) (by have := H.out.bg; omega))
            have hbase3 : base ≤ W3.heap.size := by have := H.out.bg; have := hx2.lt; omega
            obtain ⟨rst, hrst⟩ : ∃ rst, rst = (bs.drop q).take b := ⟨_, rfl⟩
            have hrl : rst.length = b := by rw [hrst, List.length_take, List.length_drop]; omega
            have hrlies : Lies W3 base A1 (rst.map vb) := by
              refine Lies.cut hlog3 (fun h => HA1.out (by omega)) ?_
              rw [hrst]
              exact List.take_prefix _ _
            have hcut1 := cut_to64 Ak last.length ck a (by have := (own_parts H.out.own); obtain ⟨_, _, e, q1, q2, _⟩ := this; injection e with _ _ e; omega) (by have := (own_parts H.out.own); obtain ⟨_, _, e, q1, q2, _⟩ := this; injection e with _ _ e; omega) (by have := (own_parts H.out.own); obtain ⟨_, _, e, q1, q2, _⟩ := this; injection e with _ _ e; omega)
            have hof := own_front hown3 (show a ≤ last.length by omega)
            have htl : (last.take a).length = a := by rw [List.length_take]; omega
            obtain ⟨v9, W4, hr9, ho9, on9⟩ := append_bytes (c := c - q) hof hrlies (by rw [htl, hrl]; omega) hbase3
            rw [hrl] at hr9
            obtain ⟨kb, hkb⟩ : ∃ kb, kb = last.take a ++ rst := ⟨_, rfl⟩
            rw [← hkb] at ho9
            have hkl : kb.length = a + b := by rw [hkb, List.length_append, htl, hrl]
            obtain ⟨A9, c9, rfl, hc9, hm9, -⟩ := own_parts ho9
            have hob : ∀ k, (Value.slice Ak a ck).ownBlock = some k → (Value.slice Ak last.length ck).ownBlock = some k := fun k hk => by
              cases Ak with
              | none => simp [Value.ownBlock] at hk
              | some ad => simpa [Value.ownBlock] using hk
            have hx4 : Lift.Box W4 g 134 (rcells A bs.length c (q + b + v) (.slice Ak last.length ck)) := hx2.keep on9.keep (fun h => hgo (hob _ h))
            obtain ⟨y0, y1, y2, g0, g1, g2⟩ := hx4.facts3
            have hx5 : Lift.Box (W4.setCell ⟨g, 2, none⟩ (.slice A9 kb.length c9)) g 134 (rcells A bs.length c (q + b + v) (.slice A9 kb.length c9)) := hx4.set 2 (.slice A9 kb.length c9)
            have hk45 : Keep (· = g) W4 (W4.setCell ⟨g, 2, none⟩ (.slice A9 kb.length c9)) := Keep.setCell (S := (· = g)) (p := ⟨g, 2, none⟩) (Keep.refl _ _) (.inr rfl) _
            have ho5 : (W4.setCell ⟨g, 2, none⟩ (.slice A9 kb.length c9)).ownsRow base 5 1 (.slice A9 kb.length c9) kb.length (kb.map vb) := own_kept ho9 hk45 (fun k hk hh => own_apart ho9 hx4 (by decide) (by rw [← hh]; exact hk))
            have HKE5 : Hid (Keep (RS g Ak last.length ck) w (W4.setCell ⟨g, 2, none⟩ (.slice A9 kb.length c9))) := Lib.hid ((HKE3.out.trans on9.keep fun i _ hh => .inr (hob _ hh)).trans hk45 fun i _ hh => .inl hh)
            have hrn : ¬ w.heap.size = g := by omega
            have hrb4 := HRB3.out.keep on9.keep (fun h => own_apart hown3 HRB3.out (by decide) (hob _ h))
            have HRB5 : Hid (Lift.Box (W4.setCell ⟨g, 2, none⟩ (.slice A9 kb.length c9)) w.heap.size 48 [.slice none 0 0, .int .u64 0, .int .i64 0, .slice none 0 0]) := Lib.hid (hrb4.setOther (p := ⟨g, 2, none⟩) hrn _)
            have HLOG5 : Hid (Lies (W4.setCell ⟨g, 2, none⟩ (.slice A9 kb.length c9)) base A (bs.map vb)) := Lib.hid ((hlog3.below (on9.below hof hbase3)).later fun a ha => World.cell?_of_block (hk45.block _ (by have := H.out.bg; have := hx4.lt; omega) (by have := H.out.bg; omega)))
            have hk8 : ∀ x, x ∈ kb → x < 256 := fun x hx => by
              rw [hkb, hrst] at hx
              rcases List.mem_append.1 hx with h | h
              · exact H.out.l8 x (List.mem_of_mem_take h)
              · exact H8.out x (List.mem_of_mem_drop (List.mem_of_mem_take h))
            have HPL : Hid (∀ k, (Value.slice A9 kb.length c9).ownBlock = some k → (Value.slice Ak last.length ck).ownBlock = some k ∨ w.heap.size ≤ k) := Lib.hid fun k hk => by
              rcases on9.place k hk with h | h
              · exact .inl (hob _ h)
              · exact .inr (Nat.le_trans HKE3.out.size h)
            have HST9 : Hid (step bs p last = if resE kb ≠ 0 then none else some (⟨resK kb, (bs.drop (q + b)).take v⟩, kb, q + b + v)) := Lib.hid (by rw [HST.out, hkb, hrst])
            have HR9 := Lib.hid hr9
            have HO5 := Lib.hid ho5
            have HX5 := Lib.hid hx5
            have HK8 := Lib.hid hk8
            have HA2 := Lib.hid hA2
            have HS2 := Lib.hid hS2
            have HQ := Lib.hid (show q + b + v ≤ bs.length ∧ p < q from ⟨by omega, hpq3⟩)
            have HC9 := Lib.hid (show kb.length ≤ c9 ∧ c9 ≤ maxLen ∧ kb.length = a + b from ⟨hc9, hm9, hkl⟩)
            have ha6 : a ≤ 100000000 := by omega
            have hgR : g < W4.heap.size := hx4.lt
            have HGR := Lib.hid hgR
            clear HT2 hx2 hk2 hw3 hgo hown3 hlog3 hbase3 hrst hrl hrlies hof htl hr9 ho9 on9 hkb hkl hc9 hm9 hob hx4 hx5 hk45 ho5 hrb4 hk8 hA2 hS2 HRB2 HKE2 HRB3 HKE3 HST hgR
            go_upto_region 20 with (at_builtin; refine wpList_append_run rfl _ _ 25 rfl rfl rfl HR9.out ?_)
            generalize W4.setCell ⟨g, 2, none⟩ (.slice A9 kb.length c9) = W5 at HKE5 HRB5 HLOG5 HO5 HX5 ⊢
            clear g0 g1 g2 y0 y1 y2 HR9 HGR x0 x1 x2 f0 f1 f2 l0 l1 l2 m0 m1 m2 HX1 HK1 HBX2 HX2
            obtain ⟨z0, z1, z2, -, -, -⟩ := HX5.out.facts3
            have HRK := Lib.hid (read_allF A9 c9 kb W5 (Lies.of_own HO5.out) HC9.out.1 HC9.out.2.1 HK8.out (by have := HC9.out.2.2; omega))
            go_wp2_with fail
            refine HRK.out.mono ?_
            rintro e W6 ⟨Ax, cx, rfl, hax, hbx, hlx⟩
            have HAX := Lib.hid hax
            have HBX := Lib.hid hbx
            have HLX := Lib.hid hlx
            clear hax hbx hlx HRK z0 z1 z2
            go_upto_region 21 with fail
            have HW6 : Hid (Below W5.heap.size W5 (W6.alloc (kbox Ax cx (resK kb)))) := Lib.hid (HBX.out.trans ((Joins.below_alloc1 _ _).mono HBX.out.size))
            have HSZ : Hid (Below W6.heap.size W6 (W6.alloc (kbox Ax cx (resK kb)))) := Lib.hid (Joins.below_alloc1 _ _)
            have HLD : Hid (∀ W : World, W.heap[W6.heap.size]? = (W6.alloc (kbox Ax cx (resK kb))).heap[W6.heap.size]? → W.cell? ⟨W6.heap.size, 0, none⟩ = some (.slice Ax (resK kb).key.length cx) ∧ W.cell? ⟨W6.heap.size, 1, none⟩ = some (.int .u64 ((resK kb).seq : Int)) ∧ W.cell? ⟨W6.heap.size, 2, none⟩ = some (.int .i64 (resK kb).kind)) := Lib.hid fun W hW => load_kbox W6 W hW
            have HTY : Hid (W6.heap.size < (W6.alloc (kbox Ax cx (resK kb))).heap.size) := Lib.hid (by simp)
            generalize W6.alloc (kbox Ax cx (resK kb)) = WB at HW6 HSZ HLD HTY ⊢
            have HKE := Lib.hid (HKE5.out.trans (below_keep (S := fun _ => False) HW6.out) fun i _ h => h.elim)
            have HRB := Lib.hid (HRB5.out.below HW6.out HRB5.out.lt)
            have HLOGB : Hid (Lies WB base A (bs.map vb)) := Lib.hid (HLOG5.out.below (HW6.out.mono (by have := H.out.bg; have := HX5.out.lt; omega)))
            have HOB := Lib.hid (own_later HO5.out HW6.out)
            have HXB := Lib.hid (HX5.out.below HW6.out HX5.out.lt)
            have h56 : W5.heap.size ≤ W6.heap.size := HBX.out.size
            have hw5 : w.heap.size < W5.heap.size := HRB5.out.lt
            clear HKE5 HRB5 HLOG5
            by_cases hre : resE kb = 0
            · have d5 : (((resE kb : Nat) : Int) != 0) = false := by rw [hre]; rfl
              have d6 : (((resE kb : Nat) : Int) == 0) = true := by rw [hre]; rfl
              have HSTEP : Hid (step bs p last = some (⟨resK kb, (bs.drop (q + b)).take v⟩, kb, q + b + v)) := Lib.hid (by rw [HST9.out, if_neg (by rw [hre]; simp)])
              clear hre HST9
              obtain ⟨ad, hAd⟩ : ∃ ad, A = some ad := by
                rcases HLOGB.out with h | ⟨ad, h, _⟩
                · rw [List.map_eq_nil_iff] at h
                  rw [h] at hp
                  simp at hp
                · exact ⟨ad, h⟩
              obtain ⟨ad2, hAd2⟩ : ∃ ad2, A2 = some ad2 := by
                have := HS2.out
                rw [hAd] at this
                cases A2 with
                | none => simp at this
                | some ad2 => exact ⟨ad2, rfl⟩
              subst hAd2
              obtain ⟨val, hval⟩ : ∃ val, val = (bs.drop (q + b)).take v := ⟨_, rfl⟩
              have hvl : val.length = v := by rw [hval, List.length_take, List.length_drop]; have := HQ.out; omega
              have hlv : Lies WB base (some ad2) (val.map vb) := by
                refine Lies.cut HLOGB.out (fun h => HA2.out (by omega)) ?_
                rw [hval]
                exact List.take_prefix _ _
              have hv8 : ∀ x, x ∈ val → x < 256 := fun x hx => by
                rw [hval] at hx
                exact H8.out x (List.mem_of_mem_drop (List.mem_of_mem_take hx))
              have HLV := Lib.hid hlv
              have HV8 := Lib.hid hv8
              have HVL := Lib.hid hvl
              rw [← hval] at HSTEP
              rw [← hvl]
              clear hval hvl hlv hv8 hAd HA2 HS2
              go_upto_region 23 with fail
              refine wp_region_held_drew (S := fun w' => Hid (Keep (fun k => k = w.heap.size) WB w')) (by kernel_rfl) (Lib.hid (Keep.refl _ _).drew) (fun hS => ?_)
              refine wpAnyH_take (i := 0) (v := ?_) rfl (by kernel_rfl) (by kernel_rfl) (by kernel_rfl) (fun _ _ _ h => h) (Or.inl ⟨by rfl, ?_⟩) hS ?_
              rotate_left
              · intro w hw
                obtain ⟨p0, p1, p2⟩ := HLD.out _ (hw.out.block _ HTY.out (by omega))
                go_simp
                try with_reducible rfl
              try simp only [Act.put, List.getElem_toArray, List.getElem_cons_succ, List.getElem_cons_zero, List.setIfInBounds_toArray, List.set_cons_zero, List.set_cons_succ]
              refine wpAnyH_take (i := 1) (v := ?_) rfl (by kernel_rfl) (by kernel_rfl) (by kernel_rfl) (fun _ _ _ h => h) (Or.inl ⟨by rfl, ?_⟩) hS ?_
              rotate_left
              · intro w hw
                go_simp
                try with_reducible rfl
              try simp only [Act.put, List.getElem_toArray, List.getElem_cons_succ, List.getElem_cons_zero, List.setIfInBounds_toArray, List.set_cons_zero, List.set_cons_succ]
              have HBV : Hid (Below WB.heap.size WB WB.drew) := Lib.hid (Below.refl _ _).drew
              generalize WB.drew = V at hS HBV ⊢
              have HCL := Lib.hid (clone_any ad2 (c - (q + b)) val V ((HLV.out.below (HBV.out.mono (by have := H.out.bg; have := HXB.out.lt; omega))).up (by have := H.out.bg; have := HXB.out.lt; have := HBV.out.size; omega)) (by have := HVL.out; omega))
              refine wpAnyH_ready (rs := [2]) (by kernel_rfl) (by simp) ?_
              refine (AllReadyH.cons rfl (fun K hK => ?_) AllReadyH.nil)
              go_simp
              refine HCL.out.mono ?_
              intro e W8 hmade
              obtain ⟨Av, cv, rfl, hcv1, hcv2, hlv, hbv⟩ := Made.parts hmade
              have hown : W8.ownsRow V.heap.size 5 1 (.slice Av val.length cv) val.length (val.map vb) := by
                obtain ⟨v', e', ho, _⟩ := hmade
                injection e' with e'
                rw [e']
                exact ho
              obtain ⟨d0, hd0⟩ : ∃ d0 : D, d0 = ⟨Ax, cx, resK kb, Av, cv, val⟩ := ⟨_, rfl⟩
              have hb8 : Below WB.heap.size WB W8 := HBV.out.trans (hbv.mono HBV.out.size)
              have HK8' : Hid (Keep (fun k => k = w.heap.size) WB W8) := Lib.hid (below_keep hb8)
              have hrb8 := HRB.out.below hb8 HRB.out.lt
              have HRB8 := Lib.hid hrb8
              have hres9 : Lift.Box (W8.setRow w.heap.size d0.cells.toArray) w.heap.size 48 d0.cells := setRow_heap _ _ _ _ _ _ hrb8
              have hk89 : Keep (fun k => k = w.heap.size) W8 (W8.setRow w.heap.size d0.cells.toArray) := keep_setRow (S := fun k => k = w.heap.size) (Keep.refl _ _) (.inr rfl) _
              have hk9 : Keep (fun k => k = w.heap.size) WB (W8.setRow w.heap.size d0.cells.toArray) := hk89 |> fun h => HK8'.out.trans h fun i _ hh => hh
              have HKE9 : Hid (Keep (RS g Ak last.length ck) w (W8.setRow w.heap.size d0.cells.toArray)) := Lib.hid ((HKE.out.trans (below_keep (S := fun _ => False) hb8) fun i _ h => h.elim).trans hk89 fun i hi hh => by omega)
              have hr9 : Lift.Box (W8.setRow w.heap.size d0.cells.toArray) g 134 (rcells A bs.length c (q + b + v) (.slice A9 kb.length c9)) := HXB.out.keep hk9 (by omega)
              have ho9 := own_kept HOB.out hk9 (fun k hk hh => own_apart HOB.out HRB.out (by decide) (by rw [← hh]; exact hk))
              have hl9 : Lies (W8.setRow w.heap.size d0.cells.toArray) base A (bs.map vb) := HLOGB.out.later fun a ha => World.cell?_of_block (hk9.block _ (by have := H.out.bg; have := HXB.out.lt; omega) (by have := H.out.bg; omega))
              have hok9 : d0.Ok (W8.setRow w.heap.size d0.cells.toArray) (FK w.heap.size (W8.setRow w.heap.size d0.cells.toArray) (.slice A9 kb.length c9)) := by
                have h68 : Below W6.heap.size W6 W8 := HSZ.out.trans (hb8.mono HSZ.out.size)
                have hlt9 : ∀ k, (Value.slice A9 kb.length c9).ownBlock = some k → k < W5.heap.size := fun k hk => (HO5.out.lt k hk).2
                rw [hd0]
                refine ⟨HLX.out.later (fun k hk => ?_) (fun k hk => ?_), HAX.out.2.1, HAX.out.2.2.1, HAX.out.2.2.2, (LiesP.of_own hown).later (fun k hk => ?_) (fun k hk => ?_), hcv1, hcv2, HV8.out⟩
                · have := hk.1
                  exact (setRow_other W8 w.heap.size k _ (by omega)).trans (h68.block k hk.2.1)
                · obtain ⟨k1, k2, cs, fr, k3⟩ := hk
                  exact ⟨⟨by omega, by rw [size_setRow]; exact Nat.lt_of_lt_of_le k2 h68.size, cs, fr, (setRow_other W8 w.heap.size k _ (by omega)).trans ((h68.block k k2).trans k3)⟩, fun h => by have := hlt9 k h; omega⟩
                · have := hk.1
                  have := HBV.out.size
                  have := HTY.out
                  exact setRow_other W8 w.heap.size k _ (by omega)
                · obtain ⟨k1, k2, cs, fr, k3⟩ := hk
                  have := HBV.out.size
                  have := HTY.out
                  exact ⟨⟨by omega, by rw [size_setRow]; exact k2, cs, fr, (setRow_other W8 w.heap.size k _ (by omega)).trans k3⟩, fun h => by have := hlt9 k h; omega⟩
              have HRES9 := Lib.hid hres9
              have HOK9 := Lib.hid hok9
              have HD0 := Lib.hid hd0
              have HRD9 : Hid (Rdr (W8.setRow w.heap.size d0.cells.toArray) g A c (q + b + v) bs A9 c9 kb base) := Lib.hid ⟨hr9, hl9, H.out.bg, ho9, HQ.out.1, HK8.out⟩
              have HK9 := Lib.hid hk9
              have HCE : Hid (d0.cells.toArray = #[.slice Ax (resK kb).key.length cx, .int .u64 ((resK kb).seq : Int), .int .i64 (resK kb).kind, .slice Av val.length cv]) := Lib.hid (by rw [hd0]; rfl)
              clear hmade hcv1 hcv2 hlv hbv hown hd0 hb8 hrb8 hres9 hk89 hk9 hr9 ho9 hl9 hok9
              go_wp2_with fail
              refine hK.out _ _ HK8' (fun hS => ?_)
              clear hK K
              try simp only [Act.put, List.getElem_toArray, List.getElem_cons_succ, List.getElem_cons_zero, List.setIfInBounds_toArray, List.set_cons_zero, List.set_cons_succ]
              refine wpAnyH_take (i := 3) (v := ?_) rfl (by kernel_rfl) (by kernel_rfl) (by kernel_rfl) (fun _ _ _ h => h) (Or.inl ⟨by rfl, ?_⟩) hS ?_
              rotate_left
              · intro w hw
                go_simp
                try with_reducible rfl
              try simp only [Act.put, List.getElem_toArray, List.getElem_cons_succ, List.getElem_cons_zero, List.setIfInBounds_toArray, List.set_cons_zero, List.set_cons_succ]
              refine wpAnyH_ready (rs := [4]) (by kernel_rfl) (by simp) ?_
              refine (AllReadyH.cons rfl (fun K hK => ?_) AllReadyH.nil)
              refine hold_store rfl _ _ _ rfl w.heap.size d0.cells.toArray rfl (by rw [HCE.out]; rfl) _ zrow HRB8.out (by kernel_rfl) rfl (by kernel_rfl) ?_
              refine hK.out _ _ HK9 (fun hS => ?_)
              clear hK K
              try simp only [Act.put, List.getElem_toArray, List.getElem_cons_succ, List.getElem_cons_zero, List.setIfInBounds_toArray, List.set_cons_zero, List.set_cons_succ]
              refine wpAnyH_take (i := 5) (v := ?_) rfl (by kernel_rfl) (by kernel_rfl) (by kernel_rfl) (fun _ _ _ h => h) (Or.inl ⟨by rfl, ?_⟩) hS ?_
              rotate_left
              · intro w hw
                go_simp
                try with_reducible rfl
              try simp only [Act.put, List.getElem_toArray, List.getElem_cons_succ, List.getElem_cons_zero, List.setIfInBounds_toArray, List.set_cons_zero, List.set_cons_succ]
              refine wpAnyH_done (by kernel_rfl) ?_ _
              go_wp2_with fail
              refine bodyPost_ret (results_box (us := d0.cells) rfl Try.underlying48 (by kernel_rfl) _ rfl HRES9.out) rfl ?_
              exact ⟨HKE9.out, .inr ⟨d0, kb, q + b + v, A9, c9, by rw [HSTEP.out, HD0.out]; rfl, rfl, HOK9.out, HRD9.out, by have := HQ.out; omega, HPL.out⟩⟩
            · have d5 : (((resE kb : Nat) : Int) != 0) = true := by rw [bne_iff_ne]; omega
              have d6 : (((resE kb : Nat) : Int) == 0) = false := by rw [beq_eq_false_iff_ne]; omega
              have HST : Hid (step bs p last = none) := Lib.hid (by rw [HST9.out, if_pos hre])
              clear hre
              go_wp2_with (refine wpList_store_row rfl _ _ _ rfl w.heap.size zrow rfl rfl _ zrow HRB.out (by kernel_rfl) (by kernel_rfl) (by kernel_rfl) ?_)
              refine bodyPost_ret (results_box (us := zrow.toList) rfl Try.underlying48 (by kernel_rfl) _ rfl (setRow_heap _ _ _ _ _ _ HRB.out)) rfl ?_
              exact ⟨keep_setRow HKE.out (.inl (Nat.le_refl _)) _, .inl ⟨HST.out, rfl⟩⟩
end Go.Proofs.Ytobjiamdljjkjaa.Bk

/- Package block: what readEntries answers. -/
namespace Go.Proofs.Ytobjiamdljjkjaa.Bk
set_option linter.unusedVariables false
set_option linter.unusedSimpArgs false
open Go.RowKit Lift Ik Sk Vn
open Vt (res)
/-- One entry more, and what lies beside the row. -/
theorem more2 {B : Nat} {w : World} {v : Value} {L : List D} (h : Ac B w v L) {d : D} (hd : d.Ok w (Fresh B w)) (hB : B ≤ w.heap.size) (hL : L.length ≤ 100000000) :
    ∃ v' w', Sem.run Try.prog (Builtin.append_ #[22, 22] 22 #[v, .slice (some ⟨w.heap.size, 0, none⟩) 1 1]) (w.alloc (ebox d)) = .ok v' w' ∧ Ac B w' v' (L ++ [d]) ∧ Below B w w' ∧
      ∀ (k : Nat) cs T fr, w.heap[k]? = some (.cells cs T fr) → T ≠ 48 → w'.heap[k]? = w.heap[k]? := by
  have hb := below_box w d
  have hl : Lies (w.alloc (ebox d)) (w.heap.size + 1) (some ⟨w.heap.size, 0, none⟩) d.cells := lies_block (cs := d.cells.toArray) (heap_alloc_new w _) (Nat.lt_succ_self _)
  have h1 := h.below hb
  obtain ⟨v', w', hr, ho, hon⟩ := run_append_onto (P := Try.prog) (m := 1) (c := 1) 22 22 48 (.agg #[.slice none 0 0, .int .u64 0, .int .i64 0, .slice none 0 0]) 4 64 Try.underlying22 (by kernel_rfl) rfl (by decide)
    (fun u hu => by simp [D.cells] at hu; rcases hu with rfl | rfl | rfl | rfl <;> rfl) h1.own hl rfl (by unfold maxLen; omega) (by omega) (Nat.le_trans hB hb.size)
  have hbel : Below B w w' := (hb.mono hB).trans (hon.below h1.own (Nat.le_trans hB hb.size))
  have hk : ∀ (k : Nat) cs T fr, w.heap[k]? = some (.cells cs T fr) → T ≠ 48 → w'.heap[k]? = w.heap[k]? := fun k cs T fr h3 hT => by
    have h2 : k < w.heap.size := by
      rcases Nat.lt_or_ge k w.heap.size with hq | hq
      · exact hq
      · rw [Array.getElem?_eq_none hq] at h3; cases h3
    rw [hon.keep.block k (Nat.lt_of_lt_of_le h2 hb.size) (fun hv => ?_), hb.block k h2]
    obtain ⟨cs2, fr2, h4⟩ := own_blk h1.own hv
    rw [hb.block k h2, h3] at h4
    injection h4 with h4
    injection h4 with _ h4
    exact absurd h4 hT
  have hf : ∀ k, Fresh B w k → w'.heap[k]? = w.heap[k]? ∧ Fresh B w' k := fun k hk2 => by
    obtain ⟨h1, h2, cs, fr, h3⟩ := hk2
    have h4 := hk k cs _ fr h3 (by decide)
    exact ⟨h4, h1, Nat.lt_of_lt_of_le h2 hbel.size, cs, fr, h4.trans h3⟩
  refine ⟨v', w', hr, ⟨by rw [List.length_append, cellsL_append]; simpa [cellsL] using ho, fun e he => ?_⟩, hbel, hk⟩
  rcases List.mem_append.1 he with he | he
  · exact (h.ok e he).later (fun k hk => (hf k hk).1) fun k hk => (hf k hk).2
  · simp at he
    subst he
    exact hd.later (fun k hk => (hf k hk).1) fun k hk => (hf k hk).2

theorem spots_end {bs last : List Nat} {p f : Nat} (h : bs.length ≤ p) : spots bs (f + 1) p last = [] := by unfold spots; rw [if_pos h]
theorem spots_one {bs last : List Nat} {p q f : Nat} {t : T} {kb : List Nat} (h : p < bs.length) (hs : step bs p last = some (t, kb, q)) : spots bs (f + 1) p last = p :: spots bs f q kb := by
  have e : spots bs (f + 1) p last = (if bs.length ≤ p then [] else match step bs p last with
    | none => []
    | some (_, kb, tn) => p :: spots bs f tn kb) := rfl
  rw [e, if_neg (by omega), hs]
def atOf (w : World) (g : Nat) : Nat := match w.cell? ⟨g, 1, none⟩ with
  | some v => (intOf v).toNat
  | none => 0
theorem atOf_box {w : World} {g n c p : Nat} {A : Option Addr} {K : Value} (h : Lift.Box w g 134 (rcells A n c p K)) : atOf w g = p := by
  unfold atOf
  rw [h.cell 1]
  simp [intOf]
theorem FK.step {B k : Nat} {w w' : World} {v v' : Value} (h : FK B w v k) (hs : w'.heap[k]? = w.heap[k]?) (hz : w.heap.size ≤ w'.heap.size) (hv : ¬ v'.ownBlock = some k) : FK B w' v' k := by
  obtain ⟨⟨h1, h2, cs, fr, h3⟩, _⟩ := h
  exact ⟨⟨h1, Nat.lt_of_lt_of_le h2 hz, cs, fr, hs.trans h3⟩, hv⟩
theorem FK.off {B k base size n : Nat} {w : World} {v v' : Value} {e : TypeId} {xs : List Value} (h : FK B w v k) (ho : w.ownsRow base e size v' n xs) (he : e ≠ 5) : ¬ v'.ownBlock = some k := fun hk => by
  obtain ⟨cs, fr, h1⟩ := own_blk ho hk
  obtain ⟨⟨_, _, cs2, fr2, h2⟩, _⟩ := h
  rw [h1] at h2
  injection h2 with h2
  injection h2 with _ h2
  exact he h2
theorem FK.box {B k g : Nat} {w : World} {v : Value} {T : TypeId} {us : List Value} (h : FK B w v k) (hb : Lift.Box w g T us) (hT : T ≠ 5) : ¬ k = g := fun e => by
  obtain ⟨⟨_, _, cs, fr, h2⟩, _⟩ := h
  subst e
  unfold Lift.Box at hb
  rw [hb] at h2
  injection h2 with h2
  injection h2 with _ h2
  exact hT h2
/-- What readEntries answers. -/
def Rent (w : World) (fs : List Nat) (e : Ending) (w' : World) : Prop :=
  Below w.heap.size w w' ∧ (((loose fs (fs.length + 1) 0 [] = none ∨ ∃ ts, loose fs (fs.length + 1) 0 [] = some ts ∧ 10000 < ts.length) ∧ e = .returned (.tuple #[.slice none 0 0, .slice none 0 0, .bool false])) ∨
    ∃ (A A7 : Option Addr) (c c7 : Nat) (L : List D) (S : List Nat), loose fs (fs.length + 1) 0 [] = some (L.map D.t) ∧ S = spots fs (fs.length + 1) 0 [] ∧ L.length ≤ 10000 ∧ S.length = L.length ∧ e = .returned (.tuple #[.slice A L.length c, .slice A7 S.length c7, .bool true]) ∧
      Ents w' (fun k => w.heap.size ≤ k ∧ k < w'.heap.size) A c L ∧ w'.ownsRow w.heap.size 3 1 (.slice A7 S.length c7) S.length (S.map vn))
/-- What lies in memory in the middle of it; g: the reader. -/
structure Re (w wr : World) (fs : List Nat) (Ae : Option Addr) (ce g p f : Nat) (A5 A7 Ak : Option Addr) (c5 c7 ck : Nat) (L : List D) (S last : List Nat) : Prop where
  ac : wr.ownsRow w.heap.size 48 4 (.slice A5 L.length c5) L.length (cellsL L)
  ok : ∀ d, d ∈ L → d.Ok wr (FK w.heap.size wr (.slice Ak last.length ck))
  st : wr.ownsRow w.heap.size 3 1 (.slice A7 S.length c7) S.length (S.map vn)
  rd : Rdr wr g Ae ce p fs Ak ck last w.heap.size
  below : Below w.heap.size w wr
  fuel : fs.length < p + f
  cnt : L.length ≤ p
  big : L.length ≤ 10000
  len : S.length = L.length
  ll : last.length ≤ p
  eq : loose fs (fs.length + 1) 0 [] = (loose fs f p last).map (L.map D.t ++ ·)
  sp : spots fs (fs.length + 1) 0 [] = S ++ spots fs f p last
theorem step_ll {bs last : List Nat} {p q : Nat} {t : T} {kb : List Nat} (hs : step bs p last = some (t, kb, q)) (hl : last.length ≤ p) : kb.length ≤ q ∧ q ≤ bs.length := by
  by_cases h1 : (res bs (p : Nat)).2.2 ≠ 0 ∨ last.length < (res bs (p : Nat)).1
  · rw [step_a h1] at hs; cases hs
  · obtain ⟨⟨c, a, e⟩, hr1⟩ : ∃ r, r = res bs (p : Nat) := ⟨_, rfl⟩
    rw [← hr1] at h1
    simp only [not_or, Nat.not_lt, ne_eq, Decidable.not_not] at h1
    obtain ⟨rfl, h1⟩ := h1
    by_cases h2 : (res bs (a : Nat)).2.2 ≠ 0
    · rw [step_b hr1.symm (by omega) h2] at hs; cases hs
    · obtain ⟨⟨n, d, e⟩, hr2⟩ : ∃ r, r = res bs (a : Nat) := ⟨_, rfl⟩
      rw [← hr2] at h2
      simp only [ne_eq, Decidable.not_not] at h2
      subst h2
      by_cases h3 : (res bs (d : Nat)).2.2 ≠ 0 ∨ bs.length - (res bs (d : Nat)).2.1 < n ∨ bs.length - (res bs (d : Nat)).2.1 - n < (res bs (d : Nat)).1
      · rw [step_c hr1.symm (by omega) hr2.symm h3] at hs; cases hs
      · obtain ⟨⟨v, q', e⟩, hr3⟩ : ∃ r, r = res bs (d : Nat) := ⟨_, rfl⟩
        rw [← hr3] at h3
        simp only [not_or, Nat.not_lt, ne_eq, Decidable.not_not] at h3
        obtain ⟨rfl, h3, h4⟩ := h3
        have g1 := res_ok hr1.symm
        have g2 := res_ok hr2.symm
        have g3 := res_ok hr3.symm
        rw [step_d hr1.symm (by omega) hr2.symm hr3.symm (by omega) (by omega)] at hs
        split at hs
        · cases hs
        · injection hs with hs
          injection hs with _ hs
          injection hs with hk hq
          rw [← hk, ← hq, List.length_append, List.length_take, List.length_take, List.length_drop]
          omega
set_option maxRecDepth 1000000 in
set_option maxHeartbeats 3200000 in
theorem oread_any (Ae : Option Addr) (ce : Nat) (fs : List Nat) (w : World) (hl : Lies w w.heap.size Ae (fs.map vb)) (hc : fs.length ≤ ce) (hm : ce ≤ maxLen) (hs : fs.length ≤ 50000000) (h8 : ∀ x, x ∈ fs → x < 256) :
    Calls Try.prog 70 #[.slice Ae fs.length ce] w (Rent w fs) := by
  have HL := Lib.hid hl
  have H8 := Lib.hid h8
  have HM := Lib.hid hm
  have hm1 := hm
  unfold maxLen at hm1
  clear hl h8
  obtain ⟨g, hg⟩ : ∃ g, g = w.heap.size := ⟨_, rfl⟩
  have hx0 : Lift.Box (w.alloc (.cells #[.slice Ae fs.length ce, .int .i64 0, .slice none 0 0] 134)) w.heap.size 134 (rcells Ae fs.length ce 0 (.slice none 0 0)) := Lift.Box.new w _ (rcells Ae fs.length ce 0 (.slice none 0 0))
  have hb0 : Below w.heap.size w (w.alloc (.cells #[.slice Ae fs.length ce, .int .i64 0, .slice none 0 0] 134)) := Joins.below_alloc1 w _
  have HST : Hid (Re w (w.alloc (.cells #[.slice Ae fs.length ce, .int .i64 0, .slice none 0 0] 134)) fs Ae ce w.heap.size 0 (fs.length + 1) none none none 0 0 0 [] [] []) := Lib.hid
    ⟨World.ownsRow_nil _ _ _ _, by simp, World.ownsRow_nil _ _ _ _, ⟨hx0, HL.out.below hb0, Nat.le_refl _, World.ownsRow_nil _ _ _ _, Nat.zero_le _, by simp⟩, hb0, by omega, by simp, by simp, rfl, by simp, by cases loose fs (fs.length + 1) 0 [] <;> simp, by simp⟩
  clear hx0 hb0
  go_enter Try.func70, Try.ntmps70
  go_upto_region 4 with fail
  change Code.wp _ _ _ _ (w.alloc (.cells #[.slice Ae fs.length ce, .int .i64 0, .slice none 0 0] 134))
  generalize w.alloc (.cells #[.slice Ae fs.length ce, .int .i64 0, .slice none 0 0] 134) = W0 at HST ⊢
  go_loopw [5, 6] (fun v5 v6 wr => ∃ (p f : Nat) (A5 A7 Ak : Option Addr) (c5 c7 ck : Nat) (L : List D) (S last : List Nat), v5 = .slice A5 L.length c5 ∧ v6 = .slice A7 S.length c7 ∧ Hid (Re w wr fs Ae ce w.heap.size p f A5 A7 Ak c5 c7 ck L S last)) (fun _ _ W => fs.length + 1 - atOf W w.heap.size)
  case atStart => exact ⟨0, fs.length + 1, none, none, none, 0, 0, 0, [], [], [], rfl, rfl, HST⟩
  case round =>
    obtain ⟨p, f, A5, A7, Ak, c5, c7, ck, L, S, last, rfl, rfl, hre⟩ := hrel
    have hrd := hre.out.rd
    obtain ⟨x0, x1, x2, f0, f1, f2⟩ := hrd.box.facts3
    have hple := hrd.place
    have hbig := hre.out.big
    have hlen := hre.out.len
    have hAT := Lib.hid (atOf_box hrd.box)
    have hbs := hre.out.below.size
    by_cases hlt : p < fs.length
    · obtain ⟨F, hF⟩ : ∃ F, f = F + 1 := ⟨f - 1, by have := hre.out.fuel; omega⟩
      have HF := Lib.hid hF
      obtain ⟨v7, W1, hr7, ho7, on7⟩ := append_num p hre.out.st (by omega) hbs
      have hx1 := hrd.box.keep on7.keep (own_apart hre.out.st hrd.box (by decide))
      have hk1 := own_kept hrd.own on7.keep (fun k hk => own_two hrd.own hre.out.st (by decide) hk)
      have hb1 := on7.below hre.out.st hbs
      have hac1 := own_kept hre.out.ac on7.keep (fun k hk => own_two hre.out.ac hre.out.st (by decide) hk)
      have hok1 : ∀ d, d ∈ L → d.Ok W1 (FK w.heap.size W1 (.slice Ak last.length ck)) := fun d hd => (hre.out.ok d hd).later (fun k hk => on7.at_block hk.1.2.1 (hk.off hre.out.st (by decide))) fun k hk => hk.step (on7.at_block hk.1.2.1 (hk.off hre.out.st (by decide))) on7.keep.size hk.2
      have hrd1 : Rdr W1 w.heap.size Ae ce p fs Ak ck last w.heap.size := ⟨hx1, hrd.log.below hb1, Nat.le_refl _, hk1, hple, hrd.l8⟩
      obtain ⟨B7, d7, rfl, -, -, -⟩ := own_parts ho7
      have HN := Lib.hid (onext_any w.heap.size ce p ck w.heap.size Ae Ak fs last W1 hrd1 hlt hc HM.out hs (by have := hre.out.ll; omega) H8.out)
      have HW1 := Lib.hid (hre.out.below.trans hb1)
      have HR7 := Lib.hid hr7
      have HO7 := Lib.hid ho7
      have HAC1 := Lib.hid hac1
      have HOK1 := Lib.hid hok1
      have HRD1 := Lib.hid hrd1
      clear hr7 ho7 on7 hx1 hk1 hb1 hac1 hok1 hrd1 hrd hF
      go_wp2_with (at_builtin; refine wpList_append_run rfl _ _ 41 rfl rfl rfl HR7.out ?_)
      refine HN.out.mono ?_
      rintro e W2 ⟨hkp, (⟨hst, rfl⟩ | ⟨d, kb, tn, Ak', ck', hst, rfl, hdok, hrd2, hpto, hpl⟩)⟩
      · have hb2 : Below w.heap.size w W2 := HW1.out.trans (hkp.below HW1.out.size fun k hk => by
          rcases hk with h | h
          · exact Nat.le_of_eq h.symm
          · exact (HRD1.out.own.lt k h).1)
        have HNO : Hid (loose fs (fs.length + 1) 0 [] = none) := Lib.hid (by rw [hre.out.eq, HF.out, loose_no hlt hst]; rfl)
        have HB2 := Lib.hid hb2
        clear hst hkp hb2 x0 x1 x2 f0 f1 f2 HN HR7
        go_wp2_with fail
        go_returns
        exact ⟨HB2.out.trans ((Joins.below_alloc1 W2 _).mono HB2.out.size), .inl ⟨.inl HNO.out, rfl⟩⟩
      · have hb2 : Below w.heap.size w W2 := HW1.out.trans (hkp.below HW1.out.size fun k hk => by
          rcases hk with h | h
          · exact Nat.le_of_eq h.symm
          · exact (HRD1.out.own.lt k h).1)
        have hng : ∀ {k : Nat}, FK w.heap.size W1 (.slice Ak last.length ck) k → W2.heap[k]? = W1.heap[k]? := fun {k} hk => hkp.block k hk.1.2.1 fun hh => by
          rcases hh with h | h
          · exact hk.box HRD1.out.box (by decide) h
          · exact hk.2 h
        have hok2 : ∀ e, e ∈ L → e.Ok W2 (FK w.heap.size W2 (.slice Ak' kb.length ck')) := fun e he => (HOK1.out e he).later (fun k hk => hng hk) fun k hk => hk.step (hng hk) hkp.size fun hh => by
          rcases hpl k hh with h | h
          · exact hk.2 h
          · have := hk.1.2.1
            omega
        have hac2 := own_kept HAC1.out hkp fun k hk hh => by
          rcases hh with h | h
          · subst h; exact own_apart HAC1.out HRD1.out.box (by decide) hk
          · exact own_two HAC1.out HRD1.out.own (by decide) hk h
        have hst2 := own_kept HO7.out hkp fun k hk hh => by
          rcases hh with h | h
          · subst h; exact own_apart HO7.out HRD1.out.box (by decide) hk
          · exact own_two HO7.out HRD1.out.own (by decide) hk h
        have hd2 : d.Ok W2 (FK w.heap.size W2 (.slice Ak' kb.length ck')) := hdok.mono fun k hk => ⟨Fresh.low HW1.out.size k hk.1, hk.2⟩
        have hEQ : loose fs (fs.length + 1) 0 [] = (loose fs F tn kb).map ((L ++ [d]).map D.t ++ ·) := by
          rw [hre.out.eq, HF.out, loose_one hlt hst]
          cases loose fs F tn kb <;> simp
        have hSP : spots fs (fs.length + 1) 0 [] = (S ++ [p]) ++ spots fs F tn kb := by
          rw [hre.out.sp, HF.out, spots_one hlt hst]
          simp
        have hll := step_ll hst hre.out.ll
        have hbx := below_box W2 d
        obtain ⟨y0, y1, y2, y3, -, -, -, -⟩ := (Bx.new W2 d).facts
        have hld := D.load (p := ⟨W2.heap.size, 0, none⟩) (d := d) y0 y1 y2 y3
        have HB3 := Lib.hid (hb2.trans (hbx.mono hb2.size))
        by_cases h10 : L.length = 10000
        · have HLO : Hid (loose fs (fs.length + 1) 0 [] = none ∨ ∃ ts, loose fs (fs.length + 1) 0 [] = some ts ∧ 10000 < ts.length) := Lib.hid (by
            rw [hEQ]
            cases loose fs F tn kb with
            | none => exact .inl rfl
            | some us => exact .inr ⟨_, rfl, by simp; omega⟩)
          have e10 : ((L.length : Int) == 10000) = true := by rw [beq_iff_eq]; omega
          have e11 : (L.length : Int) = 10000 := by omega
          clear hst hkp hb2 x0 x1 x2 f0 f1 f2 HN HR7 hng hok2 hac2 hst2 hd2 hEQ hSP hll hbx y0 y1 y2 y3 hdok hrd2 hpl
          go_wp2_with fail
          go_returns
          exact ⟨HB3.out, .inl ⟨HLO.out, rfl⟩⟩
        · have e10 : ((L.length : Int) == 10000) = false := by rw [beq_eq_false_iff_ne]; omega
          have e11 : ¬ (L.length : Int) = 10000 := by omega
          have hac3 : Ac w.heap.size (W2.alloc (ebox d)) (.slice A5 L.length c5) L := Ac.below ⟨hac2, fun e he => (hok2 e he).mono fun k hk => hk.1⟩ hbx
          obtain ⟨v5, W4, hr5, hac4, hb4, hk4⟩ := more2 (d := d) hac3 ((hd2.mono fun k hk => hk.1).later (fun k hk => hbx.block k hk.2.1) fun k hk => Fresh.below hbx k hk) HB3.out.size (by omega)
          have hty : ∀ (k : Nat) cs T fr, W2.heap[k]? = some (.cells cs T fr) → T ≠ 48 → W4.heap[k]? = W2.heap[k]? := fun k cs T fr h hT => by
            have hk : k < W2.heap.size := (Array.getElem?_eq_some_iff.1 h).1
            have e1 := hbx.block k hk
            exact (hk4 k cs T fr (e1.trans h) hT).trans e1
          have hz4 : W2.heap.size ≤ W4.heap.size := Nat.le_trans hbx.size (by have := hb4.size; exact this)
          have hF4 : ∀ {k : Nat}, FK w.heap.size W2 (.slice Ak' kb.length ck') k → W4.heap[k]? = W2.heap[k]? := fun {k} hk => by
            obtain ⟨⟨_, _, cs, fr, h⟩, _⟩ := hk
            exact hty k cs _ fr h (by decide)
          have hb5 : Below w.heap.size w W4 := HB3.out.trans hb4
          have hok4 : ∀ e, e ∈ L ++ [d] → e.Ok W4 (FK w.heap.size W4 (.slice Ak' kb.length ck')) := fun e he => by
            have h1 : e.Ok W2 (FK w.heap.size W2 (.slice Ak' kb.length ck')) := by
              rcases List.mem_append.1 he with he | he
              · exact hok2 e he
              · rw [List.mem_singleton.1 he]; exact hd2
            exact h1.later (fun k hk => hF4 hk) fun k hk => hk.step (hF4 hk) hz4 hk.2
          have hst4 := own_same hst2 (w' := W4) fun k hk => by
            obtain ⟨cs, fr, h⟩ := own_blk hst2 hk
            exact hty k cs _ fr h (by decide)
          have hrk4 := own_same hrd2.own (w' := W4) fun k hk => by
            obtain ⟨cs, fr, h⟩ := own_blk hrd2.own hk
            exact hty k cs _ fr h (by decide)
          have hrd4 : Rdr W4 w.heap.size Ae ce tn fs Ak' ck' kb w.heap.size := ⟨hrd2.box.at_block (hty _ _ _ _ hrd2.box (by decide)), HL.out.below hb5, Nat.le_refl _, hrk4, hrd2.place, hrd2.l8⟩
          obtain ⟨B5, d5, hv5, -, -, -⟩ := own_parts hac4.own
          subst hv5
          have HRE : Hid (Re w W4 fs Ae ce w.heap.size tn F B5 B7 Ak' d5 d7 ck' (L ++ [d]) (S ++ [p]) kb) := Lib.hid ⟨hac4.own, hok4, hst4, hrd4, hb5, by have := hre.out.fuel; have := HF.out; omega, by rw [List.length_append]; have := hre.out.cnt; simp; omega, by rw [List.length_append]; simp; omega, by rw [List.length_append, List.length_append]; simp; omega, hll.1, hEQ, hSP⟩
          have HAT4 := Lib.hid (atOf_box hrd4.box)
          have hz5 : (W2.alloc (ebox d)).heap.size = W2.heap.size + 1 := by simp only [World.alloc, Array.size_push]
          rw [hz5] at hr5
          have HR5 := Lib.hid hr5
          have HLEN := Lib.hid hlen
          clear hz5 hlen
          clear hst hkp hb2 x0 x1 x2 f0 f1 f2 HN HR7 hng hok2 hac2 hst2 hd2 hEQ hSP hll hbx hdok hrd2 hpl hac3 hr5 hac4 hb4 hk4 hty hz4 hF4 hb5 hok4 hst4 hrk4 hrd4
          go_wp2_with (at_builtin; refine wpList_append_run rfl _ _ 22 rfl rfl rfl HR5.out ?_)
          go_roundw
          case rel => exact ⟨tn, F, B5, B7, Ak', d5, d7, ck', L ++ [d], S ++ [p], kb, by first | rfl | simp, by first | rfl | (rw [List.length_append, HLEN.out]; rfl), HRE⟩
          case measure => rw [HAT4.out, hAT.out]; omega
    · have hpe : p = fs.length := by omega
      obtain ⟨F, hF⟩ : ∃ F, f = F + 1 := ⟨f - 1, by have := hre.out.fuel; omega⟩
      have HEQ : Hid (loose fs (fs.length + 1) 0 [] = some (L.map D.t) ∧ S = spots fs (fs.length + 1) 0 []) := Lib.hid ⟨by rw [hre.out.eq, hF, loose_end (by omega)]; simp, by rw [hre.out.sp, hF, spots_end (by omega)]; simp⟩
      obtain ⟨B5, d5, e5, q1, q2, -⟩ := own_parts hre.out.ac
      injection e5 with e4 e6 e5
      subst e4
      subst e5
      clear e6
      have HLEN := Lib.hid hlen
      have hents : Ents wr (fun k => w.heap.size ≤ k ∧ k < wr.heap.size) A5 c5 L := ⟨(LiesP.of_own hre.out.ac).later (fun _ _ => rfl) fun k hk => ⟨hk.1, hk.2.1⟩, q1, q2, fun d hd => (hre.out.ok d hd).mono fun k hk => ⟨hk.1.1, hk.1.2.1⟩⟩
      have HEN := Lib.hid hents
      clear hents hF hrd hlen
      go_wp2_with fail
      go_returns
      exact ⟨hre.out.below, .inr ⟨A5, A7, c5, c7, L, S, HEQ.out.1, HEQ.out.2, hbig, HLEN.out, rfl, HEN.out, hre.out.st⟩⟩
end Go.Proofs.Ytobjiamdljjkjaa.Bk

/- Package block: what open, All and Restarts answer to any bytes. -/
namespace Go.Proofs.Ytobjiamdljjkjaa.Bk
set_option linter.unusedVariables false
set_option linter.unusedSimpArgs false
open Go.RowKit Lift Ik Sk Vn
open Vt (res)
theorem sum_iff {bs : List Nat} (h4 : 4 ≤ bs.length) (h8 : ∀ x, x ∈ bs → x < 256) : num (bs.drop (bs.length - 4)) = Crc.maskN (Crc.crc Crc.ent (bs.take (bs.length - 4))) ↔ bs.drop (bs.length - 4) = sum4 (bs.take (bs.length - 4)) := by
  have hl : (bs.drop (bs.length - 4)).length = 4 := by rw [List.length_drop]; omega
  have h1 := low_num (bs.drop (bs.length - 4)) fun c hc => h8 c (List.mem_of_mem_drop hc)
  have hm := Crc.maskN_lt (Crc.crc Crc.ent (bs.take (bs.length - 4)))
  rw [hl] at h1
  unfold sum4
  constructor
  · intro h
    rw [← h1, h]
  · intro h
    rw [h, num_low _ _ (by omega)]
theorem bare_byte {every : Nat} {L : List D} (h : ∀ d, d ∈ L → okT d.t = true ∧ d.k.ok ∧ ∀ c, c ∈ d.val → c < 256) : ∀ x, x ∈ bare every (L.map D.t) → x < 256 := by
  intro x hx
  unfold bare foot at hx
  rcases List.mem_append.1 hx with h1 | h1
  · refine body_byte every (L.map D.t) 0 [] (fun t ht => ?_) x h1
    obtain ⟨d, hd, rfl⟩ := List.mem_map.1 ht
    exact h d hd
  · rcases List.mem_append.1 h1 with h2 | h2
    · exact flat4_byte _ x h2
    · exact low_byte _ _ x h2
theorem raw_no {bs : List Nat} (h8 : ¬ bs.length < 8) (hsum : bs.drop (bs.length - 4) = sum4 (bs.take (bs.length - 4))) (h : raw bs = none ∨ ∃ ts, raw bs = some ts ∧ may ts ≠ 0) : allB bs = ([], 2) := by
  refine allB_bad h8 hsum fun ⟨us, hu⟩ => ?_
  have h1 := (isB_raw hu).2.2.2
  rcases h with h | ⟨ts, h, hm⟩
  · rw [h] at h1; cases h1
  · rw [h] at h1
    injection h1 with h1
    subst h1
    exact hm hu.1
theorem may_big {ts : List T} (h : 10000 < ts.length) : may ts ≠ 0 := fun h0 => by have := (may_zero h0).2.2; omega
theorem step_adv {bs last : List Nat} {p q : Nat} {t : T} {kb : List Nat} (hs : step bs p last = some (t, kb, q)) : p < q := by
  by_cases h1 : (res bs (p : Nat)).2.2 ≠ 0 ∨ last.length < (res bs (p : Nat)).1
  · rw [step_a h1] at hs; cases hs
  · obtain ⟨⟨c, a, e⟩, hr1⟩ : ∃ r, r = res bs (p : Nat) := ⟨_, rfl⟩
    rw [← hr1] at h1
    simp only [not_or, Nat.not_lt, ne_eq, Decidable.not_not] at h1
    obtain ⟨rfl, h1⟩ := h1
    by_cases h2 : (res bs (a : Nat)).2.2 ≠ 0
    · rw [step_b hr1.symm (by omega) h2] at hs; cases hs
    · obtain ⟨⟨n, d, e⟩, hr2⟩ : ∃ r, r = res bs (a : Nat) := ⟨_, rfl⟩
      rw [← hr2] at h2
      simp only [ne_eq, Decidable.not_not] at h2
      subst h2
      by_cases h3 : (res bs (d : Nat)).2.2 ≠ 0 ∨ bs.length - (res bs (d : Nat)).2.1 < n ∨ bs.length - (res bs (d : Nat)).2.1 - n < (res bs (d : Nat)).1
      · rw [step_c hr1.symm (by omega) hr2.symm h3] at hs; cases hs
      · obtain ⟨⟨v, q', e⟩, hr3⟩ : ∃ r, r = res bs (d : Nat) := ⟨_, rfl⟩
        rw [← hr3] at h3
        simp only [not_or, Nat.not_lt, ne_eq, Decidable.not_not] at h3
        obtain ⟨rfl, h3, h4⟩ := h3
        have g1 := res_ok hr1.symm
        have g2 := res_ok hr2.symm
        have g3 := res_ok hr3.symm
        rw [step_d hr1.symm (by omega) hr2.symm hr3.symm (by omega) (by omega)] at hs
        split at hs
        · cases hs
        · injection hs with hs
          injection hs with _ hs
          injection hs with hk hq
          omega
theorem spots_rise {bs : List Nat} : ∀ (f p : Nat) (last : List Nat), (spots bs f p last).Pairwise (· < ·) ∧ ∀ e, e ∈ spots bs f p last → p ≤ e := by
  intro f
  induction f with
  | zero => intro p last; simp [spots]
  | succ f ih =>
    intro p last
    by_cases h : bs.length ≤ p
    · rw [spots_end h]; simp
    · cases hs : step bs p last with
      | none =>
        have e : spots bs (f + 1) p last = [] := by unfold spots; rw [if_neg h, hs]
        rw [e]; simp
      | some r =>
        obtain ⟨t, kb, q⟩ := r
        rw [spots_one (by omega) hs]
        have h1 := step_adv hs
        obtain ⟨h2, h3⟩ := ih q kb
        refine ⟨List.pairwise_cons.2 ⟨fun e he => by have := h3 e he; omega, h2⟩, fun e he => ?_⟩
        rcases List.mem_cons.1 he with rfl | he
        · exact Nat.le_refl _
        · have := h3 e he; omega
/-- The interval that bytes tell of. -/
def evB (bs : List Nat) : Nat := ival (spots (front bs) ((front bs).length + 1) 0 []) (rest bs)
/-- A box of three. -/
abbrev put3 (w : World) (g : Nat) (a b c : Value) : World := ((w.setCell ⟨g, 0, none⟩ a).setCell ⟨g, 1, none⟩ b).setCell ⟨g, 2, none⟩ c
theorem put3_box {w : World} {g : Nat} {T : TypeId} {u0 u1 u2 : Value} (h : Lift.Box w g T [u0, u1, u2]) (a b c : Value) : Lift.Box (put3 w g a b c) g T [a, b, c] := ((h.set 0 a).set 1 b).set 2 c
theorem put3_off (w : World) (g : Nat) (a b c : Value) (k : Nat) (hk : k ≠ g) : (put3 w g a b c).heap[k]? = w.heap[k]? := by
  unfold put3
  rw [Below.heap_setCell _ _ _ _ hk, Below.heap_setCell _ _ _ _ hk, Below.heap_setCell _ _ _ _ hk]
theorem put3_size (w : World) (g : Nat) (a b c : Value) : (put3 w g a b c).heap.size = w.heap.size := by simp [put3]
theorem put3_below {B : Nat} {w0 w : World} (h : Below B w0 w) {g : Nat} (hg : B ≤ g) (a b c : Value) : Below B w0 (put3 w g a b c) :=
  ((h.setCell (p := ⟨g, 0, none⟩) hg _).setCell (p := ⟨g, 1, none⟩) hg _).setCell (p := ⟨g, 2, none⟩) hg _
theorem own_put3 {w : World} {g base size n : Nat} {e : TypeId} {v : Value} {xs : List Value} (h : w.ownsRow base e size v n xs) (hg : g < base) (a b c : Value) : (put3 w g a b c).ownsRow base e size v n xs := by
  refine ⟨h.1, ?_⟩
  rcases h.2 with h0 | ⟨k, cap, cur, hv, hB, hh, r⟩
  · exact .inl h0
  · exact .inr ⟨k, cap, cur, hv, hB, (put3_off w g a b c k (by omega)).trans hh, r⟩
/-- What read answers. -/
def Opn (w : World) (bs : List Nat) (e : Ending) (w' : World) : Prop :=
  Below w.heap.size w w' ∧ (((allB bs).1 = [] ∧ (allB bs).2 ≠ 0 ∧ e = .returned (.tuple #[.agg #[.slice none 0 0, .slice none 0 0, .int .i64 0], .int .i64 ((allB bs).2 : Nat)])) ∨
    ((allB bs).2 = 0 ∧ ∃ (A A7 : Option Addr) (c : Nat) (L : List D), IsB bs (L.map D.t) ∧ (allB bs).1 = L.map D.t ∧ e = .returned (.tuple #[.agg #[.slice A L.length c, .slice A7 (rest bs).length (rest bs).length, .int .i64 (evB bs : Int)], .int .i64 0]) ∧
      Ents w' (fun k => w.heap.size ≤ k ∧ k < w'.heap.size) A c L ∧ w'.ownsRow w.heap.size 3 1 (.slice A7 (rest bs).length (rest bs).length) (rest bs).length ((rest bs).map vn)))
theorem opn_bad {w w' : World} {bs : List Nat} {n : Nat} (h : allB bs = ([], n)) (hn : n ≠ 0) (hb : Below w.heap.size w w') : Opn w bs (.returned (.tuple #[.agg #[.slice none 0 0, .slice none 0 0, .int .i64 0], .int .i64 (n : Int)])) w' := ⟨hb, .inl (by rw [h]; exact ⟨rfl, hn, rfl⟩)⟩
theorem opn_bad0 {w0 w1 W : World} {bs : List Nat} {n : Nat} (h : allB bs = ([], n)) (hn : n ≠ 0) (hb0 : Below w0.heap.size w0 w1) (hs : w1.heap.size = w0.heap.size + 1) (hb : Below w1.heap.size w1 W) (a b c : Value) :
    Opn w0 bs (.returned (.tuple #[.agg #[.slice none 0 0, .slice none 0 0, .int .i64 0], .int .i64 (n : Int)])) (put3 W w0.heap.size a b c) :=
  opn_bad h hn (put3_below (hb0.trans (hb.mono (by omega))) (Nat.le_refl _) _ _ _)
theorem box_later {w0 w1 W : World} {T : TypeId} {us : List Value} (h : Lift.Box w1 w0.heap.size T us) (hs : w1.heap.size = w0.heap.size + 1) (hb : Below w1.heap.size w1 W) : Lift.Box W w0.heap.size T us := h.below hb (by omega)
set_option maxRecDepth 1000000 in
set_option maxHeartbeats 3200000 in
theorem oread_blk (A : Option Addr) (c : Nat) (bs : List Nat) (w0 : World) (hl0 : Lies w0 w0.heap.size A (bs.map vb)) (hc : bs.length ≤ c) (hm : c ≤ maxLen) (hs : bs.length ≤ 50000000) (h8 : ∀ x, x ∈ bs → x < 256) :
    Calls Try.prog 37 #[.slice A bs.length c] w0 (Opn w0 bs) := by
  obtain ⟨zc, hzc⟩ : ∃ o : Obj, o = .cells #[.slice none 0 0, .slice none 0 0, .int .i64 0] 71 := ⟨_, rfl⟩
  have hb0 : Below w0.heap.size w0 (w0.alloc zc) := Joins.below_alloc1 w0 zc
  have hl : Lies (w0.alloc zc) (w0.alloc zc).heap.size A (bs.map vb) := (hl0.below hb0).up hb0.size
  have hx0 : Lift.Box (w0.alloc zc) w0.heap.size 71 [.slice none 0 0, .slice none 0 0, .int .i64 0] := by rw [hzc]; exact Lift.Box.new w0 _ _
  have hs0 : (w0.alloc zc).heap.size = w0.heap.size + 1 := by simp
  have HB0 := Lib.hid hb0
  have HX0 := Lib.hid hx0
  have HS0 := Lib.hid hs0
  clear hb0 hx0 hs0 hl0
  have HL := Lib.hid hl
  have H8 := Lib.hid h8
  have HM := Lib.hid hm
  have hcs := hm
  unfold maxLen at hcs
  by_cases h8l : bs.length < 8
  · have HE := Lib.hid (allB_short h8l)
    have d1 : (bs.length : Int) < 8 := by omega
    clear hl h8
    go_enter Try.func37, Try.ntmps37
    go_upto_region 1 with fail
    rw [← hzc]
    clear hzc
    generalize w0.alloc zc = w at *
    obtain ⟨f0, f1, f2, f3, f4, f5⟩ := (box_later HX0.out HS0.out (Below.refl _ _)).facts3
    go_wp2_with fail
    have hbx := put3_box (box_later HX0.out HS0.out (Below.refl _ _)) (.slice none 0 0) (.slice none 0 0) (.int .i64 0)
    refine bodyPost_ret (results_box rfl Try.underlying71 (by kernel_rfl) _ rfl hbx) rfl ?_
    exact opn_bad0 HE.out (by decide) HB0.out HS0.out (Below.refl _ _) _ _ _
  · have d1 : decide ((bs.length : Int) < 8) = false := decide_eq_false (by omega)
    obtain ⟨m, hmm⟩ : ∃ m, bs.length = m + 8 := ⟨bs.length - 8, by omega⟩
    have H8L := Lib.hid h8l
    have e4 : bs.length - 4 = m + 4 := by omega
    have HE4 := Lib.hid e4
    have HMM := Lib.hid hmm
    have hc1 := ocut_any A c bs.length 4 (w0.alloc zc) (by omega) hc hm
    unfold Cutt at hc1
    rw [e4] at hc1
    have HC1 := Lib.hid hc1
    clear hc1
    have ht4 : (bs.take (m + 4)).length = m + 4 := by rw [List.length_take]; omega
    have hd4 : (bs.drop (m + 4)).length = 4 := by rw [List.length_drop]; omega
    have HT4 := Lib.hid ht4
    have HD4 := Lib.hid hd4
    clear hl h8 hmm e4 h8l ht4 hd4
    go_enter Try.func37, Try.ntmps37
    go_upto_region 1 with fail
    rw [← hzc]
    clear hzc
    generalize w0.alloc zc = w at *
    go_wp2_with fail
    refine HC1.out.mono ?_
    rintro e w1 ⟨A1, q, hA1, rfl, rfl⟩
    have hb1 := Joins.below_draws w.heap.size w q
    have hcm : c - (m + 4) ≤ maxLen := Nat.le_trans (Nat.sub_le _ _) HM.out
    have HNU : Hid (Calls Try.prog 68 #[.slice A1 4 (c - (m + 4))] (w.drewN q) fun e w' => e = .returned (.int .u32 (num (bs.drop (m + 4)) : Nat)) ∧ w.drewN q = w') := Lib.hid (by
      have h := onumber_any A1 (c - (m + 4)) w.heap.size (bs.drop (m + 4)) (w.drewN q) (Lies.cut (HL.out.below hb1) (fun _ => hA1 (by omega)) (List.prefix_refl _)) (by rw [HD4.out]; omega) (by rw [HD4.out]; have := HMM.out; omega) hcm (fun x hx => H8.out x (List.mem_of_mem_drop hx))
      rw [HD4.out] at h
      exact h)
    have hb1' : Below w.heap.size w (w.drewN q) := hb1
    have HSU : Hid (Calls Try.prog 33 #[.slice A (m + 4) c] (w.drewN q) fun e w' => e = .returned (.int .u32 (Crc.maskN (Crc.crc Crc.ent (bs.take (m + 4))) : Nat)) ∧ Below (w.drewN q).heap.size (w.drewN q) w') := Lib.hid (by
      have h := osum_any A c (bs.take (m + 4)) (w.drewN q) (((HL.out.below hb1).up hb1.size).front (by rw [List.map_take]; exact List.take_prefix _ _)) (by rw [HT4.out]; have := HMM.out; omega) HM.out (fun x hx => H8.out x (List.mem_of_mem_take hx))
      rw [HT4.out] at h
      exact h)
    have hsi := sum_iff (bs := bs) (by have := HMM.out; omega) H8.out
    rw [HE4.out] at hsi
    have HSI := Lib.hid hsi
    have HB1 := Lib.hid hb1
    have HML := Crc.maskN_lt (Crc.crc Crc.ent (bs.take (m + 4)))
    have hnl : num (bs.drop (m + 4)) < 4294967296 := by
      have := num_lt (bs.drop (m + 4)) fun x hx => H8.out x (List.mem_of_mem_drop hx)
      rwa [HD4.out] at this
    clear hsi hb1 hb1' hA1 HC1 hcm
    generalize w.drewN q = W1 at *
    obtain ⟨M, hM⟩ : ∃ M, M = Crc.maskN (Crc.crc Crc.ent (bs.take (m + 4))) := ⟨_, rfl⟩
    obtain ⟨N, hN⟩ : ∃ N, N = num (bs.drop (m + 4)) := ⟨_, rfl⟩
    rw [← hM] at HSU HSI HML
    rw [← hN] at HNU HSI hnl
    clear hM hN
    go_wp2_with fail
    refine HNU.out.mono ?_
    rintro e w' ⟨rfl, rfl⟩
    go_wp2_with fail
    refine HSU.out.mono ?_
    rintro e W2 ⟨rfl, hb2⟩
    have HB2 := Lib.hid (HB1.out.trans (hb2.mono HB1.out.size))
    clear hb2 HSU HNU
    by_cases hsum : N = M
    · have HSUM : Hid (bs.drop (bs.length - 4) = sum4 (bs.take (bs.length - 4))) := Lib.hid (by rw [HE4.out]; exact HSI.out.1 hsum)
      have d3 : ((N : Int) != (M : Int)) = false := by rw [bne_eq_false_iff_eq, hsum]
      subst hsum
      have HRR : Hid (Calls Try.prog 69 #[.slice A (m + 4) c] W2 (Rres W2 bs A c)) := Lib.hid (by
        have h := orest_any A c bs W2 ((HL.out.below HB2.out).up HB2.out.size) (by have := HMM.out; omega) hc HM.out hs H8.out
        rwa [HE4.out] at h)
      go_wp2_with fail
      refine HRR.out.mono ?_
      rintro e W3 ⟨hb3, (⟨hbig, rfl⟩ | ⟨hle, Ar, rfl, hown3⟩)⟩
      · have HB3 := Lib.hid (HB2.out.trans (hb3.mono HB2.out.size))
        have HE : Hid (allB bs = ([], 2)) := Lib.hid (allB_bad H8L.out HSUM.out fun ⟨us, hu⟩ => by have := (isB_raw hu).2.2.1; omega)
        clear hb3 hbig HRR
        obtain ⟨f0, f1, f2, f3, f4, f5⟩ := (box_later HX0.out HS0.out HB3.out).facts3
        go_wp2_with fail
        have hbx := put3_box (box_later HX0.out HS0.out HB3.out) (.slice none 0 0) (.slice none 0 0) (.int .i64 0)
        refine bodyPost_ret (results_box rfl Try.underlying71 (by kernel_rfl) _ rfl hbx) rfl ?_
        exact opn_bad0 HE.out (by decide) HB0.out HS0.out HB3.out _ _ _
      · have HB3 := Lib.hid (HB2.out.trans (hb3.mono HB2.out.size))
        have HO3 := Lib.hid (own_lower hown3 HB2.out.size)
        have hpre : (front bs) <+: bs := List.take_prefix _ _
        have hfl : (front bs).length ≤ bs.length := by unfold front; rw [List.length_take]; omega
        have HRE := Lib.hid (oread_any A c (front bs) W3 (((HL.out.below HB3.out).up HB3.out.size).front (by obtain ⟨t, ht⟩ := hpre; exact ⟨t.map vb, by rw [← List.map_append, ht]⟩)) (by omega) HM.out (by omega) (fun x hx => H8.out x (List.take_subset _ _ hx)))
        clear hb3 hown3 hpre HRR
        go_wp2_with fail
        refine HRE.out.mono ?_
        rintro e W4 ⟨hb4, (⟨hno, rfl⟩ | ⟨A5, A7, c5, c7, L, S, hlo, hsp, h10, hlen, rfl, hents, howns⟩)⟩
        · have HB4 := Lib.hid (HB3.out.trans (hb4.mono HB3.out.size))
          have HE : Hid (allB bs = ([], 2)) := Lib.hid (raw_no H8L.out HSUM.out (by
            rcases hno with h | ⟨ts, h, hb⟩
            · exact .inl h
            · exact .inr ⟨ts, h, may_big hb⟩))
          clear hb4 hno HRE
          obtain ⟨f0, f1, f2, f3, f4, f5⟩ := (box_later HX0.out HS0.out HB4.out).facts3
          go_wp2_with fail
          have hbx := put3_box (box_later HX0.out HS0.out HB4.out) (.slice none 0 0) (.slice none 0 0) (.int .i64 0)
          refine bodyPost_ret (results_box rfl Try.underlying71 (by kernel_rfl) _ rfl hbx) rfl ?_
          exact opn_bad0 HE.out (by decide) HB0.out HS0.out HB4.out _ _ _
        · have HB4 := Lib.hid (HB3.out.trans (hb4.mono HB3.out.size))
          have HO4 := Lib.hid (own_later HO3.out hb4)
          have hents4 : Ents W4 (· < W4.heap.size) A5 c5 L := hents.mono fun k hk => hk.2
          have HEN : Hid (Ents W4 (fun k => w.heap.size ≤ k ∧ k < W4.heap.size) A5 c5 L) := Lib.hid (hents.mono fun k hk => ⟨Nat.le_trans HB3.out.size hk.1, hk.2⟩)
          have HOS := Lib.hid howns
          have HCK := Lib.hid (ocheck_any A5 c5 L W4 hents4 (by omega))
          have HRAW : Hid (raw bs = some (L.map D.t)) := Lib.hid hlo
          have HSP := Lib.hid hsp
          have hlS : S.length ≤ 10000 := by omega
          clear hb4 hents hents4 howns hlo hsp HRE HO3 hlen
          go_wp2_with fail
          refine HCK.out.mono ?_
          rintro e W5 ⟨rfl, hb5⟩
          have HB5 := Lib.hid (HB4.out.trans (hb5.mono HB4.out.size))
          by_cases hmay : may (L.map D.t) = 0
          · obtain ⟨hok, -, -⟩ := may_zero hmay
            have hokL : ∀ d, d ∈ L → okT d.t = true := fun d hd => hok _ (List.mem_map.2 ⟨d, hd, rfl⟩)
            have hents5 : Ents W5 (fun k => w.heap.size ≤ k ∧ k < W5.heap.size) A5 c5 L := HEN.out.later (fun k hk => hb5.block k hk.2) fun k hk => ⟨hk.1, Nat.lt_of_lt_of_le hk.2 hb5.size⟩
            have hlS5 : Lies W5 W5.heap.size A7 (S.map vn) := Lies.of_own (own_later HOS.out hb5)
            have hlR5 : Lies W5 W5.heap.size Ar ((rest bs).map vn) := Lies.of_own (own_later HO4.out hb5)
            have hrl : (rest bs).length ≤ 100000000 := by unfold rest; rw [List.length_map, List.length_range]; omega
            have HIV := Lib.hid (oival_any A7 Ar c7 (rest bs).length S (rest bs) W5 hlS5 hlR5 (by omega) hrl (by rw [HSP.out]; exact (spots_rise _ _ _).1))
            have HLY := Lib.hid (olay_any A5 c5 L ((ival S (rest bs) : Nat) : Int) W5 (hents5.mono fun k hk => hk.2) hokL h10)
            have HEN5 := Lib.hid hents5
            have HO5 := Lib.hid (own_later HO4.out hb5)
            have HIFF := Lib.hid (isB_iff (by omega) (by have := HMM.out; omega) HSUM.out HRAW.out hmay)
            rw [← HSP.out, HE4.out] at HIFF
            have HB8 := Lib.hid (bare_byte (every := clamp ((ival S (rest bs) : Nat) : Int)) (L := L) fun d hd => ⟨hokL d hd, (hents5.ok d hd).ok, (hents5.ok d hd).v8⟩)
            have HMAY := Lib.hid hmay
            rw [hmay]
            clear hb5 hmay hok hokL hents5 hlS5 hlR5 hrl HCK
            generalize bare (clamp ((ival S (rest bs) : Nat) : Int)) (L.map D.t) = bb at *
            obtain ⟨iv, hiv⟩ : ∃ iv, iv = ival S (rest bs) := ⟨_, rfl⟩
            have HIVE : Hid (evB bs = iv) := Lib.hid (by rw [hiv, HSP.out]; rfl)
            rw [← hiv] at HIV HLY
            clear hiv
            go_wp2_with fail
            refine HIV.out.mono ?_
            rintro e w' ⟨rfl, rfl⟩
            go_wp2_with fail
            refine HLY.out.mono ?_
            intro e W6 hmade
            obtain ⟨v6, rfl, ho6, -, hb6⟩ := made_byts hmade
            obtain ⟨A6, c6, rfl, q1, q2, q3⟩ := own_parts ho6
            have HB6 := Lib.hid (HB5.out.trans (hb6.mono HB5.out.size))
            have HEQ : Hid (Calls Try.prog 52 #[.slice A6 bb.length c6, .slice A (m + 4) c] W6 fun e w' => e = .returned (.bool (decide (bb = bs.take (m + 4)))) ∧ W6 = w') := Lib.hid (by
              have h := equal_any A6 A c6 c bb (bs.take (m + 4)) W6 q3 (((HL.out.below HB6.out).up HB6.out.size).front (by rw [List.map_take]; exact List.take_prefix _ _)) HB8.out (fun x hx => H8.out x (List.mem_of_mem_take hx))
              rwa [HT4.out] at h)
            have HEN6 : Hid (Ents W6 (fun k => w.heap.size ≤ k ∧ k < W6.heap.size) A5 c5 L) := Lib.hid (HEN5.out.later (fun k hk => hb6.block k hk.2) fun k hk => ⟨hk.1, Nat.lt_of_lt_of_le hk.2 hb6.size⟩)
            have HO6 := Lib.hid (own_later HO5.out hb6)
            clear hmade ho6 q3 hb6 HIV HLY
            go_wp2_with fail
            refine HEQ.out.mono ?_
            rintro e w' ⟨rfl, rfl⟩
            by_cases heq : bb = bs.take (m + 4)
            · have d9 : decide (bb = bs.take (m + 4)) = true := decide_eq_true heq
              have HIS := Lib.hid (HIFF.out.1 heq)
              have HAL := Lib.hid (allB_ok HIS.out)
              rw [d9]
              clear heq d9
              obtain ⟨f0, f1, f2, f3, f4, f5⟩ := (box_later HX0.out HS0.out HB6.out).facts3
              go_wp2_with fail
              have hbx := put3_box (box_later HX0.out HS0.out HB6.out) (.slice A5 L.length c5) (.slice Ar (rest bs).length (rest bs).length) (.int .i64 (iv : Int))
              refine bodyPost_ret (results_box rfl Try.underlying71 (by kernel_rfl) _ rfl hbx) rfl ?_
              have hoff := put3_off W6 w0.heap.size (.slice A5 L.length c5) (.slice Ar (rest bs).length (rest bs).length) (.int .i64 (iv : Int))
              have hsz := put3_size W6 w0.heap.size (.slice A5 L.length c5) (.slice Ar (rest bs).length (rest bs).length) (.int .i64 (iv : Int))
              have hS0 := HS0.out
              refine ⟨put3_below (HB0.out.trans (HB6.out.mono (by omega))) (Nat.le_refl _) _ _ _, .inr ⟨by rw [HAL.out], A5, Ar, c5, L, HIS.out, by rw [HAL.out], by rw [HIVE.out]; rfl, ?_, ?_⟩⟩
              · refine HEN6.out.later (fun k hk => hoff k (by omega)) fun k hk => ⟨by omega, by rw [hsz]; exact hk.2⟩
              · exact own_lower (own_put3 HO6.out (by omega) _ _ _) (by omega)
            · have d9 : decide (bb = bs.take (m + 4)) = false := decide_eq_false heq
              have HE : Hid (allB bs = ([], 2)) := Lib.hid (allB_bad H8L.out HSUM.out fun ⟨us, hu⟩ => heq (HIFF.out.2 (by
                have h1 := (isB_raw hu).2.2.2
                rw [HRAW.out] at h1
                injection h1 with h1
                rw [h1]
                exact hu)))
              rw [d9]
              clear heq d9
              obtain ⟨f0, f1, f2, f3, f4, f5⟩ := (box_later HX0.out HS0.out HB6.out).facts3
              go_wp2_with fail
              have hbx := put3_box (box_later HX0.out HS0.out HB6.out) (.slice none 0 0) (.slice none 0 0) (.int .i64 0)
              refine bodyPost_ret (results_box rfl Try.underlying71 (by kernel_rfl) _ rfl hbx) rfl ?_
              exact opn_bad0 HE.out (by decide) HB0.out HS0.out HB6.out _ _ _
          · have HE : Hid (allB bs = ([], 2)) := Lib.hid (raw_no H8L.out HSUM.out (.inr ⟨_, HRAW.out, hmay⟩))
            have d4 : ((may (L.map D.t) : Int) != 0) = true := by rw [bne_iff_ne]; omega
            have hml : may (L.map D.t) ≤ 10 := by unfold may; split; omega; split; omega; split <;> omega
            clear hb5 hmay HCK
            generalize may (L.map D.t) = mm at *
            obtain ⟨f0, f1, f2, f3, f4, f5⟩ := (box_later HX0.out HS0.out HB5.out).facts3
            go_wp2_with fail
            have hbx := put3_box (box_later HX0.out HS0.out HB5.out) (.slice none 0 0) (.slice none 0 0) (.int .i64 0)
            refine bodyPost_ret (results_box rfl Try.underlying71 (by kernel_rfl) _ rfl hbx) rfl ?_
            exact opn_bad0 HE.out (by decide) HB0.out HS0.out HB5.out _ _ _
    · have HE : Hid (allB bs = ([], 5)) := Lib.hid (allB_sum H8L.out (by rw [HE4.out]; exact fun h => hsum (HSI.out.2 h)))
      have d3 : ((N : Int) != (M : Int)) = true := by rw [bne_iff_ne]; omega
      clear hsum
      obtain ⟨f0, f1, f2, f3, f4, f5⟩ := (box_later HX0.out HS0.out HB2.out).facts3
      go_wp2_with fail
      have hbx := put3_box (box_later HX0.out HS0.out HB2.out) (.slice none 0 0) (.slice none 0 0) (.int .i64 0)
      refine bodyPost_ret (results_box rfl Try.underlying71 (by kernel_rfl) _ rfl hbx) rfl ?_
      exact opn_bad0 HE.out (by decide) HB0.out HS0.out HB2.out _ _ _
/-- What Open answers. -/
def Opnd (w : World) (bs : List Nat) (e : Ending) (w' : World) : Prop :=
  Below w.heap.size w w' ∧ (((allB bs).1 = [] ∧ (allB bs).2 ≠ 0 ∧ e = .returned (.tuple #[.slice none 0 0, .int .i64 0, .int .i64 ((allB bs).2 : Nat)])) ∨
    ((allB bs).2 = 0 ∧ ∃ (A : Option Addr) (c : Nat) (L : List D), IsB bs (L.map D.t) ∧ (allB bs).1 = L.map D.t ∧ e = .returned (.tuple #[.slice A L.length c, .int .i64 (evB bs : Int), .int .i64 0]) ∧
      Ents w' (fun k => w.heap.size ≤ k ∧ k < w'.heap.size) A c L))
theorem allB_le (bs : List Nat) : (allB bs).2 ≤ 10 := by
  unfold allB
  split
  · simp
  · split
    · simp
    · split <;> simp
set_option maxRecDepth 100000 in
set_option maxHeartbeats 800000 in
theorem oopen_any (A : Option Addr) (c : Nat) (bs : List Nat) (w : World) (hl : Lies w w.heap.size A (bs.map vb)) (hc : bs.length ≤ c) (hm : c ≤ maxLen) (hs : bs.length ≤ 50000000) (h8 : ∀ x, x ∈ bs → x < 256) :
    Calls Try.prog 109 #[.slice A bs.length c] w (Opnd w bs) := by
  have HO := Lib.hid (oread_blk A c bs w hl hc hm hs h8)
  have hle := allB_le bs
  clear hl h8
  go_enter Try.func109, Try.ntmps109
  go_wp2_with fail
  refine HO.out.mono ?_
  rintro e W ⟨hb, (⟨h1, h2, rfl⟩ | ⟨h2, A1, A7, c1, L, hB, h1, rfl, hents, hown⟩)⟩
  · have H1 := Lib.hid h1
    have HB := Lib.hid hb
    obtain ⟨n, hn⟩ : ∃ n, n = (allB bs).2 := ⟨_, rfl⟩
    have HNN := Lib.hid hn
    have H2 : Hid (n ≠ 0) := Lib.hid (by rw [hn]; exact h2)
    rw [← hn] at hle ⊢
    clear hn h1 h2 hb HO
    obtain ⟨o, ho⟩ : ∃ o : Obj, o = .cells #[.slice none 0 0, .slice none 0 0, .int .i64 0] 71 := ⟨_, rfl⟩
    have hx : Lift.Box (W.alloc o) W.heap.size 71 [.slice none 0 0, .slice none 0 0, .int .i64 0] := by rw [ho]; exact Lift.Box.new W _ _
    obtain ⟨f0, f1, f2, -, -, -⟩ := hx.facts3
    have HBW := Lib.hid (HB.out.trans ((Joins.below_alloc1 W o).mono HB.out.size))
    clear hx
    go_upto_region 2 with fail
    rw [← ho]
    clear ho
    generalize W.alloc o = W2 at *
    go_quiet (fail)
    go_wp2_with fail
    go_returns
    exact ⟨HBW.out.trans (Joins.below_draws _ _ _), .inl ⟨H1.out, by rw [← HNN.out]; exact H2.out, by rw [← HNN.out]; rfl⟩⟩
  · have H1 := Lib.hid h1
    have H2 := Lib.hid h2
    have HI := Lib.hid hB
    have HB := Lib.hid hb
    have HE := Lib.hid hents
    clear h1 h2 hb HO hB hents hown hle
    obtain ⟨v, hv⟩ : ∃ v, v = evB bs := ⟨_, rfl⟩
    have HV := Lib.hid hv
    rw [← hv]
    obtain ⟨r, hr⟩ : ∃ r, r = (rest bs).length := ⟨_, rfl⟩
    rw [← hr]
    clear hv hr
    obtain ⟨o, ho⟩ : ∃ o : Obj, o = .cells #[.slice A1 L.length c1, .slice A7 r r, .int .i64 (v : Int)] 71 := ⟨_, rfl⟩
    have hx : Lift.Box (W.alloc o) W.heap.size 71 [.slice A1 L.length c1, .slice A7 r r, .int .i64 (v : Int)] := by rw [ho]; exact Lift.Box.new W _ _
    obtain ⟨f0, f1, f2, -, -, -⟩ := hx.facts3
    have hba := Joins.below_alloc1 W o
    have HBW := Lib.hid (HB.out.trans (hba.mono HB.out.size))
    have HE2 : Hid (Ents (W.alloc o) (fun k => w.heap.size ≤ k ∧ k < (W.alloc o).heap.size) A1 c1 L) := Lib.hid (HE.out.later (fun k hk => hba.block k hk.2) fun k hk => ⟨hk.1, Nat.lt_of_lt_of_le hk.2 hba.size⟩)
    clear hx hba
    go_upto_region 2 with fail
    rw [← ho]
    clear ho
    generalize W.alloc o = W2 at *
    go_quiet (fail)
    go_wp2_with fail
    go_returns
    exact ⟨HBW.out.trans (Joins.below_draws _ _ _), .inr ⟨H2.out, A1, c1, L, HI.out, H1.out, by rw [← HV.out]; rfl, HE2.out.later (fun k hk => (Joins.below_draws W2.heap.size W2 _).block k hk.2) fun k hk => ⟨hk.1, Nat.lt_of_lt_of_le hk.2 (Joins.below_draws W2.heap.size W2 _).size⟩⟩⟩
end Go.Proofs.Ytobjiamdljjkjaa.Bk

/- Package block and the document: what Build answers. -/
namespace Go.Proofs.Ytobjiamdljjkjaa.Bk
set_option linter.unusedVariables false
set_option linter.unusedSimpArgs false
open Go.RowKit Lift Ik Sk Vn
/-- What Build packs. -/
def bldB (ev : Int) (ts : List T) : List Nat := if may ts = 0 then blk (clamp ev) ts else []
theorem bldB_ok {ev : Int} {ts : List T} (h : may ts = 0) : bldB ev ts = blk (clamp ev) ts := if_pos h
theorem bldB_no {ev : Int} {ts : List T} (h : ¬ may ts = 0) : bldB ev ts = [] := if_neg h
theorem may_le (ts : List T) : may ts ≤ 10 := by unfold may; split; omega; split; omega; split <;> omega
theorem bare_max {every : Nat} {ts : List T} (hok : ∀ t, t ∈ ts → okT t = true) : (bare every ts).length ≤ 4404 * ts.length + 4 := by
  have h1 := body_max every ts 0 [] hok
  have h2 := ends_le every ts 0 [] 0
  have h3 := foot_len (ends every 0 [] 0 ts)
  unfold bare
  rw [List.length_append, h3]
  omega
theorem blk_max {every : Nat} {ts : List T} (hok : ∀ t, t ∈ ts → okT t = true) : (blk every ts).length ≤ 4404 * ts.length + 8 := by
  have h1 := bare_max (every := every) hok
  unfold blk
  rw [List.length_append, sum4_len]
  omega
theorem sum4_byte (b : List Nat) : ∀ x, x ∈ sum4 b → x < 256 := low_byte _ 4
theorem blk_byte {every : Nat} {L : List D} (h : ∀ d, d ∈ L → okT d.t = true ∧ d.k.ok ∧ ∀ c, c ∈ d.val → c < 256) : ∀ x, x ∈ blk every (L.map D.t) → x < 256 := by
  intro x hx
  unfold blk at hx
  rcases List.mem_append.1 hx with h1 | h1
  · exact bare_byte h x h1
  · exact sum4_byte _ x h1
/-- What Build answers. -/
def Bld (w : World) (ev : Int) (ts : List T) (e : Ending) (w' : World) : Prop :=
  ∃ v, e = .returned (.tuple #[v, .int .i64 (may ts : Nat)]) ∧ w'.ownsRow w.heap.size 5 1 v (bldB ev ts).length ((bldB ev ts).map vb) ∧ Below w.heap.size w w'
theorem Bld.no {w w' : World} {ev : Int} {ts : List T} (h : ¬ may ts = 0) (hb : Below w.heap.size w w') : Bld w ev ts (.returned (.tuple #[.slice none 0 0, .int .i64 (may ts : Nat)])) w' :=
  ⟨_, rfl, by rw [bldB_no h]; exact World.ownsRow_nil _ _ _ _, hb⟩
set_option maxRecDepth 100000 in
set_option maxHeartbeats 1600000 in
theorem obuild_any (A : Option Addr) (c : Nat) (L : List D) (ev : Int) (w : World) (h1 : Ents w (· < w.heap.size) A c L) (hn : L.length ≤ 1000000) :
    Calls Try.prog 12 #[.slice A L.length c, .int .i64 ev] w (Bld w ev (L.map D.t)) := by
  have HCK := Lib.hid (ocheck_any A c L w h1 hn)
  have hml := may_le (L.map D.t)
  by_cases hmay : may (L.map D.t) = 0
  · obtain ⟨hok, -, hlen⟩ := may_zero hmay
    rw [List.length_map] at hlen
    have hokL : ∀ d, d ∈ L → okT d.t = true := fun d hd => hok _ (List.mem_map.2 ⟨d, hd, rfl⟩)
    have HLY := Lib.hid (fun (W : World) (hb : Below w.heap.size w W) => olay_any A c L ev W (h1.next hb) hokL hlen)
    have hbm := bare_max (every := clamp ev) hok
    rw [List.length_map] at hbm
    have hbb := bare_byte (every := clamp ev) (L := L) fun d hd => ⟨hokL d hd, (h1.ok d hd).ok, (h1.ok d hd).v8⟩
    have HMAY := Lib.hid hmay
    have HBE := Lib.hid (bldB_ok (ev := ev) hmay)
    unfold blk sum4 at HBE
    rw [hmay] at HCK
    clear hmay hok hokL h1 hml
    generalize bare (clamp ev) (L.map D.t) = bb at *
    have HBM : Hid (bb.length ≤ 100000000) := Lib.hid (by omega)
    have HBB := Lib.hid hbb
    clear hbm hbb hlen
    go_enter Try.func12, Try.ntmps12
    go_wp2_with fail
    refine HCK.out.mono ?_
    rintro e W1 ⟨rfl, hb1⟩
    have HB1 := Lib.hid hb1
    clear hb1
    go_wp2_with fail
    refine (HLY.out W1 HB1.out).mono ?_
    intro e W2 hmade
    obtain ⟨v2, rfl, ho2, -, hb2⟩ := made_byts hmade
    obtain ⟨A2, c2, rfl, q1, q2, q3⟩ := own_parts ho2
    have HB2 := Lib.hid (HB1.out.trans (hb2.mono HB1.out.size))
    have HO2 := Lib.hid (own_lower ho2 HB1.out.size)
    have HS := Lib.hid (osum_any A2 c2 bb W2 q3 q1 q2 HBB.out)
    have HML := Lib.hid (Crc.maskN_lt (Crc.crc Crc.ent bb))
    clear hmade ho2 hb2 q1 q2 q3 HLY HCK
    generalize Crc.maskN (Crc.crc Crc.ent bb) = M at *
    go_wp2_with fail
    refine HS.out.mono ?_
    rintro e W3 ⟨rfl, hb3⟩
    have HB3 := Lib.hid (HB2.out.trans (hb3.mono HB2.out.size))
    have HO3 := Lib.hid (own_later HO2.out hb3)
    have HN := Lib.hid (onums_any w.heap.size M (.slice A2 bb.length c2) bb W3 HO3.out HB3.out.size (by have := HBM.out; omega) HML.out)
    clear hb3 HS
    go_wp2_with fail
    refine HN.out.mono ?_
    rintro e W4 ⟨v4, rfl, ho4, hon4⟩
    have HB4 := Lib.hid (HB3.out.trans (hon4.below HO3.out HB3.out.size))
    obtain ⟨A4, c4, hv4, -, -, -⟩ := own_parts ho4
    have HO4 := Lib.hid ho4
    subst hv4
    clear ho4 hon4 HN
    go_wp2_with fail
    go_returns
    exact ⟨.slice A4 (bb ++ low M 4).length c4, by rw [HMAY.out, List.length_append]; rfl, by rw [HBE.out]; exact HO4.out, HB4.out⟩
  · have d1 : ((may (L.map D.t) : Int) != 0) = true := by rw [bne_iff_ne]; omega
    have HMAY := Lib.hid hmay
    clear hmay h1
    have hE := fun (W : World) (hb : Below w.heap.size w W) => Bld.no (ev := ev) HMAY.out hb
    have HE := Lib.hid hE
    clear hE
    generalize may (L.map D.t) = mm at HCK d1 HE hml
    go_enter Try.func12, Try.ntmps12
    go_wp2_with fail
    refine HCK.out.mono ?_
    rintro e W1 ⟨rfl, hb1⟩
    have HB1 := Lib.hid hb1
    clear hb1
    go_wp2_with fail
    go_returns
    exact HE.out _ HB1.out
theorem betw_any (n : Int) (w : World) : Calls Try.prog 36 #[.int .i64 n, .int .i64 1, .int .i64 100] w fun e w' => e = .returned (.int .i64 (clamp n : Nat)) ∧ w = w' := by
  have hh : ((clamp n : Nat) : Int) = min (max n 1) 100 := by unfold clamp; omega
  by_cases h1 : n < 1
  · have d1 : decide (n < 1) = true := decide_eq_true h1
    have E := Lib.hid (show ((clamp n : Nat) : Int) = 1 by omega)
    clear hh
    go_enter Try.func36, Try.ntmps36
    go_wp2_with fail
    go_ret
    exact ⟨by rw [E.out]; rfl, rfl⟩
  · have d1 : decide (n < 1) = false := decide_eq_false h1
    by_cases h2 : 100 < n
    · have d2 : decide (100 < n) = true := decide_eq_true h2
      have E := Lib.hid (show ((clamp n : Nat) : Int) = 100 by omega)
      clear hh
      go_enter Try.func36, Try.ntmps36
      go_wp2_with fail
      go_ret
      exact ⟨by rw [E.out]; rfl, rfl⟩
    · have d2 : decide (100 < n) = false := decide_eq_false h2
      have E := Lib.hid (show ((clamp n : Nat) : Int) = n by omega)
      clear hh
      go_enter Try.func36, Try.ntmps36
      go_wp2_with fail
      go_ret
      exact ⟨by rw [E.out]; rfl, rfl⟩
set_option maxRecDepth 100000 in
set_option maxHeartbeats 1600000 in
theorem rbuild_any (A : Option Addr) (c : Nat) (L : List D) (ev : Int) (w : World) (h1 : Ents w (· < w.heap.size) A c L) :
    Calls Try.prog 13 #[.slice A L.length c, .int .i64 ev] w (Bld w ev (L.map D.t)) := by
  have HCK := Lib.hid (may_any A c L w h1)
  have hml := may_le (L.map D.t)
  by_cases hmay : may (L.map D.t) = 0
  · obtain ⟨hok, -, hlen⟩ := may_zero hmay
    rw [List.length_map] at hlen
    have hokL : ∀ d, d ∈ L → okT d.t = true := fun d hd => hok _ (List.mem_map.2 ⟨d, hd, rfl⟩)
    have HLY := Lib.hid (fun (W : World) (hb : Below w.heap.size w W) => build_any A c L (clamp ev) W (h1.next hb) hokL hlen (clamp_in ev))
    have HMAY := Lib.hid hmay
    have HBE := Lib.hid (bldB_ok (ev := ev) hmay)
    have HBT := Lib.hid (betw_any ev)
    rw [hmay] at HCK
    clear hmay hok hokL h1 hml
    generalize clamp ev = every at HLY HBE HBT
    go_enter Try.func13, Try.ntmps13
    go_wp2_with fail
    refine HCK.out.mono ?_
    rintro e W1 ⟨rfl, hb1⟩
    have HB1 := Lib.hid hb1
    clear hb1
    go_wp2_with fail
    refine (HBT.out W1).mono ?_
    rintro e w' ⟨rfl, rfl⟩
    go_wp2_with fail
    refine (HLY.out W1 HB1.out).mono ?_
    intro e W2 hmade
    obtain ⟨v2, rfl, ho2, -, hb2⟩ := made_byts hmade
    obtain ⟨A2, c2, hv2, -, -, -⟩ := own_parts ho2
    have HB2 := Lib.hid (HB1.out.trans (hb2.mono HB1.out.size))
    have HO2 := Lib.hid (own_lower ho2 HB1.out.size)
    subst hv2
    clear hmade ho2 hb2 HLY HCK
    go_wp2_with fail
    go_returns
    exact ⟨.slice A2 _ c2, by rw [HMAY.out]; rfl, by rw [HBE.out]; exact HO2.out, HB2.out⟩
  · have d1 : ((may (L.map D.t) : Int) != 0) = true := by rw [bne_iff_ne]; omega
    have HMAY := Lib.hid hmay
    clear hmay h1
    have hE := fun (W : World) (hb : Below w.heap.size w W) => Bld.no (ev := ev) HMAY.out hb
    have HE := Lib.hid hE
    clear hE
    generalize may (L.map D.t) = mm at HCK d1 HE hml
    go_enter Try.func13, Try.ntmps13
    go_wp2_with fail
    refine HCK.out.mono ?_
    rintro e W1 ⟨rfl, hb1⟩
    have HB1 := Lib.hid hb1
    clear hb1
    go_wp2_with fail
    go_returns
    exact HE.out _ HB1.out
end Go.Proofs.Ytobjiamdljjkjaa.Bk
