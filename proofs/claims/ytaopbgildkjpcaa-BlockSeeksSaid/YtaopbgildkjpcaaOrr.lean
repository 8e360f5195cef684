/- Package block: what readRestarts answers. -/
import Derived.Test.YtaopbgildkjpcaaOlay
namespace Go.Proofs.Ytaopbgildkjpcaa.Bk
set_option linter.unusedVariables false
set_option linter.unusedSimpArgs false
open Go.RowKit Lift Ik Sk Vn
theorem make_nums (n : Nat) (hn : n ≤ 1000000000) (W : World) : Sem.run Try.prog (Instr.makeSlice 41 (.int .u32 (n : Int)) (.int .u32 (n : Int))) W = .ok (.slice (some ⟨W.heap.size, 0, none⟩) n n) (W.alloc (.cells (madeCells #[.int .i64 0] n) 3)) := by
  obtain ⟨i, hi, hz, hs, hb⟩ := info_parts (P := Try.prog) (e := 3) (z := .int .i64 0) (size := 1) (bytes := 8) (by kernel_rfl)
  have h := run_make (P := Try.prog) W 41 3 i (.int .i64 0) Try.underlying41 hi hz .u32 .u32 (n : Int) (n : Int) (by omega) (by omega) (by rw [hb]; omega) (by omega)
  rw [hs, Nat.mul_one] at h
  exact h
/-- What readRestarts answers to a block without its sum. -/
def Rres (w : World) (bs : List Nat) (A : Option Addr) (c : Nat) (e : Ending) (w' : World) : Prop :=
  Below w.heap.size w w' ∧ (((bs.length - 8) / 4 < cnt bs ∧ e = .returned (.tuple #[.slice none 0 0, .slice none 0 0, .bool false])) ∨
    (cnt bs ≤ (bs.length - 8) / 4 ∧ ∃ (Ar : Option Addr), e = .returned (.tuple #[.slice A (front bs).length c, .slice Ar (rest bs).length (rest bs).length, .bool true]) ∧
      w'.ownsRow w.heap.size 3 1 (.slice Ar (rest bs).length (rest bs).length) (rest bs).length ((rest bs).map vn)))
set_option maxRecDepth 1000000 in
set_option maxHeartbeats 3200000 in
theorem orest_any (A : Option Addr) (c : Nat) (bs : List Nat) (w : World) (hl : Lies w w.heap.size A (bs.map vb)) (h8l : 8 ≤ bs.length) (hc : bs.length ≤ c) (hm : c ≤ maxLen) (hs : bs.length ≤ 50000000) (h8 : ∀ x, x ∈ bs → x < 256) :
    Calls Try.prog 54 #[.slice A (bs.length - 4) c] w (Rres w bs A c) := by
  obtain ⟨m, hmm⟩ : ∃ m, bs.length = m + 8 := ⟨bs.length - 8, by omega⟩
  have HL := Lib.hid hl
  have H8 := Lib.hid h8
  have HM := Lib.hid hm
  have HMM := Lib.hid hmm
  have hC1 := ocut_any A c (m + 4) 4 w (by omega) (by omega) hm
  have e4 : bs.length - 4 = m + 4 := by omega
  have hcm : m + 8 ≤ c := by omega
  have hm5 : m ≤ 50000000 := by omega
  have hcs := hm
  unfold maxLen at hcs
  rw [e4]
  have HC1 := Lib.hid hC1
  have HE8 : Hid (bs.length - 8 = m) := Lib.hid (by omega)
  clear hl h8 hm hmm hC1 e4 hc h8l hs
  go_enter Try.func54, Try.ntmps54
  go_wp2_with fail
  refine HC1.out.mono ?_
  rintro e w1 ⟨A1, q, hA1, rfl, rfl⟩
  have hb1 := Joins.below_draws w.heap.size w q
  have l4 : ((bs.drop m).take 4).length = 4 := by rw [List.length_take, List.length_drop]; have := HMM.out; omega
  have hN : Calls Try.prog 53 #[.slice A1 4 (c - m)] (w.drewN q) fun e w' => e = .returned (.int .u32 (cnt bs : Nat)) ∧ w.drewN q = w' := by
    have h := onumber_any A1 (c - m) w.heap.size ((bs.drop m).take 4) (w.drewN q) (Lies.cut (HL.out.below hb1) (fun _ => hA1 (by omega)) (List.take_prefix _ _)) (by omega) (by omega) (by have := HM.out; unfold maxLen at this ⊢; omega) (fun x hx => H8.out x (List.mem_of_mem_drop (List.mem_of_mem_take hx)))
    rw [l4] at h
    have e : cnt bs = num ((bs.drop m).take 4) := by unfold cnt; rw [HE8.out]
    rw [e]
    exact h
  have hcn : cnt bs < 4294967296 := by
    have := num_lt ((bs.drop m).take 4) fun x hx => H8.out x (List.mem_of_mem_drop (List.mem_of_mem_take hx))
    rw [l4] at this
    unfold cnt
    rw [HE8.out]
    exact this
  have HN := Lib.hid hN
  have HW1 := Lib.hid hb1
  have HB1 : Hid (Below w.heap.size w (w.drewN q)) := Lib.hid hb1
  have HSZ : Hid ((w.drewN q).heap.size = w.heap.size) := Lib.hid rfl
  have e40 : m + 4 - 4 = m := by omega
  rw [e40]
  clear hb1 hN l4 hA1 HC1 e40
  generalize w.drewN q = W1 at *
  obtain ⟨n, hn⟩ : ∃ n, n = cnt bs := ⟨_, rfl⟩
  rw [← hn] at HN hcn
  have HNC := Lib.hid hn
  clear hn
  have hq4 : Int.tdiv (m : Int) 4 = ((m / 4 : Nat) : Int) := by
    rw [Int.tdiv_eq_ediv_of_nonneg (by omega)]
    omega
  go_wp2_with fail
  refine HN.out.mono ?_
  rintro e w' ⟨rfl, rfl⟩
  by_cases hbig : m / 4 < n
  · have d1 : decide (m / 4 < n) = true := decide_eq_true hbig
    have d2 : ((m / 4 : Nat) : Int) < (n : Int) := by omega
    have d3 : (m : Int) / 4 < (n : Int) := by omega
    clear hq4
    go_wp2_with fail
    go_returns
    exact ⟨HB1.out, .inl ⟨by rw [← HNC.out, HE8.out]; exact hbig, rfl⟩⟩
  · have d1 : decide (m / 4 < n) = false := decide_eq_false hbig
    have d2 : decide (((m / 4 : Nat) : Int) < (n : Int)) = false := decide_eq_false (by omega)
    have d3 : decide ((m : Int) / 4 < (n : Int)) = false := decide_eq_false (by omega)
    have hnm : 4 * n ≤ m := by omega
    have HC2 := Lib.hid (ocut_any A c m (4 * n) W1 hnm (by omega) HM.out)
    rw [show ((4 * n : Nat) : Int) = (n : Int) * 4 by omega] at HC2
    clear hq4
    go_wp2_with fail
    refine HC2.out.mono ?_
    rintro e w2 ⟨A2, q2, hA2, rfl, rfl⟩
    have HB2 := Lib.hid (HB1.out.trans (Joins.below_draws w.heap.size W1 q2))
    have HS2 : Hid ((W1.drewN q2).heap.size = w.heap.size) := Lib.hid HSZ.out
    have HA2 := Lib.hid hA2
    have HFL : Hid ((front bs).length = m - 4 * n) := Lib.hid (by unfold front; rw [← HNC.out, HE8.out, List.length_take]; have := HMM.out; omega)
    have HRL : Hid ((rest bs).length = n) := Lib.hid (by unfold rest; rw [List.length_map, List.length_range, HNC.out])
    have HMK := Lib.hid (make_nums n (by omega))
    have hmk := HMK.out
    clear hA2 HC2 HN
    generalize W1.drewN q2 = W2 at *
    go_upto_region 7 with fail
    have HF0 : Hid (Filled (W2.alloc (.cells (madeCells #[.int .i64 0] n) 3)) w.heap.size n 0 3 ((rest bs).map vn)) := Lib.hid (by have := Filled.start W2 (.int .i64 0) n 3 ((rest bs).map vn); rwa [HS2.out] at this)
    have HB3 : Hid (Below w.heap.size w (W2.alloc (.cells (madeCells #[.int .i64 0] n) 3))) := Lib.hid (HB2.out.trans ((Joins.below_alloc1 W2 _).mono HB2.out.size))
    rw [HS2.out]
    generalize W2.alloc (.cells (madeCells #[.int .i64 0] n) 3) = W3 at *
    clear hmk
    go_wp2_with fail
    go_loopw [37] (fun i wr => ∃ k : Nat, k ≤ n ∧ i = .int .i64 (k : Int) ∧ Hid (Filled wr w.heap.size n k 3 ((rest bs).map vn)) ∧ Hid (Below w.heap.size w wr)) (fun i _ => n + 1 - (intOf i).toNat)
    case atStart => exact ⟨0, by omega, rfl, HF0, HB3⟩
    case round =>
      obtain ⟨k, hk, rfl, hf, hb⟩ := hrel
      by_cases hlt : k < n
      · obtain ⟨A3, hA3, -, hcut⟩ := cut_from A2 (4 * n) (c - (m - 4 * n)) (4 * k) (by omega) (by omega) (Nat.le_trans (Nat.sub_le _ _) HM.out)
        have hcut4 := cut_to A3 (4 * n - 4 * k) (c - (m - 4 * n) - 4 * k) 4 (by omega) (by omega) (Nat.le_trans (Nat.sub_le _ _) (Nat.le_trans (Nat.sub_le _ _) HM.out))
        rw [show ((4 * k : Nat) : Int) = (k : Int) * 4 by omega] at hcut
        obtain ⟨x, hx⟩ : ∃ x, x = num ((bs.drop (m - 4 * (n - k))).take 4) := ⟨_, rfl⟩
        have l4 : ((bs.drop (m - 4 * (n - k))).take 4).length = 4 := by rw [List.length_take, List.length_drop]; have := HMM.out; omega
        have hx32 : x < 4294967296 := by
          have := num_lt ((bs.drop (m - 4 * (n - k))).take 4) fun y hy => H8.out y (List.mem_of_mem_drop (List.mem_of_mem_take hy))
          rw [l4] at this
          rw [hx]
          exact this
        have HNU : Hid (Calls Try.prog 53 #[.slice A3 4 (c - (m - 4 * n) - 4 * k)] wr fun e w' => e = .returned (.int .u32 (x : Nat)) ∧ wr = w') := Lib.hid (by
          have hl1 : Lies wr w.heap.size A2 (((bs.drop (m - 4 * n)).take (4 * n)).map vb) := Lies.cut (HL.out.below hb.out) (fun _ => HA2.out (by omega)) (List.take_prefix _ _)
          have hl2 : Lies wr w.heap.size A3 (((bs.drop (m - 4 * (n - k))).take 4).map vb) := Lies.cut hl1 (fun _ => hA3 (by omega)) (by
            rw [List.drop_take, List.drop_drop, show m - 4 * n + 4 * k = m - 4 * (n - k) by omega]
            exact List.take_prefix_take_left (by omega))
          have h := onumber_any A3 (c - (m - 4 * n) - 4 * k) w.heap.size ((bs.drop (m - 4 * (n - k))).take 4) wr hl2 (by omega) (by omega) (Nat.le_trans (Nat.sub_le _ _) (Nat.le_trans (Nat.sub_le _ _) HM.out)) (fun y hy => H8.out y (List.mem_of_mem_drop (List.mem_of_mem_take hy)))
          rw [l4, ← hx] at h
          exact h)
        have HXR : Hid (((rest bs).map vn)[k]? = some (.int .i64 (x : Int))) := Lib.hid (by
          unfold rest
          rw [List.map_map, List.getElem?_map, ← HNC.out, List.getElem?_range hlt, HE8.out, hx]
          rfl)
        obtain ⟨u, hcell⟩ := hf.out.cell hlt
        have hfree := hf.out.free k
        have HF2 := Lib.hid (hf.out.next hlt HXR.out)
        have HB4 : Hid (Below w.heap.size w (wr.setCell ⟨w.heap.size, k, none⟩ (.int .i64 (x : Int)))) := Lib.hid (hb.out.setCell (Nat.le_refl _) _)
        have hkc : (4 : Nat) ≤ 4 * n - 4 * k := by omega
        clear hx l4 hA3
        go_wp2_with fail
        refine HNU.out.mono ?_
        rintro e w' ⟨rfl, rfl⟩
        go_wp2_with fail
        go_roundw
        case rel => exact ⟨k + 1, by omega, by go_num, HF2, HB4⟩
        case measure => simp [intOf]; omega
      · obtain rfl : k = n := by omega
        have HO := Lib.hid (hf.out.own (B := w.heap.size) (Nat.le_refl _) (by rw [List.length_map, HRL.out]) (by unfold maxLen; omega))
        go_wp2_with fail
        go_returns
        refine ⟨hb.out, .inr ⟨by rw [HE8.out, ← HNC.out]; omega, some ⟨w.heap.size, 0, none⟩, ?_, ?_⟩⟩
        · rw [HRL.out, HFL.out]; rfl
        · rw [HRL.out]; exact HO.out
end Go.Proofs.Ytaopbgildkjpcaa.Bk
