/- Proved: for any integers, WalMore of butterylaw8 answers true (batches that are appended after a crash are recovered together with the earlier ones, in order), and its arguments read as before. Conditions: none beyond what the given card states: the two tables of the standard library that it ties hold what the program text lays. -/
import Derived.Test.YtnbknihaefkllaaDoorM3
import Derived.Deep.QuietTactic
import Derived.BigQuiet
import Derived.Lib.SlBytesConst
import Derived.Test.YtnbknihaefkllaaDoorTie
import Derived.Test.YtnbknihaefkllaaDoorCards
import Derived.SevenTiedAt
namespace Go.Proofs.YtnbknihaefkllaaDoor.walMore
set_option linter.unusedVariables false
set_option linter.unusedSimpArgs false
open Go.ChangeShapes Go.WideShapes Go.ChangeAt Go.RowKit Lift Ik Dk Wl
open Bt (O D Ops OpsP opsO readB bytesE bytesB chk_parts)

theorem own : ownKnob Tryd.prog.godebug = none := by kernel_rfl

set_option maxHeartbeats 800000 in
theorem walk_no (n m kp : Int) (w : World) (h : n < 0 ∨ 20 < n ∨ m < 1 ∨ 20 < m) : Calls Tryd.prog 4 #[.int .i64 n, .int .i64 m, .int .i64 kp] w (Wl.Yes w) := by
  by_cases h1 : n < 0
  · go_enter Tryd.func4, Tryd.ntmps4
    go_wp2_with fail
    refine (alive_any _).mono ?_; rintro e W1 ⟨rfl, hb1⟩
    have HB1 := Lib.hid hb1
    clear hb1
    go_wp2_with fail
    go_ret
    exact ⟨rfl, HB1.out⟩
  · by_cases h2 : 20 < n
    · go_enter Tryd.func4, Tryd.ntmps4
      go_wp2_with fail
      refine (alive_any _).mono ?_; rintro e W1 ⟨rfl, hb1⟩
      have HB1 := Lib.hid hb1
      clear hb1
      go_wp2_with fail
      go_ret
      exact ⟨rfl, HB1.out⟩
    · by_cases h3 : m < 1
      · go_enter Tryd.func4, Tryd.ntmps4
        go_wp2_with fail
        refine (alive_any _).mono ?_; rintro e W1 ⟨rfl, hb1⟩
        have HB1 := Lib.hid hb1
        clear hb1
        go_wp2_with fail
        go_ret
        exact ⟨rfl, HB1.out⟩
      · have h4 : 20 < m := by omega
        go_enter Tryd.func4, Tryd.ntmps4
        go_wp2_with fail
        refine (alive_any _).mono ?_; rintro e W1 ⟨rfl, hb1⟩
        have HB1 := Lib.hid hb1
        clear hb1
        go_wp2_with fail
        go_ret
        exact ⟨rfl, HB1.out⟩
def bo (i : Nat) : BO := (i, [⟨1, [107], [i]⟩])
def run (k : Nat) : List BO := (List.range k).map fun i => bo (i + 1)
theorem run_succ (k : Nat) : run (k + 1) = run k ++ [bo (k + 1)] := by unfold run; rw [List.range_succ, List.map_append]; rfl
theorem run_len (k : Nat) : (run k).length = k := by unfold run; simp
theorem run_at {k i : Nat} (h : i < k) : (run k)[i]? = some (bo (i + 1)) := by unfold run; rw [List.getElem?_map, List.getElem?_range h]; rfl
theorem bo_ok {i : Nat} (h1 : 1 ≤ i) (h2 : i ≤ 255) : bytesE (bo i).1 (bo i).2 = 0 := by
  have hc : Bt.chkO (bo i).2 = 0 := by simp [bo, Bt.chkO, O.ok, Bt.O.ok, Bt.okO]
  have hf : Bt.fits (bo i).1 (bo i).2.length = true := by simp [bo, Bt.fits]; omega
  unfold bytesE
  rw [if_neg (by omega), if_pos hf]
theorem last_run (k : Nat) : lastOf (run k) 0 = k := by
  cases k with
  | zero => rfl
  | succ k => rw [run_succ, lastOf_snoc]; rfl
theorem run_up : ∀ k, k ≤ 255 → rises (run k) 0 := by
  intro k
  induction k with
  | zero => intro _; exact trivial
  | succ k ih =>
    intro h
    rw [run_succ]
    exact rises_snoc _ _ _ (ih (by omega)) (bo_ok (by omega) h) (by rw [last_run]; show k < k + 1; omega)
theorem run_log (k : Nat) (h : k ≤ 40) : (logB (run k)).length ≤ 100000 ∧ (logB (run k)).length ≤ 16777216 := by
  have h1 := logB_len (m := 17) (L := run k) fun b hb => by
    obtain ⟨i, _, rfl⟩ := List.mem_map.1 hb
    have e : ∀ n : Nat, n < 128 → (Vn.enc n).length = 1 := fun n hn => by
      unfold Vn.enc Vn.encN
      rw [if_pos hn]
      rfl
    simp [bo, encP, Bt.encB, Bt.encO, Bt.text, low_length, e]
  rw [run_len] at h1
  have h3 := Nat.mul_le_mul_left (21 + 2 * 17) h
  omega
theorem crash_run (k : Nat) (kp : Int) : crashM (st 100000 (run k) (logB (run k)).length) kp = st 100000 (run k) (logB (run k)).length := by
  cases k with
  | zero => rfl
  | succ k =>
    rw [st_some (by rw [run_succ]; simp), crash_one, List.take_of_length_le (by omega)]
/-- The value of a batch's only operation. -/
theorem val_at {w : World} {B : Nat} {A : Option Addr} {c : Nat} {X : List G} (h : Bats w B A c X) {j : Nat} {d : G} (hd : X[j]? = some d) {v key : List Nat} {k : Int} (ho : opsO d.l = [⟨k, key, v⟩]) :
    ∃ (ad p a2 : Addr) (va : Option Addr) (vc : Nat), A = some ad ∧ ad.add (j * 2) = p ∧ 1 ≤ d.c ∧ d.c ≤ maxLen ∧ ∀ w', Below B w w' → w'.cell? p = some (.int .u64 (d.s : Int)) ∧ w'.cell? ⟨p.block, p.off + 1, none⟩ = some (.slice (some a2) 1 d.c) ∧
      w'.cell? ⟨a2.block, a2.off + 2, none⟩ = some (.slice va v.length vc) ∧ Lies w' B va (v.map vb) := by
  obtain ⟨ad, p, h1, h2, h3⟩ := h.load (w' := w) hd
  have hO := h.ops hd
  obtain ⟨e, he⟩ : ∃ e, d.l = [e] := by
    have hl := congrArg List.length ho
    simp [opsO] at hl
    exact List.length_eq_one_iff.1 hl
  have hev : e.val = v := by
    rw [he] at ho
    simp only [opsO, List.map_cons, List.map_nil, List.cons.injEq] at ho
    exact congrArg O.val ho.1
  have hei : d.l[0]? = some e := by rw [he]; rfl
  obtain ⟨a2, p2, g1, g2, g3, g4, g5, g6, g7⟩ := hO.place hei
  have hp2 : p2 = a2 := by rw [← g3]; simp [Addr.add]
  subst hp2
  refine ⟨ad, p, p2, e.va, e.vc, h1, h2, by have := hO.len; rw [he] at this; simpa using this, hO.cap, fun w' hb => ?_⟩
  obtain ⟨k1, k2, k3⟩ := h3 w' hb
  rw [he, g1] at k3
  have hok := (hO.ok e (List.mem_of_getElem? hei)).later (w' := w') (R' := (· < B)) (fun k hk => hb.block k hk) fun _ h => h
  refine ⟨k2, k3, ?_, ?_⟩
  · rw [← hev]
    exact (hb.cell (p := ⟨p2.block, p2.off + 2, none⟩) g2).trans g7
  · rw [← hev]
    exact hok.vl.lies fun _ h => h
theorem run_str {w : World} {B c : Nat} {A : Option Addr} {bs : List Nat} (hl : Lies w B A (bs.map vb)) : Sem.run Tryd.prog (convert 27 9 (.slice A bs.length c)) w = .ok (.string (str bs)) w :=
  run_string_lies (P := Tryd.prog) (c := c) _ _ 5 Tryd.underlying27 Tryd.underlying5 Tryd.underlying9 hl
set_option maxRecDepth 100000 in
set_option maxHeartbeats 3200000 in
theorem walk (n m : Nat) (kp : Int) (w : World) (hkp : (Lit.int .i64 kp).wf = true) (hn : n ≤ 20) (hm1 : 1 ≤ m) (hm : m ≤ 20) : Calls Tryd.prog 4 #[.int .i64 (n : Int), .int .i64 (m : Int), .int .i64 kp] w (Wl.Yes w) := by
  have HKP := Lib.hid hkp
  clear hkp
  have kc := fun (W : World) (C : Array Value) (n c : Nat) => Lib.run_convert_bytes_const (P := Tryd.prog) W 27 5 C n c Tryd.underlying27 Tryd.underlying5
  have KC := Lib.hid kc
  go_enter Tryd.func4, Tryd.ntmps4
  go_wp2_with fail
  refine (alive_any _).mono ?_; rintro e W1 ⟨rfl, hb1⟩
  have HB1 := Lib.hid hb1
  clear hb1
  go_wp2_with fail
  refine (new_own 100000 (by decide) W1 HB1.out.size HB1.out).mono ?_
  rintro e W2 ⟨g, S2, rfl, hO2, _, _, _⟩
  have O2 := Lib.hid (show Own w.heap.size w W2 g S2 (st 100000 (run 0) 0) from hO2)
  clear hO2
  go_wp2_with fail
  go_loopw [9] (fun i wr => ∃ (j : Nat) (S : Nat → Prop), i = .int .i64 ((j : Int) + 1) ∧ j ≤ n ∧ Hid (Own w.heap.size w wr g S (st 100000 (run j) (logB (run j)).length))) (fun i _ => n + 2 - (intOf i).toNat)
  case atStart => exact ⟨0, S2, rfl, by omega, Lib.hid O2.out⟩
  case round =>
    obtain ⟨j, S, rfl, hj, O⟩ := hrel
    by_cases hlt : j < n
    · have dl : decide ((j : Int) + 1 ≤ (n : Int)) = true := decide_eq_true (by omega)
      have w8 : IntKind.u8.wrap ((j : Int) + 1) = (j : Int) + 1 := by rw [IntKind.wrap_u8]; omega
      go_wp2_with fail
      have hb3 := Joins.below_alloc3 wr (.cells #[.int .u8 107] 5 (1, 2)) (.cells #[.int .u8 ((j : Int) + 1)] 5) (.cells #[.int .i64 1, .slice (some ⟨wr.heap.size, 0, none⟩) 1 1, .slice (some ⟨wr.heap.size + 1, 0, none⟩) 1 1] 42)
      obtain ⟨e1, e2, e3, hz⟩ := heap_alloc3 wr (.cells #[.int .u8 107] 5 (1, 2)) (.cells #[.int .u8 ((j : Int) + 1)] 5) (.cells #[.int .i64 1, .slice (some ⟨wr.heap.size, 0, none⟩) 1 1, .slice (some ⟨wr.heap.size + 1, 0, none⟩) 1 1] 42)
      generalize (((wr.alloc (.cells #[.int .u8 107] 5 (1, 2))).alloc (.cells #[.int .u8 ((j : Int) + 1)] 5)).alloc (.cells #[.int .i64 1, .slice (some ⟨wr.heap.size, 0, none⟩) 1 1, .slice (some ⟨wr.heap.size + 1, 0, none⟩) 1 1] 42)) = W3 at hb3 e1 e2 e3 hz ⊢
      have hO : Ops W3 W3.heap.size (some ⟨wr.heap.size + 1 + 1, 0, none⟩) 1 [⟨1, some ⟨wr.heap.size, 0, none⟩, 1, [107], some ⟨wr.heap.size + 1, 0, none⟩, 1, [j + 1]⟩] := by
        refine ⟨lies_block e3 (by omega), Nat.le_refl _, by decide, fun d hd => ?_⟩
        simp at hd
        subst hd
        exact ⟨(lies_block e1 (show wr.heap.size < W3.heap.size by omega)).p fun _ h => h, Nat.le_refl _, (show 1 ≤ maxLen by decide), by simp, (lies_block e2 (show wr.heap.size + 1 < W3.heap.size by omega)).p fun _ h => h, Nat.le_refl _, (show 1 ≤ maxLen by decide), by simp; omega, by simp, by simp⟩
      have O3 := Lib.hid (own_later' O.out (O.out.size (Nat.le_refl _)) hb3)
      have eo : opsO [⟨1, some ⟨wr.heap.size, 0, none⟩, 1, [107], some ⟨wr.heap.size + 1, 0, none⟩, 1, [j + 1]⟩] = (bo (j + 1)).2 := rfl
      have ew : walM (st 100000 (run j) (logB (run j)).length) lN (j + 1) (bo (j + 1)).2 true = (0, st 100000 (run (j + 1)) (logB (run (j + 1))).length) := by
        rw [run_succ]
        have h := run_log (j + 1) (by omega)
        rw [run_succ] at h
        exact wal_step 100000 (run j) _ (bo (j + 1)) true (bo_ok (by omega) (by omega)) (fun h0 => by rw [h0]; rfl) h.1 h.2
      have HA := Lib.hid (wapp_any lN (j + 1) (some ⟨wr.heap.size + 1 + 1, 0, none⟩) 1 _ true O3.out.1 (by rw [st_failed]; decide) (by omega) hO)
      rw [eo, ew] at HA
      clear hb3 e1 e2 e3 hz hO eo ew
      refine (show Calls Tryd.prog 9 #[.pointer (some ⟨g, 0, none⟩), .string ⟨#[108]⟩, .agg #[.int .u64 ((j : Int) + 1), .slice (some ⟨wr.heap.size + 1 + 1, 0, none⟩) 1 1], .bool true] W3 _ from HA.out).mono ?_
      intro e W4 ht
      obtain ⟨S4, rfl, hO4, _, _⟩ := O3.out.told (O3.out.size (Nat.le_refl _)) ht
      have O4 := Lib.hid hO4
      clear ht hO4 HA
      go_wp2_with fail
      go_roundw
      case rel => exact ⟨j + 1, S4, by go_num, by omega, O4⟩
      case measure => simp [intOf]; omega
    · obtain rfl : j = n := by omega
      have dl : decide ((j : Int) + 1 ≤ (j : Int)) = false := decide_eq_false (by omega)
      go_wp2_with fail
      refine (crash_any kp HKP.out O.out.1).mono ?_
      intro e W4 ht
      obtain ⟨S4, rfl, hO4, _, _⟩ := O.out.done (O.out.size (Nat.le_refl _)) ht
      rw [crash_run] at hO4
      obtain ⟨n, hnj⟩ : ∃ n, n = j := ⟨_, rfl⟩
      rw [← hnj] at hO4 hn ⊢
      have O4 := Lib.hid hO4
      clear ht hO4 O hj hlt dl hnj
      go_wp2_with fail
      clear kc
      have kc := KC.out
      go_loopw [10] (fun i wr => ∃ (j : Nat) (S : Nat → Prop), i = .int .i64 ((n : Int) + (j : Int) + 1) ∧ j ≤ m ∧ Hid (Own w.heap.size w wr g S (st 100000 (run (n + j)) (logB (run n)).length))) (fun i _ => n + m + 2 - (intOf i).toNat)
      case atStart => exact ⟨0, S4, by go_num, by omega, Lib.hid O4.out⟩
      case round =>
        obtain ⟨j, S, rfl, hj, O⟩ := hrel
        by_cases hlt : j < m
        · have dl : decide ((n : Int) + (j : Int) + 1 ≤ (n : Int) + (m : Int)) = true := decide_eq_true (by omega)
          have w8 : IntKind.u8.wrap ((n : Int) + (j : Int) + 1) = (n : Int) + (j : Int) + 1 := by rw [IntKind.wrap_u8]; omega
          go_wp2_with fail
          have hb3 := Joins.below_alloc3 wr (.cells #[.int .u8 107] 5 (1, 2)) (.cells #[.int .u8 ((n : Int) + (j : Int) + 1)] 5) (.cells #[.int .i64 1, .slice (some ⟨wr.heap.size, 0, none⟩) 1 1, .slice (some ⟨wr.heap.size + 1, 0, none⟩) 1 1] 42)
          obtain ⟨e1, e2, e3, hz⟩ := heap_alloc3 wr (.cells #[.int .u8 107] 5 (1, 2)) (.cells #[.int .u8 ((n : Int) + (j : Int) + 1)] 5) (.cells #[.int .i64 1, .slice (some ⟨wr.heap.size, 0, none⟩) 1 1, .slice (some ⟨wr.heap.size + 1, 0, none⟩) 1 1] 42)
          generalize (((wr.alloc (.cells #[.int .u8 107] 5 (1, 2))).alloc (.cells #[.int .u8 ((n : Int) + (j : Int) + 1)] 5)).alloc (.cells #[.int .i64 1, .slice (some ⟨wr.heap.size, 0, none⟩) 1 1, .slice (some ⟨wr.heap.size + 1, 0, none⟩) 1 1] 42)) = W3 at hb3 e1 e2 e3 hz ⊢
          have hO : Ops W3 W3.heap.size (some ⟨wr.heap.size + 1 + 1, 0, none⟩) 1 [⟨1, some ⟨wr.heap.size, 0, none⟩, 1, [107], some ⟨wr.heap.size + 1, 0, none⟩, 1, [n + j + 1]⟩] := by
            refine ⟨lies_block e3 (by omega), Nat.le_refl _, by decide, fun d hd => ?_⟩
            simp at hd
            subst hd
            exact ⟨(lies_block e1 (show wr.heap.size < W3.heap.size by omega)).p fun _ h => h, Nat.le_refl _, (show 1 ≤ maxLen by decide), by simp, (lies_block e2 (show wr.heap.size + 1 < W3.heap.size by omega)).p fun _ h => h, Nat.le_refl _, (show 1 ≤ maxLen by decide), by simp; omega, by simp, by simp⟩
          have O3 := Lib.hid (own_later' O.out (O.out.size (Nat.le_refl _)) hb3)
          have eo : opsO [⟨1, some ⟨wr.heap.size, 0, none⟩, 1, [107], some ⟨wr.heap.size + 1, 0, none⟩, 1, [n + j + 1]⟩] = (bo (n + j + 1)).2 := rfl
          have ew : walM (st 100000 (run (n + j)) (logB (run n)).length) lN (n + j + 1) (bo (n + j + 1)).2 false = (0, st 100000 (run (n + j + 1)) (logB (run n)).length) := by
            rw [run_succ]
            have h := run_log (n + j + 1) (by omega)
            rw [run_succ] at h
            exact wal_step 100000 (run (n + j)) _ (bo (n + j + 1)) false (bo_ok (by omega) (by omega)) (fun h0 => by
              have h1 := congrArg List.length h0
              rw [run_len] at h1
              have h2 : n = 0 := by simp at h1; omega
              rw [h2]; rfl) h.1 h.2
          have HA := Lib.hid (wapp_any lN (n + j + 1) (some ⟨wr.heap.size + 1 + 1, 0, none⟩) 1 _ false O3.out.1 (by rw [st_failed]; decide) (by omega) hO)
          rw [eo, ew] at HA
          clear hb3 e1 e2 e3 hz hO eo ew
          refine (show Calls Tryd.prog 9 #[.pointer (some ⟨g, 0, none⟩), .string ⟨#[108]⟩, .agg #[.int .u64 ((n : Int) + (j : Int) + 1), .slice (some ⟨wr.heap.size + 1 + 1, 0, none⟩) 1 1], .bool false] W3 _ from HA.out).mono ?_
          intro e W5 ht
          obtain ⟨S5, rfl, hO5, _, _⟩ := O3.out.told (O3.out.size (Nat.le_refl _)) ht
          have O5 := Lib.hid hO5
          clear ht hO5 HA
          go_wp2_with (go_at_call 10; refine (num_any _ _).mono ?_; rintro e w' ⟨rfl, rfl⟩)
          go_roundw
          case rel => exact ⟨j + 1, S5, by go_num, by omega, O5⟩
          case measure => simp [intOf]; omega
        · obtain rfl : j = m := by omega
          have dl : decide ((n : Int) + (j : Int) + 1 ≤ (n : Int) + (j : Int)) = false := decide_eq_false (by omega)
          have hne : run (n + j) ≠ [] := fun h0 => by
            have h1 := congrArg List.length h0
            rw [run_len] at h1
            simp at h1
            omega
          have O5 : Hid (Own w.heap.size w wr g S (one 100000 (logB (run (n + j))) (logB (run n)).length)) := Lib.hid (by have h := O.out; rw [st_some hne] at h; exact h)
          clear O hne
          go_wp2_with fail
          refine (rec_any lN O5.out.1 (show 0 ≤ 900000 by decide)).mono ?_
          intro e W7 ht
          obtain ⟨A7, c7, X7, cl7, rfl, hX7, hO7, _, _, hgood⟩ := own_rec O5.out (O5.out.size (Nat.le_refl _)) ht
          rw [cont_one] at hO7 hgood ⊢
          obtain ⟨hXe, rfl⟩ := recR_det (hgood rfl) (recR_good (run_up (n + j) (by omega)) (n := (logB (run (n + j))).length) (c := 0) (by
            have h := Fr.rd_log (recs (run (n + j))) [] (recs (run (n + j)), (logB (run (n + j))).length, 0) (by rw [List.append_nil]; exact Fr.rd_end)
            rw [List.append_nil] at h
            exact h))
          have hXn : X7.length = n + j := by
            have h := congrArg List.length hXe
            rw [List.length_map, run_len] at h
            exact h
          have HX7 := Lib.hid (hX7.bats (B := W7.heap.size) fun k hk => hk.2.2)
          have HXE := Lib.hid hXe
          have O7 := Lib.hid hO7
          have hlc := hX7.len
          have hcm := hX7.cap
          unfold maxLen at hcm
          rw [hXn] at hlc ⊢
          have HXN := Lib.hid hXn
          clear ht hX7 hO7 hgood hXe hXn dl hlt hj O5 O4
          have dq : ((n + j : Nat) : Int) = (n : Int) + (j : Int) := by omega
          obtain ⟨q, hq⟩ : ∃ q, q = n + j := ⟨_, rfl⟩
          rw [← hq] at hlc dq HXE HXN ⊢
          have dq2 : ((q : Int) != (n : Int) + (j : Int)) = false := by rw [bne_eq_false_iff_eq]; omega
          have hq40 : q ≤ 40 := by omega
          clear hq dq
          go_wp2_with (go_at_call 10; refine (num_any _ _).mono ?_; rintro e w' ⟨rfl, rfl⟩)
          go_loopw [15] (fun i wr => ∃ j : Nat, i = .int .i64 (j : Int) ∧ j ≤ q ∧ Hid (Below W7.heap.size W7 wr)) (fun i _ => q + 1 - (intOf i).toNat)
          case atStart => exact ⟨0, rfl, by omega, Lib.hid (Below.refl _ _)⟩
          case round =>
            obtain ⟨j, rfl, hj, hb⟩ := hrel
            by_cases hlt : j < q
            · obtain ⟨d, hd⟩ : ∃ d, X7[j]? = some d := ⟨_, List.getElem?_eq_getElem (by rw [HXN.out]; exact hlt)⟩
              have hdo : d.o = bo (j + 1) := by
                have h := congrArg (fun l => l[j]?) HXE.out
                simp only [List.getElem?_map, hd, Option.map_some, run_at hlt] at h
                exact Option.some.inj h
              have hds : (d.s : Int) = (j : Int) + 1 := by have h : d.s = j + 1 := congrArg Prod.fst hdo; omega
              obtain ⟨ad, p, a2, va, vc, hA, hz, hc1, hc2, hv⟩ := val_at HX7.out hd (v := [j + 1]) (key := [107]) (k := 1) (congrArg Prod.snd hdo)
              subst hA
              rw [hds] at hv
              unfold maxLen at hc2
              have HV := Lib.hid hv
              have HBR := Lib.hid hb.out
              have w8 : IntKind.u8.wrap ((j : Int) + 1) = (j : Int) + 1 := by rw [IntKind.wrap_u8]; omega
              have hw1 : IntKind.i64.wrap ((j : Int) + 1) = (j : Int) + 1 := by rw [IntKind.wrap_i64]; omega
              have hw2 : IntKind.u64.wrap ((j : Int) + 1) = (j : Int) + 1 := by rw [IntKind.wrap_u64]; omega
              have hw3 : (((j : Int) + 1) != ((j : Int) + 1)) = false := by simp
              clear hd hdo hds hv
              go_wp2_with fail
              refine wp_region_held_drew (S := fun w' => Hid (Below wr.heap.size wr w')) (by kernel_rfl) (Lib.hid (Below.refl _ _).drew) (fun hS => ?_)
              refine wpAnyH_take (i := 0) (v := ?_) rfl (by kernel_rfl) (by kernel_rfl) (by kernel_rfl) (fun _ _ _ h => h) (Or.inl ⟨by rfl, ?_⟩) hS ?_
              rotate_left
              · intro w hw
                go_simp
                try with_reducible rfl
              try simp only [Act.put, List.getElem_toArray, List.getElem_cons_succ, List.getElem_cons_zero, List.setIfInBounds_toArray, List.set_cons_zero, List.set_cons_succ]
              refine wpAnyH_take (i := 1) (v := ?_) rfl (by kernel_rfl) (by kernel_rfl) (by kernel_rfl) (fun _ _ _ h => h) (Or.inl ⟨by rfl, ?_⟩) hS ?_
              rotate_left
              · intro w hw
                go_simp
                try with_reducible rfl
              try simp only [Act.put, List.getElem_toArray, List.getElem_cons_succ, List.getElem_cons_zero, List.setIfInBounds_toArray, List.set_cons_zero, List.set_cons_succ]
              refine wpAnyH_take (i := 2) (v := ?_) rfl (by kernel_rfl) (by kernel_rfl) (by kernel_rfl) (fun _ _ _ h => h) (Or.inl ⟨by rfl, ?_⟩) hS ?_
              rotate_left
              · intro w hw
                go_simp
                try with_reducible rfl
              try simp only [Act.put, List.getElem_toArray, List.getElem_cons_succ, List.getElem_cons_zero, List.setIfInBounds_toArray, List.set_cons_zero, List.set_cons_succ]
              refine wpAnyH_take (i := 3) (v := ?_) rfl (by kernel_rfl) (by kernel_rfl) (by kernel_rfl) (fun _ _ _ h => h) (Or.inl ⟨by rfl, ?_⟩) hS ?_
              rotate_left
              · intro w hw
                go_simp
                try with_reducible rfl
              try simp only [Act.put, List.getElem_toArray, List.getElem_cons_succ, List.getElem_cons_zero, List.setIfInBounds_toArray, List.set_cons_zero, List.set_cons_succ]
              refine wpAnyH_take (i := 4) (v := ?_) rfl (by kernel_rfl) (by kernel_rfl) (by kernel_rfl) (fun _ _ _ h => h) (Or.inl ⟨by rfl, ?_⟩) hS ?_
              rotate_left
              · intro w hw
                obtain ⟨v0, v1, v2, v3⟩ := HV.out w (HBR.out.trans (hw.out.mono HBR.out.size))
                have hs3 := run_str (c := vc) v3
                go_simp
                try with_reducible rfl
              try simp only [Act.put, List.getElem_toArray, List.getElem_cons_succ, List.getElem_cons_zero, List.setIfInBounds_toArray, List.set_cons_zero, List.set_cons_succ]
              refine wpAnyH_take (i := 5) (v := ?_) rfl (by kernel_rfl) (by kernel_rfl) (by kernel_rfl) (fun _ _ _ h => h) (Or.inl ⟨by rfl, ?_⟩) hS ?_
              rotate_left
              · intro w hw
                go_simp
                try with_reducible rfl
              try simp only [Act.put, List.getElem_toArray, List.getElem_cons_succ, List.getElem_cons_zero, List.setIfInBounds_toArray, List.set_cons_zero, List.set_cons_succ]
              refine wpAnyH_take (i := 6) (v := ?_) rfl (by kernel_rfl) (by kernel_rfl) (by kernel_rfl) (fun _ _ _ h => h) (Or.inl ⟨by rfl, ?_⟩) hS ?_
              rotate_left
              · intro w hw
                go_simp
                try with_reducible rfl
              try simp only [Act.put, List.getElem_toArray, List.getElem_cons_succ, List.getElem_cons_zero, List.setIfInBounds_toArray, List.set_cons_zero, List.set_cons_succ]
              refine wpAnyH_take (i := 7) (v := ?_) rfl (by kernel_rfl) (by kernel_rfl) (by kernel_rfl) (fun _ _ _ h => h) (Or.inl ⟨by rfl, ?_⟩) hS ?_
              rotate_left
              · intro w hw
                go_simp
                try with_reducible rfl
              try simp only [Act.put, List.getElem_toArray, List.getElem_cons_succ, List.getElem_cons_zero, List.setIfInBounds_toArray, List.set_cons_zero, List.set_cons_succ]
              refine wpAnyH_take (i := 8) (v := ?_) rfl (by kernel_rfl) (by kernel_rfl) (by kernel_rfl) (fun _ _ _ h => h) (Or.inl ⟨by rfl, ?_⟩) hS ?_
              rotate_left
              · intro w hw
                go_simp
                try with_reducible rfl
              try simp only [Act.put, List.getElem_toArray, List.getElem_cons_succ, List.getElem_cons_zero, List.setIfInBounds_toArray, List.set_cons_zero, List.set_cons_succ]
              refine wpAnyH_take (i := 9) (v := ?_) rfl (by kernel_rfl) (by kernel_rfl) (by kernel_rfl) (fun _ _ _ h => h) (Or.inl ⟨by rfl, ?_⟩) hS ?_
              rotate_left
              · intro w hw
                go_simp
                try with_reducible rfl
              try simp only [Act.put, List.getElem_toArray, List.getElem_cons_succ, List.getElem_cons_zero, List.setIfInBounds_toArray, List.set_cons_zero, List.set_cons_succ]
              refine wpAnyH_take (i := 10) (v := ?_) rfl (by kernel_rfl) (by kernel_rfl) (by kernel_rfl) (fun _ _ _ h => h) (Or.inl ⟨by rfl, ?_⟩) hS ?_
              rotate_left
              · intro w hw
                go_simp
                try with_reducible rfl
              try simp only [Act.put, List.getElem_toArray, List.getElem_cons_succ, List.getElem_cons_zero, List.setIfInBounds_toArray, List.set_cons_zero, List.set_cons_succ]
              refine wpAnyH_take (i := 11) (v := ?_) rfl (by kernel_rfl) (by kernel_rfl) (by kernel_rfl) (fun _ _ _ h => h) (Or.inl ⟨by rfl, ?_⟩) hS ?_
              rotate_left
              · intro w hw
                go_simp
                try with_reducible rfl
              try simp only [Act.put, List.getElem_toArray, List.getElem_cons_succ, List.getElem_cons_zero, List.setIfInBounds_toArray, List.set_cons_zero, List.set_cons_succ]
              refine wpAnyH_take (i := 12) (v := ?_) rfl (by kernel_rfl) (by kernel_rfl) (by kernel_rfl) (fun _ _ _ h => h) (Or.inl ⟨by rfl, ?_⟩) hS ?_
              rotate_left
              · intro w hw
                go_simp
                try with_reducible rfl
              try simp only [Act.put, List.getElem_toArray, List.getElem_cons_succ, List.getElem_cons_zero, List.setIfInBounds_toArray, List.set_cons_zero, List.set_cons_succ]
              refine wpAnyH_take (i := 13) (v := ?_) rfl (by kernel_rfl) (by kernel_rfl) (by kernel_rfl) (fun _ _ _ h => h) (Or.inl ⟨by rfl, ?_⟩) hS ?_
              rotate_left
              · intro w hw
                go_simp
                try with_reducible rfl
              try simp only [Act.put, List.getElem_toArray, List.getElem_cons_succ, List.getElem_cons_zero, List.setIfInBounds_toArray, List.set_cons_zero, List.set_cons_succ]
              refine wpAnyH_take (i := 14) (v := ?_) rfl (by kernel_rfl) (by kernel_rfl) (by kernel_rfl) (fun _ _ _ h => h) (Or.inl ⟨by rfl, ?_⟩) hS ?_
              rotate_left
              · intro w hw
                obtain ⟨v0, v1, v2, v3⟩ := HV.out w (HBR.out.trans (hw.out.mono HBR.out.size))
                have hs3 := run_str (c := vc) v3
                go_simp
                try with_reducible rfl
              try simp only [Act.put, List.getElem_toArray, List.getElem_cons_succ, List.getElem_cons_zero, List.setIfInBounds_toArray, List.set_cons_zero, List.set_cons_succ]
              refine wpAnyH_take (i := 15) (v := ?_) rfl (by kernel_rfl) (by kernel_rfl) (by kernel_rfl) (fun _ _ _ h => h) (Or.inl ⟨by rfl, ?_⟩) hS ?_
              rotate_left
              · intro w hw
                go_simp
                try with_reducible rfl
              try simp only [Act.put, List.getElem_toArray, List.getElem_cons_succ, List.getElem_cons_zero, List.setIfInBounds_toArray, List.set_cons_zero, List.set_cons_succ]
              refine wpAnyH_take (i := 16) (v := ?_) rfl (by kernel_rfl) (by kernel_rfl) (by kernel_rfl) (fun _ _ _ h => h) (Or.inl ⟨by rfl, ?_⟩) hS ?_
              rotate_left
              · intro w hw
                go_simp
                try with_reducible rfl
              try simp only [Act.put, List.getElem_toArray, List.getElem_cons_succ, List.getElem_cons_zero, List.setIfInBounds_toArray, List.set_cons_zero, List.set_cons_succ]
              refine wpAnyH_take (i := 17) (v := ?_) rfl (by kernel_rfl) (by kernel_rfl) (by kernel_rfl) (fun _ _ _ h => h) (Or.inl ⟨by rfl, ?_⟩) hS ?_
              rotate_left
              · intro w hw
                go_simp
                try with_reducible rfl
              try simp only [Act.put, List.getElem_toArray, List.getElem_cons_succ, List.getElem_cons_zero, List.setIfInBounds_toArray, List.set_cons_zero, List.set_cons_succ]
              refine wpAnyH_take (i := 18) (v := ?_) rfl (by kernel_rfl) (by kernel_rfl) (by kernel_rfl) (fun _ _ _ h => h) (Or.inl ⟨by rfl, ?_⟩) hS ?_
              rotate_left
              · intro w hw
                go_simp
                try with_reducible rfl
              try simp only [Act.put, List.getElem_toArray, List.getElem_cons_succ, List.getElem_cons_zero, List.setIfInBounds_toArray, List.set_cons_zero, List.set_cons_succ]
              refine wpAnyH_take (i := 19) (v := ?_) rfl (by kernel_rfl) (by kernel_rfl) (by kernel_rfl) (fun _ _ _ h => h) (Or.inl ⟨by rfl, ?_⟩) hS ?_
              rotate_left
              · intro w hw
                go_simp
                try with_reducible rfl
              try simp only [Act.put, List.getElem_toArray, List.getElem_cons_succ, List.getElem_cons_zero, List.setIfInBounds_toArray, List.set_cons_zero, List.set_cons_succ]
              refine wpAnyH_take (i := 20) (v := ?_) rfl (by kernel_rfl) (by kernel_rfl) (by kernel_rfl) (fun _ _ _ h => h) (Or.inl ⟨by rfl, ?_⟩) hS ?_
              rotate_left
              · intro w hw
                go_simp
                try with_reducible rfl
              try simp only [Act.put, List.getElem_toArray, List.getElem_cons_succ, List.getElem_cons_zero, List.setIfInBounds_toArray, List.set_cons_zero, List.set_cons_succ]
              refine wpAnyH_take (i := 21) (v := ?_) rfl (by kernel_rfl) (by kernel_rfl) (by kernel_rfl) (fun _ _ _ h => h) (Or.inl ⟨by rfl, ?_⟩) hS ?_
              rotate_left
              · intro w hw
                go_simp
                try with_reducible rfl
              try simp only [Act.put, List.getElem_toArray, List.getElem_cons_succ, List.getElem_cons_zero, List.setIfInBounds_toArray, List.set_cons_zero, List.set_cons_succ]
              refine wpAnyH_take (i := 22) (v := ?_) rfl (by kernel_rfl) (by kernel_rfl) (by kernel_rfl) (fun _ _ _ h => h) (Or.inl ⟨by rfl, ?_⟩) hS ?_
              rotate_left
              · intro w hw
                go_simp
                try with_reducible rfl
              try simp only [Act.put, List.getElem_toArray, List.getElem_cons_succ, List.getElem_cons_zero, List.setIfInBounds_toArray, List.set_cons_zero, List.set_cons_succ]
              refine wpAnyH_take (i := 23) (v := ?_) rfl (by kernel_rfl) (by kernel_rfl) (by kernel_rfl) (fun _ _ _ h => h) (Or.inl ⟨by rfl, ?_⟩) hS ?_
              rotate_left
              · intro w hw
                obtain ⟨v0, v1, v2, v3⟩ := HV.out w (HBR.out.trans (hw.out.mono HBR.out.size))
                have hs3 := run_str (c := vc) v3
                go_simp
                try with_reducible rfl
              try simp only [Act.put, List.getElem_toArray, List.getElem_cons_succ, List.getElem_cons_zero, List.setIfInBounds_toArray, List.set_cons_zero, List.set_cons_succ]
              refine wpAnyH_take (i := 24) (v := ?_) rfl (by kernel_rfl) (by kernel_rfl) (by kernel_rfl) (fun _ _ _ h => h) (Or.inl ⟨by rfl, ?_⟩) hS ?_
              rotate_left
              · intro w hw
                go_simp
                try with_reducible rfl
              try simp only [Act.put, List.getElem_toArray, List.getElem_cons_succ, List.getElem_cons_zero, List.setIfInBounds_toArray, List.set_cons_zero, List.set_cons_succ]
              refine wpAnyH_take (i := 25) (v := ?_) rfl (by kernel_rfl) (by kernel_rfl) (by kernel_rfl) (fun _ _ _ h => h) (Or.inl ⟨by rfl, ?_⟩) hS ?_
              rotate_left
              · intro w hw
                go_simp
                try with_reducible rfl
              try simp only [Act.put, List.getElem_toArray, List.getElem_cons_succ, List.getElem_cons_zero, List.setIfInBounds_toArray, List.set_cons_zero, List.set_cons_succ]
              refine wpAnyH_take (i := 26) (v := ?_) rfl (by kernel_rfl) (by kernel_rfl) (by kernel_rfl) (fun _ _ _ h => h) (Or.inl ⟨by rfl, ?_⟩) hS ?_
              rotate_left
              · intro w hw
                obtain ⟨v0, v1, v2, v3⟩ := HV.out w (HBR.out.trans (hw.out.mono HBR.out.size))
                have hs3 := run_str (c := vc) v3
                go_simp
                try with_reducible rfl
              try simp only [Act.put, List.getElem_toArray, List.getElem_cons_succ, List.getElem_cons_zero, List.setIfInBounds_toArray, List.set_cons_zero, List.set_cons_succ]
              refine wpAnyH_take (i := 27) (v := ?_) rfl (by kernel_rfl) (by kernel_rfl) (by kernel_rfl) (fun _ _ _ h => h) (Or.inl ⟨by rfl, ?_⟩) hS ?_
              rotate_left
              · intro w hw
                obtain ⟨v0, v1, v2, v3⟩ := HV.out w (HBR.out.trans (hw.out.mono HBR.out.size))
                have hs3 : Sem.run Tryd.prog (convert 27 9 (.slice va 1 vc)) w = _ := run_str (c := vc) v3
                go_simp
                try with_reducible rfl
              try simp only [Act.put, List.getElem_toArray, List.getElem_cons_succ, List.getElem_cons_zero, List.setIfInBounds_toArray, List.set_cons_zero, List.set_cons_succ]
              refine wpAnyH_take (i := 28) (v := ?_) rfl (by kernel_rfl) (by kernel_rfl) (by kernel_rfl) (fun _ _ _ h => h) (Or.inl ⟨by rfl, ?_⟩) hS ?_
              rotate_left
              · intro w hw
                go_simp
                try with_reducible rfl
              try simp only [Act.put, List.getElem_toArray, List.getElem_cons_succ, List.getElem_cons_zero, List.setIfInBounds_toArray, List.set_cons_zero, List.set_cons_succ]
              refine wpAnyH_take (i := 29) (v := ?_) rfl (by kernel_rfl) (by kernel_rfl) (by kernel_rfl) (fun _ _ _ h => h) (Or.inl ⟨by rfl, ?_⟩) hS ?_
              rotate_left
              · intro w hw
                go_simp
                try with_reducible rfl
              try simp only [Act.put, List.getElem_toArray, List.getElem_cons_succ, List.getElem_cons_zero, List.setIfInBounds_toArray, List.set_cons_zero, List.set_cons_succ]
              refine wpAnyH_take (i := 30) (v := ?_) rfl (by kernel_rfl) (by kernel_rfl) (by kernel_rfl) (fun _ _ _ h => h) (Or.inl ⟨by rfl, ?_⟩) hS ?_
              rotate_left
              · intro w hw
                go_simp
                try with_reducible rfl
              try simp only [Act.put, List.getElem_toArray, List.getElem_cons_succ, List.getElem_cons_zero, List.setIfInBounds_toArray, List.set_cons_zero, List.set_cons_succ]
              have hS0 := hS
              generalize wr.drew = w0 at hS hS0 ⊢
              refine wpAnyH_ready (rs := [31]) (by kernel_rfl) (by simp) ?_
              refine AllReadyH.cons rfl (fun K hK => ?_) AllReadyH.nil
              go_simp
              have hba := Joins.below_alloc1 w0 (.cells #[.int .u8 ((j : Int) + 1)] 5)
              have hnew : Lies (w0.alloc (.cells #[.int .u8 ((j : Int) + 1)] 5)) (w0.heap.size + 1) (some ⟨w0.heap.size, 0, none⟩) ([j + 1].map vb) := lies_block (cs := #[.int .u8 ((j : Int) + 1)]) (heap_alloc_new w0 _) (Nat.lt_succ_self _)
              have hz4 : (w0.alloc (.cells #[.int .u8 ((j : Int) + 1)] 5)).heap.size = w0.heap.size + 1 := by simp
              generalize w0.alloc (.cells #[.int .u8 ((j : Int) + 1)] 5) = W4 at hba hnew hz4 ⊢
              rw [← hz4] at hnew
              have H4 := Lib.hid (hS.out.trans (hba.mono hS.out.size))
              have L4 := Lib.hid hnew
              clear hba hnew hz4
              refine hK.out _ _ H4 (fun _ => ?_)
              clear hK K hS
              refine wpAnyH_other (S' := fun w' => Hid (Below W4.heap.size W4 w')) (fun w hw => Lib.hid (H4.out.trans (hw.out.mono H4.out.size))) _ _ _ _ ?_
              have hS : Hid (Below W4.heap.size W4 W4) := Lib.hid (Below.refl _ _)
              have n1 : ((str [j + 1]).toList != (str [j + 1]).toList) = false := by simp
              try simp only [Act.put, List.getElem_toArray, List.getElem_cons_succ, List.getElem_cons_zero, List.setIfInBounds_toArray, List.set_cons_zero, List.set_cons_succ]
              refine wpAnyH_take (i := 32) (v := ?_) rfl (by kernel_rfl) (by kernel_rfl) (by kernel_rfl) (fun _ _ _ h => h) (Or.inl ⟨by rfl, ?_⟩) hS ?_
              rotate_left
              · intro w hw
                have hs4 : Sem.run Tryd.prog (convert 27 9 (.slice (some ⟨w0.heap.size, 0, none⟩) 1 1)) w = _ := run_str (c := 1) (bs := [j + 1]) (L4.out.below hw.out)
                go_simp
                try with_reducible rfl
              try simp only [Act.put, List.getElem_toArray, List.getElem_cons_succ, List.getElem_cons_zero, List.setIfInBounds_toArray, List.set_cons_zero, List.set_cons_succ]
              refine wpAnyH_take (i := 33) (v := ?_) rfl (by kernel_rfl) (by kernel_rfl) (by kernel_rfl) (fun _ _ _ h => h) (Or.inl ⟨by rfl, ?_⟩) hS ?_
              rotate_left
              · intro w hw
                go_simp
                try with_reducible rfl
              try simp only [Act.put, List.getElem_toArray, List.getElem_cons_succ, List.getElem_cons_zero, List.setIfInBounds_toArray, List.set_cons_zero, List.set_cons_succ]
              refine wpAnyH_take (i := 34) (v := ?_) rfl (by kernel_rfl) (by kernel_rfl) (by kernel_rfl) (fun _ _ _ h => h) (Or.inl ⟨by rfl, ?_⟩) hS ?_
              rotate_left
              · intro w hw
                go_simp
                try with_reducible rfl
              try simp only [Act.put, List.getElem_toArray, List.getElem_cons_succ, List.getElem_cons_zero, List.setIfInBounds_toArray, List.set_cons_zero, List.set_cons_succ]
              refine wpAnyH_done (by kernel_rfl) ?_ _
              have HB8 := Lib.hid (hb.out.trans ((H4.out.trans (hS.out.mono H4.out.size)).mono hb.out.size))
              go_wp2_with fail
              go_roundw
              case rel => exact ⟨j + 1, by go_num, by omega, HB8⟩
              case measure => simp [intOf]; omega
            · obtain rfl : j = q := by omega
              go_wp2_with fail
              go_ret
              exact ⟨rfl, O7.out.2.2.trans (hb.out.mono (O7.out.size (Nat.le_refl _)))⟩

set_option maxRecDepth 100000 in
theorem lifted (os : Os) (started : os.Started) (H : Type) (enc : TypeId × Value → H) :
    ReturnsInHanded {} Tryd.checked os 4 .any (fun w args => (Rows.walMoreSpec.pre enc Tryd.prog Tryd.f4 Rows.walMoreRow.domain false w args ∧ laidMetH Tryd.prog Rows.walMoreRow.laid w) ∧ sizedMet enc Tryd.prog Tryd.f4 (OpenSpec.ofChange Rows.walMoreSpec) false w args) (Rows.walMoreSpec.post enc Tryd.prog Tryd.f4 false true false false) := by
  refine lift_laid (C := Tryd.checked) Rows.walMoreRow.laid own started (by kernel_rfl) Tryd.func4
    (ChangeSpec.witness_shaped (enc := enc) (C := Tryd.checked) (os := os) (X := fun w _ => laidMetH Tryd.prog Rows.walMoreRow.laid w) false (World.laidAll Tryd.prog os Rows.walMoreRow.laid) #[.int .i64 0, .int .i64 0, .int .i64 0] 8 (World.laidAll_os _ _ _)
      (World.shaped_of_ZipB (by kernel_rfl) (by kernel_rfl)) (by kernel_rfl) (by kernel_rfl) (by kernel_rfl)
      (by rw [MakeChecks.laidMetH_plain _ _ _ (by kernel_rfl)]; exact laidMet_laidAll _ (by kernel_rfl) (by kernel_rfl)))
    (by kernel_rfl) (by kernel_rfl) (by kernel_rfl) Tryd.underlying4 rfl ?_ ?_
  · intro ds hds
    match ds, hds with
    | [d1, d2, d3], _ => exact ⟨rfl, rfl, rfl⟩
  · intro W base args ds p hval0 hA0 hlt _
    have hval : ∀ (j : Nat) t v, Tryd.f4.params[j]? = some t → args[j]? = some v → Value.okWide Tryd.prog W .any base t v := hval0
    have hA : DataW.TrodAll enc Tryd.prog W 0 (fun _ => true) true Tryd.f4.params.toList args.toList ds p := hA0
    rw [Tryd.params4] at hA hval
    obtain ⟨v0, vs0, d0, ds0, p0, q0, hargs, rfl, rfl, h0, r0⟩ := trodAll_cons hA
    obtain ⟨v1, vs1, d1, ds1, p1, q1, rfl, rfl, rfl, h1, r1⟩ := trodAll_cons r0
    obtain ⟨v2, vs2, d2, ds2, p2, q2, rfl, rfl, rfl, h2, r2⟩ := trodAll_cons r1
    obtain ⟨rfl, rfl, rfl⟩ := trodAll_nil r2
    obtain rfl : args = #[v0, v1, v2] := by cases args; simp_all
    obtain ⟨a0, rfl, rfl, rfl, w0⟩ := open_int Tryd.underlying3 (hval 0 _ v0 rfl rfl) h0
    have b0 := i64_of w0
    obtain ⟨a1, rfl, rfl, rfl, w1⟩ := open_int Tryd.underlying3 (hval 1 _ v1 rfl rfl) h1
    have b1 := i64_of w1
    obtain ⟨a2, rfl, rfl, rfl, w2⟩ := open_int Tryd.underlying3 (hval 2 _ v2 rfl rfl) h2
    have b2 := i64_of w2
    by_cases hno : a0 < 0 ∨ 20 < a0 ∨ a1 < 1 ∨ 20 < a1
    · exact walk_no a0 a1 a2 W hno
    · obtain ⟨n, rfl⟩ : ∃ n : Nat, a0 = (n : Int) := ⟨a0.toNat, by omega⟩
      obtain ⟨m, rfl⟩ : ∃ m : Nat, a1 = (m : Int) := ⟨a1.toNat, by omega⟩
      exact walk n m a2 W w2 (by omega) (by omega) (by omega)

theorem over : Rows.walMoreRow.holds Tryd.pinned (OpenSpec.ofChange Rows.walMoreSpec) :=
  OpenClaim.holds_of_wide 4 Tryd.f4 rfl rfl rfl rfl rfl rfl rfl ⟨rfl, rfl, rfl, rfl, rfl⟩ rfl rfl rfl rfl rfl (by kernel_rfl) Tryd.func4 (by kernel_rfl)
    (of_decide_eq_true (by kernel_rfl)) (by unfold Func.isWrapper; first | (rw [if_pos (by decide +kernel)]; kernel_rfl) | (rw [if_neg (by decide +kernel)]; exact ⟨rfl, rfl⟩))
    (fun os started H enc _ => lifted os started H enc)

theorem proved : Rows.WalMoreCardSaid :=
  Claim7.holds_tied_plain_at .later [] [.data, .pinned] true (true, "9135fcd2997674462ee1da01a42a203beea67bef0b367cb95a1ef7ad6c7c8d61") false over (fun _ h => by cases h) (by kernel_rfl) (fun _ h => by cases h) walMore_row_tie rfl ⟨rfl, rfl⟩ (by kernel_rfl) rfl
    (fun f fn hf hfn => by
      obtain rfl : f = 4 := Option.some.inj ((show Tryd.prog.funcNamed Rows.walMoreRow.func = some 4 by kernel_rfl).symm.trans hf) |>.symm
      obtain rfl : fn = Tryd.f4 := (Option.some.inj (Tryd.func4.symm.trans hfn)).symm
      exact ⟨by kernel_rfl, fun j t ht => by
        rw [Tryd.params4] at ht
        have hm : t ∈ [3, 3, 3] := by simpa using Array.mem_of_getElem? ht
        have hall : ([3, 3, 3].all fun u => !Tryd.prog.wantsStandIn u) = true := by kernel_rfl
        exact (show Tryd.prog.wantsStandIn t = false by simpa using List.all_eq_true.1 hall t hm)⟩)
    (by kernel_rfl)
#print axioms proved
end Go.Proofs.YtnbknihaefkllaaDoor.walMore
