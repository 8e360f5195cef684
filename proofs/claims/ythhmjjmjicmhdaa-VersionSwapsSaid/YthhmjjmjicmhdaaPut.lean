/- What Put of package varint makes of bytes and a number. -/
import Derived.Test.YthhmjjmjicmhdaaGetv
import Derived.Test.YthhmjjmjicmhdaaShelf
import Derived.Laws.CopyOwn
import Derived.Laws.MakeOwn
import Derived.OwnWalk
namespace Go.Proofs.Ythhmjjmjicmhdaa.Vt
set_option linter.unusedVariables false
open Go.RowKit Lift Vn

theorem bitLenAux_le : ∀ f x : Nat, Lib.bitLenAux f x ≤ f := by
  intro f
  induction f with
  | zero => intro x; simp [Lib.bitLenAux]
  | succ f ih => intro x; unfold Lib.bitLenAux; split; omega; have := ih (x / 2); omega
theorem bitLen_le (x : Nat) : Lib.bitLen x ≤ 64 := bitLenAux_le 64 x

theorem or_128 (y : Nat) : bits .or .u8 ((y : Int) % 256) 128 = ((y % 128 + 128 : Nat) : Int) := by
  have e : (y : Int) % 256 = ((y % 256 : Nat) : Int) := by omega
  have h := u8_or_nat (y % 256) 128 (Nat.mod_lt _ (by decide)) (by decide)
  rw [show ((128 : Nat) : Int) = 128 from rfl] at h
  rw [e, h]
  have : ∀ n : Fin 256, n.val ||| 128 = n.val % 128 + 128 := by decide +kernel
  have h2 := this ⟨y % 256, Nat.mod_lt _ (by decide)⟩
  simp only at h2
  rw [h2]
  omega

/-- Some number of bytes, from 1 to 10. -/
def Few (w : World) (e : Ending) (w' : World) : Prop := ∃ m : Nat, 1 ≤ m ∧ m ≤ 10 ∧ e = .returned (.int .i64 (m : Int)) ∧ w = w'
theorem length_any (x : Nat) (w : World) (h : x < 18446744073709551616) : Calls Try.prog 87 #[.int .u64 x] w (Few w) := by
  have hl := bitLen_le x
  have hc := Try.bits_Len64 (x : Int) w (by omega) (by omega)
  simp only [Int.toNat_natCast] at hc
  generalize Lib.bitLen x = k at hl hc
  have HC := Lib.hid hc
  clear hc h
  go_enter Try.func87, Try.ntmps87
  go_wp2_with fail
  refine HC.out.mono ?_; rintro e w' ⟨rfl, rfl⟩
  go_wp2_with fail
  go_ret
  exact ⟨max 1 ((k + 6) / 7), by omega, by omega, ret_num (by omega), rfl⟩

/-- Fresh bytes. -/
def zeros (n : Nat) : Array Value := madeCells #[.int .u8 0] n
theorem zeros_size (n : Nat) : (zeros n).size = n := by
  have := congrArg List.length (toList_madeCells_one (.int .u8 0) n)
  simpa [zeros] using this

/-- A slice of the call's own that holds the bytes bs. -/
def Made (B : Nat) (w : World) (bs : List Nat) (e : Ending) (w' : World) : Prop :=
  ∃ v, e = .returned v ∧ w'.ownsRow B 5 1 v bs.length (bs.map vb) ∧ Below B w w'

theorem own_spliced {w : World} {B g n m : Nat} {xs cur : List Value} (hB : B ≤ g) (h : w.heap[g]? = some (.cells (splice cur 0 xs).toArray 5 (0, 0))) (hx : xs.length = n) (hc : cur.length = n + m) (hm : n + m ≤ maxLen) :
    w.ownsRow B 5 1 (.slice (some ⟨g, 0, none⟩) n (n + m)) n xs := by
  refine ⟨by omega, .inr ⟨g, n + m, _, rfl, hB, h, by omega, hm, ?_, ?_⟩⟩
  · simp [splice]; omega
  · simp [splice, hx]

set_option maxRecDepth 100000 in
set_option maxHeartbeats 400000 in
theorem put_calls (A : Option Addr) (c x : Nat) (bs : List Nat) (w : World) (hl : Lies w w.heap.size A (bs.map vb)) (hm : bs.length ≤ 140737488355000) (hx : x < 18446744073709551616) :
    Calls Try.prog 69 #[.slice A bs.length c, .int .u64 x] w (Made w.heap.size w (bs ++ enc x)) := by
  have HL := Lib.hid hl
  have HX := Lib.hid hx
  clear hl hx
  go_enter Try.func69, Try.ntmps69
  go_wp2_with fail
  refine (length_any x _ HX.out).mono ?_; rintro e w' ⟨m, m1, m10, rfl, rfl⟩
  have hmk : ∀ W : World, Sem.run Try.prog (Instr.makeSlice 29 (.int .i64 (bs.length : Int)) (.int .i64 ((bs.length : Int) + (m : Int)))) W =
      .ok (.slice (some ⟨W.heap.size, 0, none⟩) bs.length (bs.length + m)) (W.alloc (.cells (zeros (bs.length + m)) 5)) := fun W => by
    obtain ⟨i, hi, hz, hs, hb⟩ := info_parts (P := Try.prog) (e := 5) (z := .int .u8 0) (size := 1) (bytes := 1) (by kernel_rfl)
    have h := run_make (P := Try.prog) W 29 5 i (.int .u8 0) Try.underlying29 hi hz .i64 .i64 (bs.length : Int) ((bs.length : Int) + (m : Int)) (by omega) (by omega) (by rw [hb]; omega) (by omega)
    rw [hs, Nat.mul_one] at h
    exact h
  have hz : (zeros (bs.length + m)).toList.length = bs.length + m := by have := zeros_size (bs.length + m); simpa using this
  have hnew : (w.alloc (.cells (zeros (bs.length + m)) 5)).heap[w.heap.size]? = some (.cells (zeros (bs.length + m)).toList.toArray 5 (0, 0)) := by rw [Array.toArray_toList]; exact heap_alloc_new w _
  obtain ⟨w2, hcp, hh2, hb2, hs2⟩ := run_copy_fresh (P := Try.prog) 29 29 3 5 Try.underlying29 (by kernel_rfl) w.heap.size bs.length (bs.length + m) bs.length c (zeros (bs.length + m)).toList 5 hnew
    (HL.out.below ((Below.refl _ _).alloc (Nat.le_refl _) _)) (by simp) (by rw [hz]; simp) (by intro v hv; simp at hv; obtain ⟨_, _, rfl⟩ := hv; rfl)
  have hown : w2.ownsRow w.heap.size 5 1 (.slice (some ⟨w.heap.size, 0, none⟩) bs.length (bs.length + m)) bs.length (bs.map vb) := own_spliced (Nat.le_refl _) hh2 (by simp) hz (by clear hz; unfold maxLen; omega)
  have hbw : Below w.heap.size w w2 := ((Below.refl _ _).alloc (Nat.le_refl _) _).trans hb2
  have hsz : w.heap.size ≤ w2.heap.size := hbw.size
  have HB := Lib.hid hbw
  clear hz hnew hh2 hb2 hs2 hbw
  go_wp2_with fail
  go_loopw [1, 5] (fun u o wr => ∃ (f y : Nat) (pre : List Nat), u = .int .u64 y ∧ wr.ownsRow w.heap.size 5 1 o (bs.length + pre.length) ((bs ++ pre).map vb) ∧ Hid (enc x = pre ++ encN f y) ∧ pre.length ≤ 9 ∧ Hid (pre.length + f = 9) ∧ Hid (y < 2 * 128 ^ f) ∧
      Hid (Below w.heap.size w wr) ∧ w.heap.size ≤ wr.heap.size) (fun u _ _ => (intOf u).toNat)
  case atStart => exact ⟨9, x, [], rfl, by simpa using hown, Lib.hid rfl, by simp, Lib.hid rfl, Lib.hid (by have := HX.out; omega), HB, hsz⟩
  case round =>
    obtain ⟨f, y, pre, rfl, hown, he, hp9, hf, hy, hb, hsz⟩ := hrel
    have hlen : bs.length + pre.length + 1 ≤ maxLen ∧ (bs.length + pre.length + 1) * 1 ≤ 140737488355328 := by unfold maxLen; omega
    by_cases h128 : 128 ≤ y
    · obtain ⟨v', w1, hrun, hown1, hb1, hs1⟩ := run_append_one (P := Try.prog) (u := .int .u8 (bits .or .u8 ((y : Int) % 256) 128)) 29 29 5 (.int .u8 0) 1 Try.underlying29 (by kernel_rfl) rfl rfl hown hlen.1 hlen.2 hsz
      have HO := Lib.hid hown1
      have HB1 := Lib.hid hb1
      have HR := Lib.hid hrun
      clear hown hown1 hlen hb1 hrun
      go_wp2_with (at_builtin; refine wpList_append_run rfl _ _ 29 rfl rfl rfl HR.out ?_)
      go_roundw
      case rel =>
        obtain ⟨f, rfl⟩ : ∃ k, f = k + 1 := by
          rcases f with _ | f
          · have := hy.out
            omega
          · exact ⟨f, rfl⟩
        have h9 := hf.out
        refine ⟨f, y / 128, pre ++ [y % 128 + 128], by go_num, ?_, Lib.hid ?_, by simp; omega, Lib.hid (by simp; omega), Lib.hid ?_, Lib.hid (hb.out.trans HB1.out), by omega⟩
        · have := HO.out
          rw [or_128 y] at this
          simp only [List.map_append, List.map_cons, List.map_nil, List.length_append, List.length_cons, List.length_nil, Nat.zero_add, ← Nat.add_assoc, ← List.append_assoc] at this ⊢
          exact this
        · rw [he.out]
          conv => lhs; rw [encN]
          rw [if_neg (by omega)]
          simp
        · have := hy.out
          rw [Nat.pow_succ] at this
          omega
      case measure => simp [intOf]; omega
    · obtain ⟨v', w1, hrun, hown1, hb1, hs1⟩ := run_append_one (P := Try.prog) (u := vb y) 29 29 5 (.int .u8 0) 1 Try.underlying29 (by kernel_rfl) rfl rfl hown hlen.1 hlen.2 hsz
      have HO := Lib.hid hown1
      have HB1 := Lib.hid hb1
      have HR := Lib.hid hrun
      have h1 : y < 128 := by omega
      clear hown hown1 hlen hb1 h128 hrun
      go_wp2_with (at_builtin; refine wpList_append_run rfl _ _ 29 rfl rfl rfl HR.out ?_)
      go_ret
      refine ⟨v', rfl, ?_, hb.out.trans HB1.out⟩
      have ee : encN f y = [y] := by
        rcases f with _ | f
        · rfl
        · simp [encN, h1]
      rw [he.out, ee]
      have := HO.out
      simpa [Nat.add_assoc] using this
end Go.Proofs.Ythhmjjmjicmhdaa.Vt
