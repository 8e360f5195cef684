/- What Bytes of package ikey, and the document's own KeyBytes, make of a key. -/
import Derived.Test.YtobjiamdljjkjaaKopen
import Derived.Test.YtobjiamdljjkjaaMade
import Derived.Laws.BitsAllLaws
import Derived.Laws.BitsLemmas
namespace Go.Proofs.Ytobjiamdljjkjaa.Ik
set_option linter.unusedVariables false
set_option linter.unusedSimpArgs false
open Go.RowKit Lift

/-- The bytes of a key. -/
def bytesK (a : K) : List Nat := if okB a.key.length a.seq a.kind = true then a.key ++ low (a.seq * 256 + a.kind.toNat) 8 else []

theorem tail_or (s k : Nat) (hs : s ≤ 72057594037927935) (hk : k < 256) : bits .or .u64 ((s : Int) * 256) (k : Int) = ((s * 256 + k : Nat) : Int) := by
  have h := u64_or_nat (s * 256) k (by omega) (by omega)
  rw [show ((s * 256 : Nat) : Int) = (s : Int) * 256 by omega] at h
  rw [h]
  have e := Nat.two_pow_add_eq_or_of_lt (i := 8) (b := k) (by omega) s
  rw [show 2 ^ 8 * s = s * 256 by omega] at e
  rw [← e]

theorem pow8_cast (j : Nat) : (2 : Int) ^ (8 * j) = ((256 ^ j : Nat) : Int) := by
  rw [show (256 : Nat) = 2 ^ 8 from rfl, ← Nat.pow_mul, Int.natCast_pow]
  rfl
theorem byte_at (t j : Nat) : (t : Int) / 2 ^ (8 * j) % 256 = ((t / 256 ^ j % 256 : Nat) : Int) := by
  rw [pow8_cast, ← Int.natCast_ediv]
  omega
theorem low_next (xs : List Nat) (t j : Nat) (z : Int) (h : z = (t : Int) / 2 ^ (8 * j) % 256) : (xs ++ low t j).map vb ++ [Value.int .u8 z] = (xs ++ low t (j + 1)).map vb := by
  rw [low_snoc, h, byte_at]
  simp
theorem nat_in (s k : Nat) : ((s : Int) * 256 + (k : Int)) = ((s * 256 + k : Nat) : Int) := by omega

set_option maxRecDepth 100000 in
set_option maxHeartbeats 400000 in
theorem bytes_ok (A : Option Addr) (c : Nat) (a : K) (w : World) (h : At w w.heap.size A c a) (hk : okB a.key.length a.seq a.kind = true) :
    Calls Try.prog 55 #[key A c a] w (Made w.heap.size w (bytesK a)) := by
  obtain ⟨n1, n2, s1, k1⟩ : 1 ≤ a.key.length ∧ a.key.length ≤ 256 ∧ a.seq ≤ 72057594037927935 ∧ (a.kind = 0 ∨ a.kind = 1) := by simpa [okB] using hk
  obtain ⟨k, ek, k2⟩ : ∃ k : Nat, a.kind = (k : Int) ∧ k < 256 := ⟨a.kind.toNat, by omega, by omega⟩
  have EB : Hid (bytesK a = a.key ++ low (a.seq * 256 + k) 8) := Lib.hid (by unfold bytesK; rw [if_pos hk, ek]; rfl)
  have L := Lib.hid h.1
  have hr := right_any A c a.key.length a.seq a.kind
  rw [hk] at hr
  have HR := Lib.hid hr
  have HO := tail_or a.seq k s1 k2
  clear h hr hk k1
  unfold key
  rw [ek] at HR ⊢
  clear ek
  go_enter Try.func55, Try.ntmps55
  go_wp2_with fail
  have hb0 := Joins.below_alloc1 w (.cells #[.slice A a.key.length c, .int .u64 (a.seq : Int), .int .i64 (k : Int)] 38)
  refine (HR.out _).mono ?_; rintro e W1 ⟨rfl, hb1⟩
  have HB1 := Lib.hid (hb0.trans (hb1.mono hb0.size))
  have hz : w.heap.size < W1.heap.size := by have := hb1.size; simp at this; omega
  obtain ⟨p1, p2, p3⟩ := (Box.new w A c ⟨a.key, a.seq, k⟩).later hb1 (by simp)
  clear hb1 hb0
  have hl1 := (L.out.below HB1.out).up HB1.out.size
  have hmk : ∀ W, Sem.run Try.prog (Instr.makeSlice 25 (.int .i64 (a.key.length : Int)) (.int .i64 ((a.key.length : Int) + 8))) W = _ := fun W => make_bytes a.key.length 8 (by omega) W
  obtain ⟨W2, hcp, hown, hb2⟩ := make_copy A c 8 a.key W1 hl1 (by omega)
  have ha1 := (Below.refl W1.heap.size W1).alloc (Nat.le_refl _) (.cells (zeros (a.key.length + 8)) 5)
  have q1 := (ha1.cell (p := ⟨w.heap.size, 0, none⟩) hz).trans p1
  have q2 := (hb2.cell (p := ⟨w.heap.size, 1, none⟩) hz).trans p2
  have q3 := (hb2.cell (p := ⟨w.heap.size, 2, none⟩) hz).trans p3
  have HB2 := Lib.hid (HB1.out.trans (hb2.mono HB1.out.size))
  have hz2 := Nat.le_trans (Nat.le_of_lt hz) hb2.size
  have hsz2 := hb2.size
  clear hl1 ha1 hb2 hz hz2
  go_wp2_with fail
  clear p1 p2 p3 q1 q2 q3 hmk hcp
  go_loopw [3, 28] (fun o i wr => ∃ j : Nat, j ≤ 8 ∧ i = .int .i64 j ∧ wr.ownsRow W1.heap.size 5 1 o (a.key.length + j) ((a.key ++ low (a.seq * 256 + k) j).map vb) ∧ Hid (Below w.heap.size w wr) ∧ W1.heap.size ≤ wr.heap.size) (fun _ i _ => 10 - (intOf i).toNat)
  case atStart => exact ⟨0, by omega, rfl, by simpa [low] using hown, HB2, hsz2⟩
  case round =>
    clear hown
    obtain ⟨j, hj, rfl, hown, hb, hsz⟩ := hrel
    by_cases hlt : j < 8
    · obtain ⟨v', w1, hrun, hown1, hb1, hs1⟩ := run_append_one (P := Try.prog) (u := .int .u8 (((a.seq : Int) * 256 + (k : Int)) / 2 ^ (8 * j) % 256)) 25 25 5 (.int .u8 0) 1 Try.underlying25 (by kernel_rfl) rfl rfl hown (by unfold maxLen; omega) (by omega) hsz
      rw [low_next _ _ _ _ (by rw [nat_in])] at hown1
      have HO1 := Lib.hid hown1
      have HB3 := Lib.hid (hb.out.trans (hb1.mono HB1.out.size))
      have HR1 := Lib.hid hrun
      clear hown hown1 hb1 hrun
      go_wp2_with (at_builtin; refine wpList_append_run rfl _ _ 25 rfl rfl rfl HR1.out ?_)
      go_roundw
      case rel => exact ⟨j + 1, by omega, by go_num, by rw [← Nat.add_assoc]; exact HO1.out, HB3, by omega⟩
      case measure => simp [intOf]; omega
    · obtain rfl : j = 8 := by omega
      have HO1 := Lib.hid hown
      clear hown
      go_wp2_with fail
      go_ret
      refine ⟨_, rfl, ?_, hb.out⟩
      rw [EB.out, List.length_append, low_length]
      exact Joins.ownsRow_le HO1.out HB1.out.size

/-- Of a key that is not valid there are no bytes. -/
theorem bytes_no (A : Option Addr) (c : Nat) (a : K) (w : World) (hk : okB a.key.length a.seq a.kind = false) :
    Calls Try.prog 55 #[key A c a] w (Made w.heap.size w (bytesK a)) := by
  have EB : Hid (bytesK a = []) := Lib.hid (by unfold bytesK; rw [hk]; rfl)
  have hr := right_any A c a.key.length a.seq a.kind
  rw [hk] at hr
  have HR := Lib.hid hr
  clear hr hk
  go_enter Try.func55, Try.ntmps55
  go_wp2_with fail
  have hb0 := Joins.below_alloc1 w (.cells #[.slice A a.key.length c, .int .u64 (a.seq : Int), .int .i64 a.kind] 38)
  refine (HR.out _).mono ?_; rintro e W1 ⟨rfl, hb1⟩
  have HB1 := Lib.hid (hb0.trans (hb1.mono hb0.size))
  clear hb0 hb1
  go_wp2_with fail
  go_ret
  refine ⟨_, rfl, ?_, HB1.out⟩
  rw [EB.out]
  exact World.ownsRow_nil _ _ _ _
theorem bytes_any (A : Option Addr) (c : Nat) (a : K) (w : World) (h : At w w.heap.size A c a) : Calls Try.prog 55 #[key A c a] w (Made w.heap.size w (bytesK a)) := by
  cases hk : okB a.key.length a.seq a.kind
  · exact bytes_no A c a w hk
  · exact bytes_ok A c a w h hk

theorem and_byte (x j : Nat) (hx : x < 18446744073709551616) : bits .and .u64 ((x : Int) / 2 ^ (8 * j)) 255 % 256 = (x : Int) / 2 ^ (8 * j) % 256 := by
  rw [pow8_cast, ← Int.natCast_ediv]
  have h1 := u64_and_nat (x / 256 ^ j) 255 (Nat.lt_of_le_of_lt (Nat.div_le_self _ _) hx) (by decide)
  rw [show ((255 : Nat) : Int) = 255 from rfl, show x / 256 ^ j &&& 255 = x / 256 ^ j % 2 ^ 8 from Nat.and_two_pow_sub_one_eq_mod (x / 256 ^ j) 8] at h1
  rw [h1]
  omega
set_option maxRecDepth 100000 in
set_option maxHeartbeats 400000 in
theorem low_any (A : Option Addr) (c B x n : Nat) (bs : List Nat) (w : World) (hl : Lies w B A (bs.map vb)) (hm : bs.length ≤ 140737488354000) (hx : x < 18446744073709551616) (hn : n ≤ 8) :
    Calls Try.prog 64 #[.slice A bs.length c, .int .u64 (x : Int), .int .i64 (n : Int)] w (Made w.heap.size w (bs ++ low x n)) := by
  obtain ⟨A2, c2, W2, hr, hown, hb⟩ := fresh_bytes A c B bs w hl (by omega)
  have HR := Lib.hid hr
  have HB := Lib.hid hb
  have hz := hb.size
  clear hr hb hl
  go_enter Try.func64, Try.ntmps64
  go_wp2_with (at_builtin; refine wpList_append_run rfl _ _ 25 rfl rfl rfl HR.out ?_)
  go_loopw [7, 8] (fun o i wr => ∃ j : Nat, j ≤ n ∧ i = .int .i64 j ∧ wr.ownsRow w.heap.size 5 1 o (bs.length + j) ((bs ++ low x j).map vb) ∧ Hid (Below w.heap.size w wr) ∧ w.heap.size ≤ wr.heap.size) (fun _ i _ => 10 - (intOf i).toNat)
  case atStart => exact ⟨0, by omega, rfl, by simpa [low] using hown, HB, hz⟩
  case round =>
    clear hown
    obtain ⟨j, hj, rfl, hown, hb, hsz⟩ := hrel
    by_cases hlt : j < n
    · obtain ⟨v', w1, hrun, hown1, hb1, hs1⟩ := run_append_one (P := Try.prog) (u := .int .u8 (bits .and .u64 ((x : Int) / 2 ^ (8 * j)) 255 % 256)) 25 25 5 (.int .u8 0) 1 Try.underlying25 (by kernel_rfl) rfl rfl hown (by unfold maxLen; omega) (by omega) hsz
      rw [low_next _ _ _ _ (and_byte x j hx)] at hown1
      have HO1 := Lib.hid hown1
      have HB3 := Lib.hid (hb.out.trans hb1)
      have HR1 := Lib.hid hrun
      clear hown hown1 hb1 hrun
      go_wp2_with (at_builtin; refine wpList_append_run rfl _ _ 25 rfl rfl rfl HR1.out ?_)
      go_roundw
      case rel => exact ⟨j + 1, by omega, by go_num, by rw [← Nat.add_assoc]; exact HO1.out, HB3, by omega⟩
      case measure => simp [intOf]; omega
    · obtain rfl : j = n := by omega
      have HO1 := Lib.hid hown
      clear hown
      go_wp2_with fail
      go_ret
      refine ⟨_, rfl, ?_, hb.out⟩
      rw [List.length_append, low_length]
      exact HO1.out

set_option maxRecDepth 100000 in
set_option maxHeartbeats 400000 in
theorem rbytes_ok (A : Option Addr) (c : Nat) (a : K) (w : World) (h : At w w.heap.size A c a) (hk : okB a.key.length a.seq a.kind = true) :
    Calls Try.prog 63 #[key A c a] w (Made w.heap.size w (bytesK a)) := by
  obtain ⟨n1, n2, s1, k1⟩ : 1 ≤ a.key.length ∧ a.key.length ≤ 256 ∧ a.seq ≤ 72057594037927935 ∧ (a.kind = 0 ∨ a.kind = 1) := by simpa [okB] using hk
  obtain ⟨k, ek, k2⟩ : ∃ k : Nat, a.kind = (k : Int) ∧ k < 256 := ⟨a.kind.toNat, by omega, by omega⟩
  have EB : Hid (bytesK a = a.key ++ low (a.seq * 256 + k) 8) := Lib.hid (by unfold bytesK; rw [if_pos hk, ek]; rfl)
  have L := Lib.hid h.1
  have hr := rright_any A c a.key.length a.seq a.kind
  rw [hk] at hr
  have HR := Lib.hid hr
  have HO := tail_or a.seq k s1 k2
  clear h hr hk k1
  unfold key
  rw [ek] at HR ⊢
  clear ek
  go_enter Try.func63, Try.ntmps63
  go_wp2_with fail
  have hb0 := Joins.below_alloc1 w (.cells #[.slice A a.key.length c, .int .u64 (a.seq : Int), .int .i64 (k : Int)] 38)
  refine (HR.out _).mono ?_; rintro e W1 ⟨rfl, hb1⟩
  have HB1 := Lib.hid (hb0.trans (hb1.mono hb0.size))
  obtain ⟨p1, p2, p3⟩ := (Box.new w A c ⟨a.key, a.seq, k⟩).later hb1 (by simp)
  clear hb1 hb0
  have hl1 := L.out.below HB1.out
  have hlow := low_any A c _ (a.seq * 256 + k) 8 a.key W1 hl1 (by omega) (by omega) (by omega)
  rw [← nat_in] at hlow
  have HL := Lib.hid hlow
  clear hl1 hlow
  go_wp2_with fail
  refine HL.out.mono ?_; rintro e W2 ⟨v, rfl, hown, hb2⟩
  have HB2 := Lib.hid (HB1.out.trans (hb2.mono HB1.out.size))
  have HO2 := Lib.hid hown
  clear hown hb2
  go_wp2_with fail
  go_ret
  refine ⟨_, rfl, ?_, HB2.out⟩
  rw [EB.out]
  exact Joins.ownsRow_le HO2.out HB1.out.size
theorem rbytes_no (A : Option Addr) (c : Nat) (a : K) (w : World) (hk : okB a.key.length a.seq a.kind = false) :
    Calls Try.prog 63 #[key A c a] w (Made w.heap.size w (bytesK a)) := by
  have EB : Hid (bytesK a = []) := Lib.hid (by unfold bytesK; rw [hk]; rfl)
  have hr := rright_any A c a.key.length a.seq a.kind
  rw [hk] at hr
  have HR := Lib.hid hr
  clear hr hk
  go_enter Try.func63, Try.ntmps63
  go_wp2_with fail
  have hb0 := Joins.below_alloc1 w (.cells #[.slice A a.key.length c, .int .u64 (a.seq : Int), .int .i64 a.kind] 38)
  refine (HR.out _).mono ?_; rintro e W1 ⟨rfl, hb1⟩
  have HB1 := Lib.hid (hb0.trans (hb1.mono hb0.size))
  clear hb0 hb1
  go_wp2_with fail
  go_ret
  refine ⟨_, rfl, ?_, HB1.out⟩
  rw [EB.out]
  exact World.ownsRow_nil _ _ _ _
theorem rbytes_any (A : Option Addr) (c : Nat) (a : K) (w : World) (h : At w w.heap.size A c a) : Calls Try.prog 63 #[key A c a] w (Made w.heap.size w (bytesK a)) := by
  cases hk : okB a.key.length a.seq a.kind
  · exact rbytes_no A c a w hk
  · exact rbytes_ok A c a w h hk
end Go.Proofs.Ytobjiamdljjkjaa.Ik
