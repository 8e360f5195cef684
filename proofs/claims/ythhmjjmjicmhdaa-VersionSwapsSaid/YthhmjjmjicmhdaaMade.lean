/- Slices of bytes that a call makes: fresh bytes, what a copy lays into them, and what is handed on. -/
import Derived.Test.YthhmjjmjicmhdaaRows
import Derived.Test.YthhmjjmjicmhdaaLift
import Derived.WalkLawsBesides
import Derived.WalkSpells
namespace Go.Proofs.Ythhmjjmjicmhdaa.Lift
open Go.RowKit

/-- Fresh bytes. -/
def zeros (n : Nat) : Array Value := madeCells #[.int .u8 0] n
theorem zeros_size (n : Nat) : (zeros n).size = n := by
  have := congrArg List.length (toList_madeCells_one (.int .u8 0) n)
  simpa [zeros] using this

/-- A slice of the call's own that holds the bytes bs. -/
def Made (B : Nat) (w : World) (bs : List Nat) (e : Ending) (w' : World) : Prop :=
  ∃ v, e = .returned v ∧ w'.ownsRow B 5 1 v bs.length (bs.map fun c : Nat => Value.int .u8 (c : Int)) ∧ Below B w w'
theorem Made.parts {B : Nat} {w w' : World} {bs : List Nat} {e : Ending} (h : Made B w bs e w') :
    ∃ A c, e = .returned (.slice A bs.length c) ∧ bs.length ≤ c ∧ c ≤ maxLen ∧ Lies w' w'.heap.size A (bs.map fun c : Nat => Value.int .u8 (c : Int)) ∧ Below B w w' := by
  obtain ⟨v, rfl, ho, hb⟩ := h
  obtain ⟨A, c, rfl, hc, hm, hl⟩ := own_parts ho
  exact ⟨A, c, rfl, hc, hm, hl, hb⟩

theorem own_spliced {w : World} {B g n m : Nat} {xs cur : List Value} (hB : B ≤ g) (h : w.heap[g]? = some (.cells (splice cur 0 xs).toArray 5 (0, 0))) (hx : xs.length = n) (hc : cur.length = n + m) (hm : n + m ≤ maxLen) :
    w.ownsRow B 5 1 (.slice (some ⟨g, 0, none⟩) n (n + m)) n xs := by
  refine ⟨by omega, .inr ⟨g, n + m, _, rfl, hB, h, by omega, hm, ?_, ?_⟩⟩
  · simp [splice]; omega
  · simp [splice, hx]

/-- make([]byte, n, n + m). -/
theorem make_bytes (n m : Nat) (h : n + m ≤ 140737488355328) (W : World) : Sem.run Try.prog (Instr.makeSlice 29 (.int .i64 (n : Int)) (.int .i64 ((n : Int) + (m : Int)))) W =
      .ok (.slice (some ⟨W.heap.size, 0, none⟩) n (n + m)) (W.alloc (.cells (zeros (n + m)) 5)) := by
  obtain ⟨i, hi, hz, hs, hb⟩ := info_parts (P := Try.prog) (e := 5) (z := .int .u8 0) (size := 1) (bytes := 1) (by kernel_rfl)
  have h := run_make (P := Try.prog) W 29 5 i (.int .u8 0) Try.underlying29 hi hz .i64 .i64 (n : Int) ((n : Int) + (m : Int)) (by omega) (by omega) (by rw [hb]; omega) (by omega)
  rw [hs, Nat.mul_one] at h
  exact h
/-- make([]byte, n, n + m), and bytes copied into its first n. -/
theorem make_copy (A : Option Addr) (c m : Nat) (bs : List Nat) (W : World) (hl : Lies W W.heap.size A (bs.map fun c : Nat => Value.int .u8 (c : Int))) (h : bs.length + m ≤ 140737488355328) :
    ∃ W2, Sem.run Try.prog (Builtin.copy_ #[29, 29] 3 #[.slice (some ⟨W.heap.size, 0, none⟩) bs.length (bs.length + m), .slice A bs.length c]) (W.alloc (.cells (zeros (bs.length + m)) 5)) = .ok (.int .i64 (bs.length : Int)) W2 ∧
      W2.ownsRow W.heap.size 5 1 (.slice (some ⟨W.heap.size, 0, none⟩) bs.length (bs.length + m)) bs.length (bs.map fun c : Nat => Value.int .u8 (c : Int)) ∧ Below W.heap.size W W2 := by
  have hz : (zeros (bs.length + m)).toList.length = bs.length + m := by have := zeros_size (bs.length + m); simpa using this
  have hnew : (W.alloc (.cells (zeros (bs.length + m)) 5)).heap[W.heap.size]? = some (.cells (zeros (bs.length + m)).toList.toArray 5 (0, 0)) := by rw [Array.toArray_toList]; exact heap_alloc_new W _
  obtain ⟨w2, hcp, hh2, hb2, hs2⟩ := run_copy_fresh (P := Try.prog) 29 29 3 5 Try.underlying29 (by kernel_rfl) W.heap.size bs.length (bs.length + m) bs.length c (zeros (bs.length + m)).toList 5 hnew
    (hl.below ((Below.refl _ _).alloc (Nat.le_refl _) _)) (by simp) (by rw [hz]; simp) (by intro v hv; simp at hv; obtain ⟨_, _, rfl⟩ := hv; rfl)
  refine ⟨w2, ?_, own_spliced (Nat.le_refl _) hh2 (by simp) hz (by clear hz; unfold maxLen; omega), ((Below.refl _ _).alloc (Nat.le_refl _) _).trans hb2⟩
  rw [List.length_map] at hcp
  exact hcp
/-- append([]byte(nil), bs...). -/
theorem fresh_bytes (A : Option Addr) (c B : Nat) (bs : List Nat) (W : World) (hl : Lies W B A (bs.map fun c : Nat => Value.int .u8 (c : Int))) (hn : bs.length ≤ 140737488355000) :
    ∃ A2 c2 W2, Sem.run Try.prog (Builtin.append_ #[29, 29] 29 #[.slice none 0 0, .slice A bs.length c]) W = .ok (.slice A2 bs.length c2) W2 ∧
      W2.ownsRow W.heap.size 5 1 (.slice A2 bs.length c2) bs.length (bs.map fun c : Nat => Value.int .u8 (c : Int)) ∧ Below W.heap.size W W2 := by
  obtain ⟨v2, W2, hr2, hown, hb2, hs2⟩ := run_append_lies (P := Try.prog) (w := W) (base := W.heap.size) (m := bs.length) (c := c) 29 29 5 (.int .u8 0) 1 1 Try.underlying29 (by kernel_rfl) rfl (by decide)
      (fun u hu => by simp at hu; obtain ⟨_, _, rfl⟩ := hu; rfl) (World.ownsRow_nil _ _ _ _) hl (by simp) (by unfold maxLen; omega) (by omega) (Nat.le_refl _)
  rw [Nat.zero_add, List.nil_append] at hown
  obtain ⟨A2, c2, rfl, hc2, hm3, hl2⟩ := own_parts hown
  exact ⟨A2, c2, W2, hr2, hown, hb2⟩
end Go.Proofs.Ythhmjjmjicmhdaa.Lift
