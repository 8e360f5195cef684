/- What the laws on package crc share: the example of the document, sums by the table, and copies. -/
import Derived.Test.YtalmaooakgfllaaRef
import Derived.Test.YtalmaooakgfllaaMask
import Derived.Lib.SlBytesConst
import Derived.Lib.SmallJoins
namespace Go.Proofs.Ytalmaooakgfllaa.Crc
set_option linter.unusedVariables false
open Go.RowKit Lift

/-- The sum by the table of the package. -/
theorem sum_by_tab (At Ab : Option Addr) (ct cb B : Nat) (bs : List Nat) (w : World) (hct : 256 ≤ ct) (hl : Lies w w.heap.size At (tab.map vw))
    (hb : Lies w B Ab (bs.map vb)) (hcb : bs.length ≤ cb) (hm : bs.length ≤ maxLen) (b8 : ∀ c, c ∈ bs → c < 256) :
    Calls Try.prog 12 #[.slice At 256 ct, .slice Ab bs.length cb] w fun e w' => e = .returned (.int .u32 (crc ent bs : Nat)) ∧ w = w' := by
  obtain ⟨ad, rfl, _, hc⟩ := hl.place (by rw [List.length_map, tab_length]; decide)
  have h := sum_tab ad Ab ct cb B tab bs w tab_length hct hc hb hcb hm tab32 b8
  rw [crc_congr tab_look bs b8] at h
  exact h
/-- true, and all old memory as it was. -/
def Yes (w : World) (e : Ending) (w' : World) : Prop := e = .returned (.bool true) ∧ Below w.heap.size w w'

theorem fresh_bytes (A : Option Addr) (c B : Nat) (bs : List Nat) (W : World) (hl : Lies W B A (bs.map vb)) (hn : bs.length ≤ 500) :
    ∃ A2 c2 W2, Sem.run Try.prog (Builtin.append_ #[23, 23] 23 #[.slice none 0 0, .slice A bs.length c]) W = .ok (.slice A2 bs.length c2) W2 ∧
      W2.ownsRow W.heap.size 5 1 (.slice A2 bs.length c2) bs.length (bs.map vb) ∧ Below W.heap.size W W2 := by
  obtain ⟨v2, W2, hr2, hown, hb2, hs2⟩ := run_append_lies (P := Try.prog) (w := W) (base := W.heap.size) (m := bs.length) (c := c) 23 23 5 (.int .u8 0) 1 1 Try.underlying23 (by kernel_rfl) rfl (by decide)
      (fun u hu => by simp at hu; obtain ⟨_, _, rfl⟩ := hu; rfl) (World.ownsRow_nil _ _ _ _) hl (by simp) (by unfold maxLen; omega) (by omega) (Nat.le_refl _)
  rw [Nat.zero_add, List.nil_append] at hown
  obtain ⟨A2, c2, rfl, hc2, hm3, hl2⟩ := own_parts hown
  exact ⟨A2, c2, W2, hr2, hown, hb2⟩
theorem fresh_words (A : Option Addr) (c B : Nat) (ts : List Nat) (W : World) (hl : Lies W B A (ts.map vw)) (hn : ts.length ≤ 500) :
    ∃ A2 c2 W2, Sem.run Try.prog (Builtin.append_ #[22, 22] 22 #[.slice none 0 0, .slice A ts.length c]) W = .ok (.slice A2 ts.length c2) W2 ∧ ts.length ≤ c2 ∧ c2 ≤ maxLen ∧
      Lies W2 W2.heap.size A2 (ts.map vw) ∧ Below W.heap.size W W2 := by
  obtain ⟨v2, W2, hr2, hown, hb2, hs2⟩ := run_append_lies (P := Try.prog) (w := W) (base := W.heap.size) (m := ts.length) (c := c) 22 22 27 (.int .u32 0) 1 4 Try.underlying22 (by kernel_rfl) rfl (by decide)
      (fun u hu => by simp at hu; obtain ⟨_, _, rfl⟩ := hu; rfl) (World.ownsRow_nil _ _ _ _) hl (by simp) (by unfold maxLen; omega) (by omega) (Nat.le_refl _)
  rw [Nat.zero_add, List.nil_append] at hown
  obtain ⟨A2, c2, rfl, hc2, hm3, hl2⟩ := own_parts hown
  exact ⟨A2, c2, W2, hr2, hc2, hm3, hl2, hb2⟩

set_option maxRecDepth 100000 in
set_option maxHeartbeats 400000 in
theorem alive_any (w : World) : Calls Try.prog 8 #[] w (Yes w) := by
  go_enter Try.func8, Try.ntmps8
  go_wp2_with fail
  refine (table_any w).mono ?_
  intro e w1 hmade
  obtain ⟨A1, c1, rfl, hc1, hm1, hl1, hb1⟩ := hmade.parts
  clear hmade
  rw [tab_length] at hc1 ⊢
  have HL := Lib.hid hl1
  have HB := Lib.hid hb1
  have HC := Lib.hid hc1
  clear hl1 hb1 hc1 hm1
  have hs : ∀ W : World, Lies W W.heap.size A1 (tab.map vw) → W.heap[w1.heap.size]? = some (.cells #[vb 49, vb 50, vb 51, vb 52, vb 53, vb 54, vb 55, vb 56, vb 57] 5 (9, 10)) →
      Calls Try.prog 12 #[.slice A1 256 c1, .slice (some ⟨w1.heap.size, 0, none⟩) 9 9] W fun e w' => e = .returned (.int .u32 3808858755) ∧ W = w' := fun W hl hh => by
    have h := sum_by_tab A1 (some ⟨w1.heap.size, 0, none⟩) c1 9 (w1.heap.size + 1) [49, 50, 51, 52, 53, 54, 55, 56, 57] W HC.out hl
      (.inr ⟨_, rfl, Nat.lt_succ_self _, fun j u hj => by
        have hc : (#[vb 49, vb 50, vb 51, vb 52, vb 53, vb 54, vb 55, vb 56, vb 57] : Array Value)[j]? = some u := by simpa using hj
        rw [show (Addr.add ⟨w1.heap.size, 0, none⟩ j) = ⟨w1.heap.size, j, none⟩ by unfold Addr.add; split <;> simp_all]
        simp only [World.cell?, hh]
        exact hc⟩) (by simp) (by decide) (by decide)
    rw [crc_known] at h
    exact h
  have HS := Lib.hid hs
  clear hs
  have kc := fun (W : World) (C : Array Value) (n c : Nat) => Lib.run_convert_bytes_const (P := Try.prog) W 23 5 C n c Try.underlying23 Try.underlying5
  go_wp2_with fail
  have hbw := (Below.refl w1.heap.size w1).alloc (Nat.le_refl _) (.cells #[vb 49, vb 50, vb 51, vb 52, vb 53, vb 54, vb 55, vb 56, vb 57] 5 (9, 10))
  refine (HS.out _ ((HL.out.below hbw).up hbw.size) (heap_alloc_new _ _)).mono ?_
  rintro e w' ⟨rfl, rfl⟩
  have HW := Lib.hid hbw
  clear hbw
  go_wp2_with fail
  go_ret
  exact ⟨rfl, HB.out.trans (HW.out.mono HB.out.size)⟩
end Go.Proofs.Ytalmaooakgfllaa.Crc
