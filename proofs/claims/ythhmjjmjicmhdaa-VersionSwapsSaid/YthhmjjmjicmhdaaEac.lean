/- Runs in a slice of the call's own. -/
import Derived.Test.YthhmjjmjicmhdaaEfr
namespace Go.Proofs.Ythhmjjmjicmhdaa.Ed
set_option linter.unusedVariables false
set_option linter.unusedSimpArgs false
open Go.RowKit Lift Ik
section
variable {w w' : World} {S : Nat → Prop} {B : Nat} {v : Value} {L : List D}
theorem own_blk {e : TypeId} {v : Value} {base n size k : Nat} {xs : List Value} (h : w.ownsRow base e size v n xs) (hk : v.ownBlock = some k) : ∃ cs fr, w.heap[k]? = some (.cells cs e fr) := by
  rcases h.2 with ⟨rfl, _⟩ | ⟨g', cap, cur, rfl, _, hh, _⟩
  · simp [Value.ownBlock] at hk
  · simp [Value.ownBlock] at hk
    subst hk
    exact ⟨_, _, hh⟩
theorem Fresh.keep (hk : Keep S w w') (hS : ∀ k, Fresh B w k → ¬ S k) (k : Nat) (h : Fresh B w k) : Fresh B w' k := by
  have hn := hS k h
  obtain ⟨h1, h2, cs, fr, h3⟩ := h
  exact ⟨h1, Nat.lt_of_lt_of_le h2 hk.size, cs, fr, (hk.block k h2 hn).trans h3⟩
/-- Runs in a slice of the call's own. -/
structure Ac (B : Nat) (w : World) (v : Value) (L : List D) : Prop where
  own : w.ownsRow B 41 6 v L.length (cellsL L)
  ok : ∀ d, d ∈ L → d.Ok w (Fresh B w)
theorem Ac.nil (B : Nat) (w : World) : Ac B w (.slice none 0 0) [] := ⟨World.ownsRow_nil _ _ _ _, by simp⟩
theorem Ac.keep (h : Ac B w v L) (hk : Keep S w w') (h1 : ∀ k, v.ownBlock = some k → ¬ S k) (h2 : ∀ k, Fresh B w k → ¬ S k) : Ac B w' v L :=
  ⟨own_kept h.own hk h1, fun d hd => (h.ok d hd).later (fun k hf => hk.block k hf.2.1 (h2 k hf)) fun k hf => Fresh.keep hk h2 k hf⟩
theorem Ac.below (h : Ac B w v L) (hb : Below w.heap.size w w') : Ac B w' v L := h.keep (S := fun _ => False) (below_keep hb) (fun _ _ h => h) fun _ _ h => h
theorem Ac.low (h : Ac B w v L) (hk : Keep S w w') (hS : ∀ k, S k → k < B) : Ac B w' v L := h.keep hk (fun k hv hs => absurd (hS k hs) (Nat.not_lt_of_le (h.own.lt k hv).1)) fun k hf hs => absurd (hS k hs) (Nat.not_lt_of_le hf.1)
abbrev rbox (d : D) : Obj := .cells #[.int .i64 d.file, .int .i64 d.bytes, .int .i64 d.count, .slice d.firstA d.first.length d.firstC, .slice d.lastA d.last.length d.lastC, .int .u64 (d.seq : Int)] 41
/-- One run more: append(runs, run). -/
theorem Ac.more (h : Ac B w v L) {d : D} (hd : d.Ok w (Fresh B w)) (hB : B ≤ w.heap.size) (hL : L.length ≤ 100000000) :
    ∃ v' w', Sem.run Try.prog (Builtin.append_ #[22, 22] 22 #[v, .slice (some ⟨w.heap.size, 0, none⟩) 1 1]) (w.alloc (rbox d)) = .ok v' w' ∧ Ac B w' v' (L ++ [d]) ∧ Onto v v' w w' := by
  have hb := Joins.below_alloc1 w (rbox d)
  have hl : Lies (w.alloc (rbox d)) (w.heap.size + 1) (some ⟨w.heap.size, 0, none⟩) d.cells := lies_block (cs := d.cells.toArray) (heap_alloc_new w _) (Nat.lt_succ_self _)
  have h1 := h.below hb
  obtain ⟨v', w', hr, ho, hon⟩ := run_append_onto (P := Try.prog) (m := 1) (c := 1) 22 22 41 (.agg #[.int .i64 0, .int .i64 0, .int .i64 0, .slice none 0 0, .slice none 0 0, .int .u64 0]) 6 80 Try.underlying22 (by kernel_rfl) rfl (by decide)
    (fun u hu => by simp [D.cells] at hu; rcases hu with rfl | rfl | rfl | rfl | rfl | rfl <;> rfl) h1.own hl rfl (by unfold maxLen; omega) (by omega) (Nat.le_trans hB hb.size)
  have hon2 : Onto v v' w w' := Onto.pre hb hon
  have hno : ∀ k, Fresh B w k → ¬ v.ownBlock = some k := fun k ⟨_, _, cs, fr, h3⟩ hv => by
    obtain ⟨cs2, fr2, h4⟩ := own_blk h.own hv
    rw [h3] at h4
    injection h4 with h4
    injection h4 with _ h4
    exact absurd h4 (by decide)
  refine ⟨v', w', hr, ⟨by rw [List.length_append, cellsL_append]; simpa [cellsL] using ho, fun e he => ?_⟩, hon2⟩
  have hok : e.Ok w (Fresh B w) := by
    rcases List.mem_append.1 he with he | he
    · exact h.ok e he
    · simp at he
      subst he
      exact hd
  exact hok.later (fun k hf => hon2.keep.block k hf.2.1 (hno k hf)) fun k hf => Fresh.keep hon2.keep hno k hf
/-- Numbers in a slice of the call's own, one more. -/
theorem more_num {Z : List Int} (z : Int) (h : w.ownsRow B 3 1 v Z.length (Z.map (.int .i64))) (hn : Z.length ≤ 100000000) (hB : B ≤ w.heap.size) :
    ∃ v' w', Sem.run Try.prog (Builtin.append_ #[23, 23] 23 #[v, .slice (some ⟨w.heap.size, 0, none⟩) 1 1]) (w.alloc (.cells #[.int .i64 z] 3)) = .ok v' w' ∧ w'.ownsRow B 3 1 v' (Z ++ [z]).length ((Z ++ [z]).map (.int .i64)) ∧ Onto v v' w w' := by
  have hb := Joins.below_alloc1 w (.cells #[.int .i64 z] 3)
  have hl : Lies (w.alloc (.cells #[.int .i64 z] 3)) (w.heap.size + 1) (some ⟨w.heap.size, 0, none⟩) [.int .i64 z] := lies_block (cs := #[.int .i64 z]) (heap_alloc_new w _) (Nat.lt_succ_self _)
  obtain ⟨v', w', hr, ho, hon⟩ := run_append_onto (P := Try.prog) (m := 1) (c := 1) 23 23 3 (.int .i64 0) 1 8 Try.underlying23 (by kernel_rfl) rfl (by decide)
    (fun u hu => by simp at hu; subst hu; rfl) (own_later h hb) hl rfl (by unfold maxLen; omega) (by omega) (Nat.le_trans hB hb.size)
  exact ⟨v', w', hr, by rw [List.length_append, List.map_append]; exact ho, Onto.pre hb hon⟩
end
end Go.Proofs.Ythhmjjmjicmhdaa.Ed
