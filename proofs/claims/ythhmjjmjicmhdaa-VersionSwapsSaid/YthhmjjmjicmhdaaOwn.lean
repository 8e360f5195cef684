/- Slices of the call's own: what becomes of them where other blocks are written; bytes, and one byte, appended onto them. -/
import Derived.Test.YthhmjjmjicmhdaaByt
import Derived.Test.YthhmjjmjicmhdaaSeg
import Derived.Test.YthhmjjmjicmhdaaIkm
namespace Go.Proofs.Ythhmjjmjicmhdaa.Lift
set_option linter.unusedVariables false
set_option linter.unusedSimpArgs false
open Go.RowKit Ik
section
variable {w w' : World} {base base' size size' n n' : Nat} {e e' : TypeId} {v v' : Value} {xs xs' : List Value} {S : Nat → Prop}
theorem own_kept (h : w.ownsRow base e size v n xs) (hk : Keep S w w') (hS : ∀ k, v.ownBlock = some k → ¬ S k) : w'.ownsRow base e size v n xs := by
  refine ⟨h.1, ?_⟩
  rcases h.2 with h0 | ⟨g, cap, cur, rfl, hB, hh, r⟩
  · exact .inl h0
  · exact .inr ⟨g, cap, cur, rfl, hB, (hk.block g (Array.getElem?_eq_some_iff.1 hh).1 (hS g rfl)).trans hh, r⟩
theorem own_lower (h : w.ownsRow base e size v n xs) (hb : base' ≤ base) : w.ownsRow base' e size v n xs := by
  refine ⟨h.1, ?_⟩
  rcases h.2 with h0 | ⟨g, cap, cur, hv, hB, r⟩
  · exact .inl h0
  · exact .inr ⟨g, cap, cur, hv, Nat.le_trans hb hB, r⟩
/-- Slices with elements of two types lie in two blocks. -/
theorem own_two (h : w.ownsRow base e size v n xs) (h' : w.ownsRow base' e' size' v' n' xs') (hT : e ≠ e') {k : Nat} (hk : v.ownBlock = some k) : ¬ v'.ownBlock = some k := by
  intro hk'
  rcases h.2 with ⟨rfl, _⟩ | ⟨g, cap, cur, rfl, _, hh, _⟩
  · simp [Value.ownBlock] at hk
  · rcases h'.2 with ⟨rfl, _⟩ | ⟨g', cap', cur', rfl, _, hh', _⟩
    · simp [Value.ownBlock] at hk'
    · simp [Value.ownBlock] at hk hk'
      subst hk; subst hk'
      rw [hh] at hh'
      injection hh' with hh'
      injection hh' with _ h2
      exact hT h2
theorem own_none (w : World) (base size : Nat) (e : TypeId) : w.ownsRow base e size (.slice none 0 0) 0 [] := World.ownsRow_nil _ _ _ _
end
theorem Onto.at_block {v v' : Value} {w w' : World} (h : Onto v v' w w') {k : Nat} (hk : k < w.heap.size) (hn : ¬ v.ownBlock = some k) : w'.heap[k]? = w.heap[k]? := h.keep.block k hk hn
theorem Onto.off {v v' : Value} {w w' : World} (h : Onto v v' w w') {k : Nat} (hk : k < w.heap.size) (hn : ¬ v.ownBlock = some k) : ¬ v'.ownBlock = some k := fun he => (h.place k he).elim hn (by omega)
/-- A slice outside of the block of v. -/
def Off (v : Value) (w : World) (A : Option Addr) (xs : List Value) : Prop := LiesP w (fun k => k < w.heap.size ∧ ¬ v.ownBlock = some k) A xs
section
variable {w w' : World} {v v' : Value} {A : Option Addr} {xs : List Value}
theorem Off.lies (h : Off v w A xs) : Lies w w.heap.size A xs := LiesP.lies h fun k hk => hk.1
theorem Off.onto (h : Off v w A xs) (ho : Onto v v' w w') : Off v' w' A xs :=
  LiesP.later h (fun k hk => ho.at_block hk.1 hk.2) fun k hk => ⟨Nat.lt_of_lt_of_le hk.1 ho.keep.size, ho.off hk.1 hk.2⟩
theorem Off.old {base n size : Nat} {e : TypeId} {xs' : List Value} (h : Lies w base A xs) (hb : base ≤ w.heap.size) (ho : w.ownsRow base e size v n xs') : Off v w A xs :=
  Lies.p h fun k hk => ⟨by omega, fun he => by have := (ho.lt k he).1; omega⟩
theorem Off.later (h : Off v w A xs) (hb : Below w.heap.size w w') : Off v w' A xs :=
  LiesP.later h (fun k hk => hb.block k hk.1) fun k hk => ⟨Nat.lt_of_lt_of_le hk.1 hb.size, hk.2⟩
theorem Off.front {ys : List Value} (h : Off v w A xs) (hp : ys <+: xs) : Off v w A ys := by
  rcases h with rfl | ⟨ad, ha, hb, hc⟩
  · exact .inl (List.prefix_nil.1 hp)
  · refine .inr ⟨ad, ha, hb, fun j u hj => hc j u ?_⟩
    obtain ⟨t, rfl⟩ := hp
    rw [List.getElem?_append_left (List.getElem?_eq_some_iff.1 hj).1]
    exact hj
end
/-- Bytes onto a slice of the call's own. -/
theorem append_bytes {w : World} {base B c : Nat} {v : Value} {A : Option Addr} {xs ts : List Nat} (hown : w.ownsRow base 5 1 v xs.length (xs.map vb)) (hl : Lies w B A (ts.map vb)) (hn : xs.length + ts.length ≤ 140737488355000) (hbase : base ≤ w.heap.size) :
    ∃ v' w', Sem.run Try.prog (Builtin.append_ #[29, 29] 29 #[v, .slice A ts.length c]) w = .ok v' w' ∧ w'.ownsRow base 5 1 v' (xs ++ ts).length ((xs ++ ts).map vb) ∧ Onto v v' w w' := by
  obtain ⟨v', w', h1, h2, h3⟩ := run_append_onto (P := Try.prog) (m := ts.length) (c := c) 29 29 5 (.int .u8 0) 1 1 Try.underlying29 (by kernel_rfl) rfl (by decide)
      (fun u hu => by simp at hu; obtain ⟨_, _, rfl⟩ := hu; rfl) hown hl (by simp) (by unfold maxLen; omega) (by omega) hbase
  exact ⟨v', w', h1, by rw [List.length_append, List.map_append]; exact h2, h3⟩
/-- One byte onto a slice of the call's own. -/
theorem append_byte {w : World} {base : Nat} {v : Value} {xs : List Nat} (x : Nat) (hown : w.ownsRow base 5 1 v xs.length (xs.map vb)) (hn : xs.length ≤ 140737488354000) (hbase : base ≤ w.heap.size) :
    ∃ v' w', Sem.run Try.prog (Builtin.append_ #[29, 29] 29 #[v, .slice (some ⟨w.heap.size, 0, none⟩) 1 1]) (w.alloc (.cells #[vb x] 5)) = .ok v' w' ∧ w'.ownsRow base 5 1 v' (xs ++ [x]).length ((xs ++ [x]).map vb) ∧ Onto v v' w w' := by
  have hb := Joins.below_alloc1 w (.cells #[vb x] 5)
  have hl : Lies (w.alloc (.cells #[vb x] 5)) (w.heap.size + 1) (some ⟨w.heap.size, 0, none⟩) ([x].map vb) :=
    lies_block (cs := #[vb x]) (heap_alloc_new w _) (Nat.lt_succ_self _)
  obtain ⟨v', w', h1, h2, h3⟩ := append_bytes (c := 1) (own_later hown hb) hl (by simp; omega) (Nat.le_trans hbase hb.size)
  exact ⟨v', w', h1, h2, Onto.pre hb h3⟩
/-- A slice of the call's own, with more bytes. -/
def Grew (base : Nat) (v : Value) (w : World) (bs : List Nat) (e : Ending) (w' : World) : Prop := ∃ v', e = .returned v' ∧ w'.ownsRow base 5 1 v' bs.length (bs.map vb) ∧ Onto v v' w w'
end Go.Proofs.Ythhmjjmjicmhdaa.Lift
