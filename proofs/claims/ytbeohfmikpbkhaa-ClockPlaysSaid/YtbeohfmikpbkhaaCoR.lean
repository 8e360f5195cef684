/- A range over a method's value: the rounds come one after the other, each for the element that is next, and never break off. -/
import Derived.Test.YtbeohfmikpbkhaaCo9
import Derived.RangeFuncNested
import Derived.RangeFuncBound
import Derived.RangeFuncCalls
import Derived.RangeFuncLeaves
import Derived.Shelf.Abstract
import Derived.Shelf.RegionOpen
import Derived.WalkKit
import Derived.OwnWalkIn
import Derived.TacticsInMore
import Derived.LoopNIn
import Derived.LoopIn
namespace Go.Proofs.Ytbeohfmikpbkhaa.Ck
set_option linter.unusedVariables false
set_option linter.unusedSimpArgs false
open Go.RowKit Lift
/-- How a round ends here: it goes on. -/
def goesOn {α : Type} (B : Nat) (I : List α → World → Prop) (p : List α) (W : World) (e : Exit) (_ : Act) (W' : World) : Prop := e = .normal ∧ KeepsFrom B W W' ∧ I p W'
theorem range_bound {α : Type} {F : Fence} {n : Nat} {P : Program} {g : Operand} {ps : Array Tmp} {assign body : Code} {Q : Exit → Act → World → Prop} {a : Act} {w : World}
    (hro : F.round = none) (h1 : 1 ≤ n) {gf : Nat} {rcv : Array Value} (hg : a.eval g = .func (.func gf) rcv #[]) (hF : F.fn gf) (eg : ∀ args w, (callFunc gf args).run P w = .ok (.enter gf args) w)
    (enc : α → Value) (hps : ps.size = 1) (xs : List α) (I : List α → World → Prop) (hI : OwnFrom w.heap.size I)
    (hseq : ∀ (l : Nat) (J : List α → World → Prop) (W : World), (∀ p V, J p V → I p V) →
      (∀ p x V, J p V → p ++ [x] <+: xs → YieldAt F (n - 1 - 1) P l #[enc x] V fun e V' => e = .returned (.bool true) ∧ J (p ++ [x]) V') → J [] W →
      CallsIn F (n - 1) P gf (rcv ++ #[.func (.yield l) #[] #[]]) W fun e V' => (∃ v, e = .returned v) ∧ J xs V')
    (h0 : I [] w) (a₁ : α → Act)
    (hassign : ∀ (l : Nat) (x : α) (W : World) (K : Act → World → Prop), K (a₁ x) W →
      assign.wpIn (F.inRound l) (n - 1 - 1) P (Exit.then K (fun _ _ _ => False)) { tmps := (ps.zip #[enc x]).foldl (fun t (p, v) => t.setIfInBounds p v) a.tmps, defers := [] } W)
    (hbody : ∀ (l : Nat) (p : List α) (x : α) (W : World), I p W → p ++ [x] <+: xs → body.wpIn (F.inRound l) (n - 1 - 1) P (goesOn w.heap.size I (p ++ [x]) W) (a₁ x) W)
    (hdone : ∀ (D : Nat) (W : World), w.heap.size ≤ D → I xs W → W.heap[D]? = some (.deferred (some [])) → Q .normal { a with defers := { target := .collected D, args := #[] } :: a.defers } W) :
    (Code.rangeFunc g ps assign body).wpIn F n P Q a w := by
  refine wpIn_rangeFunc fun fn hfn => ?_
  rw [hro]
  -- the loop's record in its two states
  let R : LoopState → Loop := fun s => { state := s, pending := none, fn, tmps := a.tmps, params := ps, assign, body, defers := w.heap.size }
  let D := w.heap.size
  let l := w.heap.size + 1
  let V0 := (w.alloc (.deferred (some []))).alloc (.loop (R .ready))
  -- what is so between two rounds
  let J : List α → World → Prop := fun p V => I p V ∧ V.heap[l]? = some (.loop (R .ready)) ∧ V.heap[D]? = some (.deferred (some []))
  have hJ0 : J [] V0 := by
    refine ⟨hI.alloc _ (hI.alloc _ h0), ?_, ?_⟩
    · have := World.alloc_heap_new (w.alloc (.deferred (some []))) (.loop (R .ready))
      rw [World.size_alloc] at this
      exact this
    · exact (Below.heap_alloc _ _ _ (by simp [D])).trans (World.alloc_heap_new w _)
  have hround : ∀ p x V, J p V → p ++ [x] <+: xs → YieldAt F (n - 1 - 1) P l #[enc x] V fun e V' => e = .returned (.bool true) ∧ J (p ++ [x]) V' := by
    rintro p x V ⟨hi, hl, hd⟩ hx
    have hll : l < V.heap.size := (Array.getElem?_eq_some_iff.1 hl).1
    refine ⟨fn, _, assign, body, run_yield (r := R .ready) hl (by simp [R, hps]), roundIn_of_wpIn hfn (hassign _ x V _ ⟨_, run_beginRound hl rfl, ?_⟩)⟩
    have hl2 : (V.putObj l (.loop (R .busy))).heap[l]? = some (.loop (R .busy)) := World.putObj_heap_same hll
    have hd2 : (V.putObj l (.loop (R .busy))).heap[D]? = some (.deferred (some [])) := (World.putObj_heap_other (by simp [l, D])).trans hd
    have hi2 : I p (V.putObj l (.loop (R .busy))) := hI.putObj _ hi (by simp [l]) hl rfl
    refine wpIn_mono (hbody l p x _ hi2 hx) ?_
    rintro e a3 V3 ⟨rfl, hk, hi3⟩
    have hl3 := hk.same l _ (by simp [l]) hl2 rfl
    have hd3 := hk.same D _ (Nat.le_refl _) hd2 rfl
    refine ⟨_, _, run_endRound none hl3, rfl, hI.putObj _ hi3 (by simp [l]) hl3 rfl, World.putObj_heap_same (Array.getElem?_eq_some_iff.1 hl3).1, (World.putObj_heap_other (by simp [l, D])).trans hd3⟩
  refine ⟨l, [{ target := .collected D, args := #[] }], V0, { target := .fn (.func gf) #[], args := rcv ++ #[.func (.yield l) #[] #[]] }, V0, gf, rcv ++ #[.func (.yield l) #[] #[]], V0, run_enterLoop_outer _ _ _ _ _, ?_, ?_, ?_, fun _ => h1, ?_⟩
  · simp only [resolve, hg]
    simp [go_sem]
  · intro f' hf'
    simp [Target.leads] at hf'
    subst hf'
    exact hF
  · simp [invoke, go_sem, eg]
  · refine (hseq l J V0 (fun p V h => h.1) hround hJ0).mono ?_
    rintro e W2 ⟨⟨v, rfl⟩, hi, hl, hd⟩
    exact ⟨none, _, run_endLoop hl (by simp [R]), hdone D _ (Nat.le_refl _) (hI.putObj _ hi (by simp [l]) hl rfl) ((World.putObj_heap_other (by simp [l, D])).trans hd)⟩
end Go.Proofs.Ytbeohfmikpbkhaa.Ck
