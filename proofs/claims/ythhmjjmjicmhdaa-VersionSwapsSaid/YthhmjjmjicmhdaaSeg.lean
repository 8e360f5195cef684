/- What old memory keeps where a call writes a few old blocks (Keep); slices in blocks of some kind (LiesP); a struct in a box, handed back. -/
import Derived.Test.YthhmjjmjicmhdaaLift
import Derived.Lib.SmallJoins
import Derived.Laws.ResultCell
import Derived.Handy
import Derived.WalkLawsBesides
import Derived.WalkSpells
import Derived.Outline
namespace Go.Proofs.Ythhmjjmjicmhdaa.Lift
set_option linter.unusedVariables false
open Go.RowKit

/-- All that was there is as it was, but for the blocks S. -/
structure Keep (S : Nat → Prop) (w w' : World) : Prop where
  os : w'.os = w.os
  tape : w'.tape = w.tape
  output : w'.output = w.output
  size : w.heap.size ≤ w'.heap.size
  block : ∀ k, k < w.heap.size → ¬ S k → w'.heap[k]? = w.heap[k]?
section
variable {S T : Nat → Prop} {a b c w w' : World}
theorem Keep.refl (S : Nat → Prop) (w : World) : Keep S w w := ⟨rfl, rfl, rfl, Nat.le_refl _, fun _ _ _ => rfl⟩
theorem Keep.trans (h : Keep S a b) (k : Keep T b c) (hT : ∀ i, i < a.heap.size → T i → S i) : Keep S a c :=
  ⟨k.os.trans h.os, k.tape.trans h.tape, k.output.trans h.output, Nat.le_trans h.size k.size, fun i hi hS => (k.block i (Nat.lt_of_lt_of_le hi h.size) fun hs => hS (hT i hi hs)).trans (h.block i hi hS)⟩
theorem Keep.mono (h : Keep S a b) (hT : ∀ i, S i → T i) : Keep T a b := ⟨h.os, h.tape, h.output, h.size, fun k hk hn => h.block k hk fun hs => hn (hT k hs)⟩
theorem Keep.of_below {B : Nat} (h : Below B w w') (hS : ∀ k, k < w.heap.size → B ≤ k → S k) : Keep S w w' :=
  ⟨h.os, h.tape, h.output, h.size, fun k hk hn => h.block k (Nat.lt_of_not_le fun hb => hn (hS k hk hb))⟩
theorem below_keep (h : Below w.heap.size w w') : Keep S w w' := ⟨h.os, h.tape, h.output, h.size, fun k hk _ => h.block k hk⟩
theorem Keep.below {B : Nat} (h : Keep S w w') (hB : B ≤ w.heap.size) (hS : ∀ k, S k → B ≤ k) : Below B w w' :=
  ⟨h.os, h.tape, h.output, h.size, fun k hk => h.block k (Nat.lt_of_lt_of_le hk hB) fun hs => absurd (hS k hs) (Nat.not_le_of_lt hk)⟩
theorem Keep.alloc (h : Keep S a w) (o : Obj) : Keep S a (w.alloc o) :=
  h.trans (T := fun _ => False) (below_keep (Joins.below_alloc1 w o)) (fun _ _ h => h.elim)
theorem Keep.setCell (h : Keep S a w) {p : Addr} (hp : a.heap.size ≤ p.block ∨ S p.block) (u : Value) : Keep S a (w.setCell p u) :=
  h.trans (T := fun k => k = p.block) ⟨rfl, rfl, rfl, by simp [World.setCell], fun k _ hn => Below.heap_setCell _ _ _ _ hn⟩ (fun i hi he => by
    subst he
    rcases hp with h1 | h1
    · exact absurd hi (Nat.not_lt_of_le h1)
    · exact h1)
theorem Keep.drew (h : Keep S a w) : Keep S a w.drew := ⟨h.os, h.tape, h.output, h.size, h.block⟩
theorem Keep.grown {row : Option Nat} (h : Keep S a w) (hg : w.grownBy w' row) (hr : ∀ k, row = some k → k < a.heap.size → S k) : Keep S a w' :=
  h.trans (T := fun k => row = some k) ⟨hg.os, hg.tape, hg.output, hg.size, fun k hk hn => hg.block k hk fun e => hn e.symm⟩ (fun i hi he => hr i he hi)
end

/-- The slice with address A holds the cells xs, in a block of the kind R. -/
def LiesP (w : World) (R : Nat → Prop) (A : Option Addr) (xs : List Value) : Prop :=
  xs = [] ∨ ∃ ad, A = some ad ∧ R ad.block ∧ ∀ j u, xs[j]? = some u → w.cell? (ad.add j) = some u
section
variable {R R' : Nat → Prop} {w w' : World} {B : Nat} {A : Option Addr} {xs : List Value}
theorem add_block (a : Addr) (j : Nat) : (a.add j).block = a.block := by unfold Addr.add; split <;> rfl
theorem LiesP.later (h : LiesP w R A xs) (hk : ∀ k, R k → w'.heap[k]? = w.heap[k]?) (hR : ∀ k, R k → R' k) : LiesP w' R' A xs := by
  rcases h with h | ⟨ad, ha, hb, hc⟩
  · exact .inl h
  · exact .inr ⟨ad, ha, hR _ hb, fun j u hu => (World.cell?_of_block (w := w) (by rw [add_block]; exact hk _ hb)).trans (hc j u hu)⟩
theorem LiesP.lies (h : LiesP w R A xs) (hR : ∀ k, R k → k < B) : Lies w B A xs := by
  rcases h with h | ⟨ad, ha, hb, hc⟩
  · exact .inl h
  · exact .inr ⟨ad, ha, hR _ hb, hc⟩
theorem Lies.p (h : Lies w B A xs) (hR : ∀ k, k < B → R k) : LiesP w R A xs := by
  rcases h with h | ⟨ad, ha, hb, hc⟩
  · exact .inl h
  · exact .inr ⟨ad, ha, hR _ hb, hc⟩
theorem LiesP.of_own {base n c size : Nat} {e : TypeId} (h : w.ownsRow base e size (.slice A n c) n xs) : LiesP w (fun k => base ≤ k ∧ k < w.heap.size ∧ ∃ cs fr, w.heap[k]? = some (.cells cs e fr)) A xs := by
  rcases h.2 with ⟨_, h0⟩ | ⟨g, cap, cur, hv, hg, hh, _⟩
  · left
    have := h.1
    rw [h0] at this
    exact List.eq_nil_of_length_eq_zero (by simpa using this)
  · right
    injection hv with hA
    subst hA
    exact ⟨_, rfl, ⟨hg, (Array.getElem?_eq_some_iff.1 hh).1, _, _, hh⟩, h.cells (g := g) rfl⟩
end

theorem own_later {w w' : World} {base size n : Nat} {e : TypeId} {v : Value} {xs : List Value} (h : w.ownsRow base e size v n xs) (hb : Below w.heap.size w w') : w'.ownsRow base e size v n xs := by
  refine ⟨h.1, ?_⟩
  rcases h.2 with h0 | ⟨g, cap, cur, hv, hB, hh, r⟩
  · exact .inl h0
  · exact .inr ⟨g, cap, cur, hv, hB, (hb.block g (Array.getElem?_eq_some_iff.1 hh).1).trans hh, r⟩
/-- v' came out of v, a slice of the call's own, by appends: of what was there the block of v alone may have changed, and v' lies there or in new memory. -/
structure Onto (v v' : Value) (w w' : World) : Prop where
  keep : Keep (fun k => v.ownBlock = some k) w w'
  place : ∀ k, v'.ownBlock = some k → v.ownBlock = some k ∨ w.heap.size ≤ k
section
variable {v v' v'' : Value} {w w' w'' : World} {base n size : Nat} {e : TypeId} {xs : List Value}
theorem Onto.refl (v : Value) (w : World) : Onto v v w w := ⟨Keep.refl _ _, fun k h => .inl h⟩
theorem Onto.trans (h : Onto v v' w w') (k : Onto v' v'' w' w'') : Onto v v'' w w'' :=
  ⟨h.keep.trans k.keep fun i hi he => (h.place i he).elim id fun h1 => absurd hi (Nat.not_lt_of_le h1), fun i hi => (k.place i hi).elim (fun h1 => h.place i h1) fun h1 => .inr (Nat.le_trans h.keep.size h1)⟩
theorem Onto.pre (h : Below w.heap.size w w') (k : Onto v v' w' w'') : Onto v v' w w'' :=
  ⟨(below_keep h).trans k.keep (fun _ _ he => he), fun i hi => (k.place i hi).imp id fun h1 => Nat.le_trans h.size h1⟩
theorem Onto.post (h : Onto v v' w w') (k : Below w'.heap.size w' w'') : Onto v v' w w'' :=
  ⟨h.keep.trans (T := fun _ => False) (below_keep k) fun _ _ he => he.elim, h.place⟩
theorem Onto.below (h : Onto v v' w w') (hown : w.ownsRow base e size v n xs) (hb : base ≤ w.heap.size) : Below base w w' := h.keep.below hb fun k hk => (hown.lt k hk).1
end
theorem own_apart {w : World} {base n size g : Nat} {e T : TypeId} {v : Value} {xs us : List Value} (h : w.ownsRow base e size v n xs) (hb : w.heap[g]? = some (.cells us.toArray T (0, 0))) (hT : T ≠ e) : ¬ v.ownBlock = some g := by
  intro hg
  rcases h.2 with ⟨rfl, _⟩ | ⟨g', cap, cur, rfl, _, hh, _⟩
  · simp [Value.ownBlock] at hg
  · simp [Value.ownBlock] at hg
    subst hg
    rw [hh] at hb
    injection hb with hb
    injection hb with _ h2
    exact hT h2.symm
theorem append_place {P : Program} {w w' : World} {base n m c : Nat} {v v' : Value} {xs cs : List Value} {ad : Addr} {i : TypeInfo} {z : Value} (t ty e : TypeId) (ht : P.underlying t = some (.slice e)) (hi : P.info? e = some i) (hz : i.zero = some z)
    (hzs : z.cells.size = i.size) (hsz : 0 < i.size) (h1 : ∀ u, u ∈ cs → u.oneCell' = true) (hown : w.ownsRow base e i.size v n xs) (hl : cs.length = m * i.size) (hc : ∀ j u, cs[j]? = some u → w.cell? (ad.add j) = some u)
    (h63 : n + m ≤ maxLen) (hbytes : (n + m) * i.bytes ≤ 140737488355328) (hrun : Sem.run P (Builtin.append_ #[t, t] ty #[v, .slice (some ad) m c]) w = .ok v' w') : ∀ k, v'.ownBlock = some k → v.ownBlock = some k ∨ w.heap.size ≤ k := by
  intro k hk
  rcases hown.2 with ⟨rfl, rfl⟩ | ⟨g, cap, cur, rfl, hbg, hg, hnc, hcm, hcs, htake⟩
  · have hx : xs = [] := List.eq_nil_of_length_eq_zero (by simpa using hown.1)
    subst hx
    obtain ⟨v2, w2, hr, ho, _⟩ := run_append_own (P := P) w w.heap.size t ty e i z i.size i.bytes ht hi hz rfl rfl hzs hsz (.slice none 0 0) 0 [] (World.ownsRow_nil _ _ _ _) ad m c cs hl hc h1 h63 hbytes (Nat.le_refl _)
    rw [hrun] at hr
    injection hr with e1 e2
    subst e1; subst e2
    exact .inr (ho.lt k hk).1
  · by_cases hroom : n + m ≤ cap
    · have hr := run_append_room (P := P) w t ty e i ht hi g n cap cur hg ad m c cs hl hc h1 hroom (by rw [hl, hcs, ← Nat.add_mul]; exact Nat.mul_le_mul_right _ hroom)
      rw [hrun] at hr
      injection hr with e1 e2
      subst e1
      exact .inl hk
    · have hr := run_append_grow (P := P) w t ty e i z ht hi hz ⟨g, 0, none⟩ n cap xs hown.1 (hown.cells (g := g) rfl) ad m c cs hl hc (by omega) (by unfold maxLen at h63; omega) (growslice_fits (by omega) hbytes)
      rw [hrun] at hr
      injection hr with e1 e2
      subst e1
      simp [Value.ownBlock] at hk
      exact .inr (by omega)
/-- append(out, xs...): the cells of a slice, whatever it is, onto a slice of the call's own; where the outcome lies. -/
theorem run_append_onto {P : Program} {w : World} {base B n m c : Nat} {v : Value} {xs cs : List Value} {A : Option Addr} (t ty e : TypeId) (z : Value) (size bytes : Nat) (ht : P.underlying t = some (.slice e))
    (hinfo : (P.info? e).map (fun i => (i.zero, i.size, i.bytes)) = some (some z, size, bytes)) (hz : z.cells.size = size) (hsz : 0 < size) (hu : ∀ u, u ∈ cs → u.oneCell' = true)
    (hown : w.ownsRow base e size v n xs) (hl : Lies w B A cs) (hm : cs.length = m * size) (h63 : n + m ≤ maxLen) (hbytes : (n + m) * bytes ≤ 140737488355328) (hbase : base ≤ w.heap.size) :
    ∃ v' w', Sem.run P (Builtin.append_ #[t, t] ty #[v, .slice A m c]) w = .ok v' w' ∧ w'.ownsRow base e size v' (n + m) (xs ++ cs) ∧ Onto v v' w w' := by
  obtain ⟨i, hi, hz0, hs, hb⟩ := info_parts hinfo
  have some_ : ∀ ad : Addr, (∀ j u, cs[j]? = some u → w.cell? (ad.add j) = some u) →
      ∃ v' w', Sem.run P (Builtin.append_ #[t, t] ty #[v, .slice (some ad) m c]) w = .ok v' w' ∧ w'.ownsRow base e size v' (n + m) (xs ++ cs) ∧ Onto v v' w w' := by
    intro ad hc
    obtain ⟨v', w', hrun, h1, h2, _⟩ := run_append_own (P := P) w base t ty e i z size bytes ht hi hz0 hs hb hz hsz v n xs hown ad m c cs hm hc hu h63 hbytes hbase
    subst hs hb
    exact ⟨v', w', hrun, h1, (Keep.refl _ _).grown h2 fun k hk _ => hk, append_place t ty e ht hi hz0 hz hsz hu hown hm hc h63 hbytes hrun⟩
  rcases hl with rfl | ⟨ad, rfl, _, hc⟩
  · have hm0 : m = 0 := by
      simp only [List.length_nil] at hm
      rcases Nat.eq_zero_or_pos m with h | h
      · exact h
      · have := Nat.mul_pos h hsz; omega
    subst hm0
    rcases A with _ | ad
    · refine ⟨v, w, ?_, by simpa using hown, Onto.refl _ _⟩
      rcases hown.2 with ⟨rfl, rfl⟩ | ⟨g, cap, cur, rfl, _, _, hnc, _⟩
      · simp [Builtin.append_, run_underlying ht, sizeOf, typeInfo, hi, Builtin.lenOf, Builtin.firstCells]
      · simp [Builtin.append_, run_underlying ht, sizeOf, typeInfo, hi, Builtin.lenOf, Builtin.firstCells, hnc, storeCells]
    · exact some_ ad (by simp)
  · exact some_ ad hc
theorem lies_block {w : World} {g B : Nat} {cs : Array Value} {T : TypeId} {fr : Nat × Nat} (h : w.heap[g]? = some (.cells cs T fr)) (hB : g < B) : Lies w B (some ⟨g, 0, none⟩) cs.toList :=
  .inr ⟨_, rfl, hB, fun j u hj => by
    have e : (⟨g, 0, none⟩ : Addr).add j = ⟨g, j, none⟩ := by unfold Addr.add; split <;> simp_all
    rw [e, cell_of_row w g j cs T fr h]
    simpa using hj⟩
theorem heap_alloc3 (w : World) (o1 o2 o3 : Obj) : (((w.alloc o1).alloc o2).alloc o3).heap[w.heap.size]? = some o1 ∧ (((w.alloc o1).alloc o2).alloc o3).heap[w.heap.size + 1]? = some o2 ∧ (((w.alloc o1).alloc o2).alloc o3).heap[w.heap.size + 1 + 1]? = some o3 ∧
    (((w.alloc o1).alloc o2).alloc o3).heap.size = w.heap.size + 3 := by
  have s1 : (w.alloc o1).heap.size = w.heap.size + 1 := by simp
  have s2 : ((w.alloc o1).alloc o2).heap.size = w.heap.size + 1 + 1 := by simp
  refine ⟨?_, ?_, ?_, by simp⟩
  · rw [Below.heap_alloc _ _ _ (by omega), Below.heap_alloc _ _ _ (by omega)]
    exact heap_alloc_new w o1
  · rw [Below.heap_alloc _ _ _ (by omega), ← s1]
    exact heap_alloc_new _ o2
  · rw [← s2]
    exact heap_alloc_new _ o3
theorem cell_eq {w w' : World} {p : Addr} {v : Value} (hk : w'.heap[p.block]? = w.heap[p.block]?) (h : w.cell? p = some v) : w'.cell? p = some v := (World.cell?_of_block (w := w) hk).trans h

/-- A block of one-cell fields, whole. -/
def Box (w : World) (g : Nat) (T : TypeId) (us : List Value) : Prop := w.heap[g]? = some (.cells us.toArray T (0, 0))
section
variable {w w' : World} {g : Nat} {T : TypeId} {us : List Value}
theorem Box.cell (h : Box w g T us) (i : Nat) : w.cell? ⟨g, i, none⟩ = us[i]? := (cell_of_row w g i _ _ _ h).trans (by simp)
theorem Box.free (h : Box w g T us) (i : Nat) : w.frozen? ⟨g, i, none⟩ = false := frozen_of_row w g i _ _ h
theorem Box.lt (h : Box w g T us) : g < w.heap.size := (Array.getElem?_eq_some_iff.1 h).1
theorem Box.new (w : World) (T : TypeId) (us : List Value) : Box (w.alloc (.cells us.toArray T)) w.heap.size T us := heap_alloc_new w _
theorem Box.at_block (h : Box w g T us) (hk : w'.heap[g]? = w.heap[g]?) : Box w' g T us := hk.trans h
theorem Box.below {B : Nat} (h : Box w g T us) (hb : Below B w w') (hg : g < B) : Box w' g T us := (hb.block g hg).trans h
theorem Box.keep {S : Nat → Prop} (h : Box w g T us) (hb : Keep S w w') (hg : ¬ S g) : Box w' g T us := (hb.block g h.lt hg).trans h
theorem Box.alloc (h : Box w g T us) (o : Obj) : Box (w.alloc o) g T us := (Below.heap_alloc w o g h.lt).trans h
theorem Box.set (h : Box w g T us) (i : Nat) (v : Value) : Box (w.setCell ⟨g, i, none⟩ v) g T (us.set i v) := by
  have := heap_setCell_same w g i _ _ v h
  unfold Box
  rw [this]
  simp
theorem Box.setOther (h : Box w g T us) {p : Addr} (hp : g ≠ p.block) (v : Value) : Box (w.setCell p v) g T us := (heap_setCell_other w p g v hp).trans h
theorem Box.facts2 {u0 u1 : Value} (h : Box w g T [u0, u1]) : w.cell? ⟨g, 0, none⟩ = some u0 ∧ w.cell? ⟨g, 1, none⟩ = some u1 ∧ w.frozen? ⟨g, 0, none⟩ = false ∧ w.frozen? ⟨g, 1, none⟩ = false :=
  ⟨h.cell 0, h.cell 1, h.free 0, h.free 1⟩
theorem Box.facts3 {u0 u1 u2 : Value} (h : Box w g T [u0, u1, u2]) : w.cell? ⟨g, 0, none⟩ = some u0 ∧ w.cell? ⟨g, 1, none⟩ = some u1 ∧ w.cell? ⟨g, 2, none⟩ = some u2 ∧
    w.frozen? ⟨g, 0, none⟩ = false ∧ w.frozen? ⟨g, 1, none⟩ = false ∧ w.frozen? ⟨g, 2, none⟩ = false :=
  ⟨h.cell 0, h.cell 1, h.cell 2, h.free 0, h.free 1, h.free 2⟩
/-- A struct in a box and a number, handed back. -/
theorem results_box {P : Program} {fn : Func} {p u : Tmp} {fs : Array Field} (h : fn.results = #[.cell p T, .tmp u]) (hu : P.underlying T = some (.struct fs))
    (hi : (P.info? T).map (·.size) = some us.toArray.size) (tmps : Array Value) (hp : tmps.getD p undef = .pointer (some ⟨g, 0, none⟩)) (hb : Box w g T us) :
    (results fn tmps).run P w = .ok (.tuple #[.agg us.toArray, tmps.getD u undef]) w := by
  rw [results_cell_tmp h, hp]
  have hl := run_loadVar_row (P := P) w g T T us.toArray (0, 0) (.struct fs) hb hu rfl hi
  simp only [asAddr, Sem.run_pure, Result.andThen, hl]
end
end Go.Proofs.Ythhmjjmjicmhdaa.Lift
