/- Making room, as one loop whose count of steps begins anew when a slot goes; the hand goes on in memory. -/
import Derived.Test.YtbeohfmikpbkhaaCo7
import Derived.Test.YtbeohfmikpbkhaaGoto
import Derived.BigQuiet
namespace Go.Proofs.Ytbeohfmikpbkhaa.Ck
set_option linter.unusedVariables false
set_option linter.unusedSimpArgs false
open Go.RowKit Go.Maps Lift Ik
/-- With k steps left of the two rounds. -/
def mk (room n k : Nat) (c : R) : R × Bool :=
  if used c.1 + n ≤ room then (c, true) else if (sweep k c).2 then make room n (c.1.length - 1) (sweep k c).1 else ((sweep k c).1, false)
theorem mk_start (room n : Nat) (c : R) : make room n c.1.length c = mk room n (2 * c.1.length) c := by
  unfold mk
  cases h : c.1.length with
  | zero =>
    show (c, decide (used c.1 + n ≤ room)) = _
    by_cases h1 : used c.1 + n ≤ room
    · rw [if_pos h1, decide_eq_true h1]
    · rw [if_neg h1, decide_eq_false h1]; rfl
  | succ m => 
    show (if used c.1 + n ≤ room then (c, true) else if (sweep (2 * c.1.length) c).2 then make room n m (sweep (2 * c.1.length) c).1 else ((sweep (2 * c.1.length) c).1, false)) = _
    rw [h]; rfl
theorem mk_fits {room n k : Nat} {c : R} (h : used c.1 + n ≤ room) : mk room n k c = (c, true) := by unfold mk; rw [if_pos h]
theorem mk_zero {room n : Nat} {c : R} (h : ¬ used c.1 + n ≤ room) : mk room n 0 c = (c, false) := by unfold mk; rw [if_neg h]; rfl
theorem modify_set {l : List S} {i : Nat} {x : S} (f : S → S) (h : l[i]? = some x) : l.modify i f = l.set i (f x) := by
  induction l generalizing i with
  | nil => simp at h
  | cons d l ih => cases i with
    | zero => have e : d = x := by simpa using h
              subst e; simp
    | succ i => simp [ih (by simpa using h)]
theorem mk_pinned {room n k : Nat} {c : R} {x : S} (h : ¬ used c.1 + n ≤ room) (hx : c.1[c.2]? = some x) (hp : 0 < x.pins) : mk room n (k + 1) c = mk room n k (c.1, next c) := by
  unfold mk
  rw [if_neg h, if_neg h]
  have e : sweep (k + 1) c = sweep k (c.1, next c) := by
    conv => lhs; unfold sweep
    simp only [hx, if_pos hp]
  rw [e]
def unmark (s : S) : S := { s with mark := false }
theorem mk_marked {room n k : Nat} {c : R} {x : S} (h : ¬ used c.1 + n ≤ room) (hx : c.1[c.2]? = some x) (hp : ¬ 0 < x.pins) (hm : x.mark = true) : mk room n (k + 1) c = mk room n k (c.1.modify c.2 unmark, next c) := by
  have hu : used (c.1.modify c.2 unmark) = used c.1 := used_modify (g := unmark) (fun _ => rfl) _ _
  unfold mk
  simp only
  rw [hu, if_neg h, if_neg h, List.length_modify]
  have e : sweep (k + 1) c = sweep k (c.1.modify c.2 unmark, next c) := by
    conv => lhs; unfold sweep
    simp only [hx, if_neg hp, hm, if_true]
    rw [modify_set unmark hx]
    rfl
  rw [e]
theorem mk_gone {room n k : Nat} {c : R} {x : S} (h : ¬ used c.1 + n ≤ room) (hx : c.1[c.2]? = some x) (hp : ¬ 0 < x.pins) (hm : x.mark = false) : mk room n (k + 1) c = mk room n (2 * (out c c.2).1.length) (out c c.2) := by
  have hl : c.2 < c.1.length := (List.getElem?_eq_some_iff.1 hx).1
  have hlen : (out c c.2).1.length = c.1.length - 1 := by show (c.1.eraseIdx c.2).length = _; rw [List.length_eraseIdx, if_pos hl]
  have e : sweep (k + 1) c = (out c c.2, true) := by
    conv => lhs; unfold sweep
    simp only [hx, if_neg hp, hm, Bool.false_eq_true, if_false]
  rw [← mk_start]
  unfold mk
  rw [if_neg h, e, hlen]
  rfl
/-- How many slots the map of a cache has. -/
def lenOf (w : World) (g : Nat) : Nat := match w.cell? ⟨g, 2, none⟩ with
  | some (.map (some b)) => match w.heap[b]? with
    | some (.map es _) => es.size
    | _ => 0
  | _ => 0
section
variable {w w' : World} {g room hand : Nat} {Z : Nat → Prop} {L : List E} {M : Option Nat} {pv nx : Nat → Nat}
theorem OLay.len (h : OLay w g Z room hand M L pv nx) : lenOf w g = L.length := by
  have h2 := h.box.cell 2
  simp only [List.getElem?_cons_succ, List.getElem?_cons_zero] at h2
  unfold lenOf
  rw [h2]
  rcases h.map with ⟨rfl, hL⟩ | ⟨b, D, rfl, _, ⟨es, clock, hb, F, _, hD⟩, ht⟩
  · rw [hL]; rfl
  · simp only [hb]
    rw [← ht.size, hD]
    simp [Maps.size, length_sorted]
theorem OC.len {r : R} (h : OC w g Z room r) : lenOf w g = r.1.length := by
  obtain ⟨M, L, pv, nx, h, e⟩ := h
  rw [h.len, ← e, List.length_map]
theorem OLay.setHand {x : E} (h : OLay w g Z room hand M L pv nx) (hx : L[hand]? = some x) :
    OLay (w.setCell ⟨g, 4, none⟩ (pt (nx x.blk))) g Z room ((hand + 1) % L.length) M L pv nx ∧ Keep Z w (w.setCell ⟨g, 4, none⟩ (pt (nx x.blk))) := by
  have hhl := (List.getElem?_eq_some_iff.1 hx).1
  have hk : Keep (· = g) w (w.setCell ⟨g, 4, none⟩ (pt (nx x.blk))) := (Keep.refl (· = g) w).setCell (p := ⟨g, 4, none⟩) (.inr rfl) _
  have hB : (L.map E.blk)[hand]? = some x.blk := by rw [List.getElem?_map, hx]; rfl
  have hn := h.ring.next hB
  have en : (hand + 1) % L.length = nxi (L.map E.blk).length hand := by
    rw [List.length_map]
    unfold nxi
    split
    · rename_i h1; rw [h1, Nat.mod_self]
    · exact Nat.mod_eq_of_lt (by omega)
  have hb := h.box.set 4 (pt (nx x.blk))
  have e4 : ptO (blkAt L (some ((hand + 1) % L.length))) = pt (nx x.blk) := by
    have : blkAt L (some ((hand + 1) % L.length)) = some (nx x.blk) := by
      show (L[(hand + 1) % L.length]?).map E.blk = _
      rw [← List.getElem?_map, en]; exact hn
    rw [this]; rfl
  refine ⟨⟨by rw [e4]; exact hb, h.mem.keep hk (away_box h.box) fun _ => id, h.map.keep hk (fun b hM e1 => ?_) fun _ => id, h.ring, ⟨?_, h.inv.room, h.inv.once⟩, h.sg, fun k hk1 => Nat.lt_of_lt_of_le (h.lt k hk1) hk.size, h.many, h.roomy⟩, hk.mono fun k hk => by rw [hk]; exact h.sg⟩
  · subst hM
    rcases h.map with ⟨h0, _⟩ | ⟨b', D, h0, _, hm, _⟩
    · cases h0
    · obtain rfl := Option.some.inj h0
      exact map_ne h.box hm e1.symm
  · refine .inl ?_
    show (hand + 1) % L.length < (L.map E.s).length
    rw [List.length_map]
    exact Nat.mod_lt _ (by omega)
end
end Go.Proofs.Ytbeohfmikpbkhaa.Ck
