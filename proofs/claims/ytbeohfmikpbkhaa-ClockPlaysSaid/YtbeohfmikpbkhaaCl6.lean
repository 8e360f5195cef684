/- The document's cache: a new row of slots takes the old one's place; the hand is set. -/
import Derived.Test.YtbeohfmikpbkhaaCl5
import Derived.Test.YtbeohfmikpbkhaaLast
namespace Go.Proofs.Ytbeohfmikpbkhaa.Ck
set_option linter.unusedVariables false
set_option linter.unusedSimpArgs false
open Go.RowKit Lift Ik
section
variable {w w' V : World} {g room hand c c4 n4 : Nat} {Z : Nat → Prop} {L L' : List D} {A A4 : Option Addr}
theorem RLay.renew (h : RLay w g Z room hand L A c) (hb : Below w.heap.size w V) (ho : V.ownsRow w.heap.size Ty.slot 5 (.slice A4 n4 c4) n4 (cellsL L')) (hn : n4 = L'.length) (hm : L'.length ≤ 1000)
    (hok : ∀ d, d ∈ L' → d.Ok V (fun k => (Z k ∧ k ≠ g) ∨ (w.heap.size ≤ k ∧ k < V.heap.size ∧ ∀ ad, A4 = some ad → k ≠ ad.block))) :
    RLay (V.setCell ⟨g, 1, none⟩ (.slice A4 n4 c4)) g (fun k => Z k ∨ (w.heap.size ≤ k ∧ k < V.heap.size)) room hand L' A4 c4 ∧ Keep Z w (V.setCell ⟨g, 1, none⟩ (.slice A4 n4 c4)) := by
  subst hn
  have hg := h.lt g h.sg
  have hK : Keep (· = g) V (V.setCell ⟨g, 1, none⟩ (.slice A4 L'.length c4)) := (Keep.refl (fun k => k = g) _).setCell (p := ⟨g, 1, none⟩) (.inr rfl) _
  have hsz : (V.setCell ⟨g, 1, none⟩ (.slice A4 L'.length c4)).heap.size = V.heap.size := by simp [World.setCell]
  have hoff : ∀ k, k ≠ g → (V.setCell ⟨g, 1, none⟩ (.slice A4 L'.length c4)).heap[k]? = V.heap[k]? := fun k hk => Below.heap_setCell _ _ _ _ (fun e => hk e)
  have hblk : ∀ ad, A4 = some ad → w.heap.size ≤ ad.block ∧ ad.block < V.heap.size := fun ad e => by
    rcases ho.2 with ⟨h0, _⟩ | ⟨g', cap, cur, hv, _⟩
    · injection h0 with h0
      rw [h0] at e; cases e
    · injection hv with hv
      rw [hv] at e
      injection e with e
      subst e
      exact ho.lt g' (by rw [hv]; rfl)
  refine ⟨⟨(h.box.below hb hg).set 1 _, ?_, fun d hd => ?_, .inl h.sg, fun ad e => .inr (hblk ad e), fun k hk => ?_, hm, h.roomy, h.at_⟩, ?_⟩
  · refine own_lower (own_kept ho hK fun k hk2 e => ?_) (Nat.zero_le _)
    subst e
    have := (ho.lt k hk2).1
    omega
  · refine (hok d hd).later (fun k hk => hoff k ?_) fun k hk => ?_
    · rcases hk with hk | hk
      · exact hk.2
      · omega
    · rcases hk with hk | hk
      · exact ⟨.inl hk.1, hk.2, fun ad e => by have := (hblk ad e).1; have := h.lt k hk.1; omega⟩
      · exact ⟨.inr ⟨hk.1, hk.2.1⟩, by omega, hk.2.2⟩
  · rw [hsz]
    rcases hk with hk | hk
    · have := h.lt k hk; have := hb.size; omega
    · exact hk.2
  · exact (below_keep (S := Z) hb).trans hK fun k _ e => by rw [e]; exact h.sg
theorem RLay.drawn (h : RLay w g Z room hand L A c) (n : Nat) : RLay (w.drewN n) g Z room hand L A c := h.same (fun k _ => rfl) (Nat.le_refl _)
theorem RLay.setHand (h : RLay w g Z room hand L A c) {m : Nat} (hm : m ≤ 1000) :
    RLay (w.setCell ⟨g, 2, none⟩ (.int .i64 (m : Int))) g Z room m L A c ∧ Keep Z w (w.setCell ⟨g, 2, none⟩ (.int .i64 (m : Int))) := by
  have hg := h.lt g h.sg
  have hK : Keep (· = g) w (w.setCell ⟨g, 2, none⟩ (.int .i64 (m : Int))) := (Keep.refl (fun k => k = g) _).setCell (p := ⟨g, 2, none⟩) (.inr rfl) _
  have hsz : (w.setCell ⟨g, 2, none⟩ (.int .i64 (m : Int))).heap.size = w.heap.size := by simp [World.setCell]
  have hoff : ∀ k, k ≠ g → (w.setCell ⟨g, 2, none⟩ (.int .i64 (m : Int))).heap[k]? = w.heap[k]? := fun k hk => Below.heap_setCell _ _ _ _ (fun e => hk e)
  refine ⟨⟨h.box.set 2 _, ?_, fun d hd => (h.ok d hd).later (fun k hk => hoff k hk.2.1) fun _ h => h, h.sg, h.sa, fun k hk => by rw [hsz]; exact h.lt k hk, h.many, h.roomy, hm⟩, hK.mono fun k e => by rw [e]; exact h.sg⟩
  exact own_kept h.own hK fun k hk2 e => own_apart h.own h.box (by decide) (by rw [← e]; exact hk2)
theorem drop_at5 (A : Option Addr) (n c p : Nat) (h : p ≤ n) (hc : n ≤ c) (hm : c ≤ 9223372036854775807) :
    ∃ A' : Option Addr, (0 < n - p → A' = A.map (·.add (p * 5))) ∧ ∀ W : World, Sem.run Try.prog (Instr.slice 48 (.slice A n c) (some (.int .i64 (p : Int))) none none) W = .ok (.slice A' (n - p) (c - p)) W := by
  by_cases hcp : c = p
  · refine ⟨A, fun h0 => by omega, fun W => ?_⟩
    obtain rfl : n = p := by omega
    subst hcp
    go_simp
  · refine ⟨A.map (·.add (p * 5)), fun _ => rfl, fun W => ?_⟩
    go_simp
theorem upto_at5 (A : Option Addr) (n c k : Nat) (h : k ≤ c) (hc : n ≤ c) (hm : c ≤ 9223372036854775807) (W : World) : Sem.run Try.prog (Instr.slice 48 (.slice A n c) none (some (.int .i64 (k : Int))) none) W = .ok (.slice A k c) W := by
  go_simp
/-- The last part of a row lies behind the first. -/
theorem lies_rest {w : World} {B : Nat} {A A' : Option Addr} {xs ys : List Value} {o : Nat} (h : Lies w B A (xs ++ ys)) (hx : xs.length = o) (hA : 0 < ys.length → A' = A.map (·.add o)) : Lies w B A' ys := by
  by_cases h0 : ys.length = 0
  · exact .inl (List.eq_nil_of_length_eq_zero h0)
  · obtain ⟨ad, rfl, hb, hc⟩ := h.place (by rw [List.length_append]; omega)
    refine .inr ⟨ad.add o, hA (by omega), by rw [add_block]; exact hb, fun j u hj => ?_⟩
    rw [Lift.add_add]
    refine hc _ _ ?_
    rw [List.getElem?_append_right (by omega), hx, Nat.add_sub_cancel_left]
    exact hj
/-- append(append(nil, l[:i]...), l[i+1:]...) in memory. -/
theorem cut_rows {i : Nat} {A2 : Option Addr} {c2 : Nat} (hi : i < L.length) (hm : L.length ≤ 1000) (hl : Lies w w.heap.size A (cellsL L)) (hA : 0 < L.length - (i + 1) → A2 = A.map (·.add ((i + 1) * 5))) (hb : Below w.heap.size w V) :
    ∃ A1 c1 V1 A4 c4 V4, Sem.run Try.prog (Builtin.append_ #[48, 48] 48 #[.slice none 0 0, .slice A i c]) V = .ok (.slice A1 i c1) V1 ∧
      Sem.run Try.prog (Builtin.append_ #[48, 48] 48 #[.slice A1 i c1, .slice A2 (L.length - (i + 1)) c2]) V1 = .ok (.slice A4 (L.length - 1) c4) V4 ∧
      V4.ownsRow w.heap.size Ty.slot 5 (.slice A4 (L.length - 1) c4) (L.length - 1) (cellsL (L.eraseIdx i)) ∧ Below w.heap.size w V1 ∧ Below w.heap.size w V4 := by
  have e1 : cellsL (L.take i) ++ cellsL (L.drop i) = cellsL L := by rw [← cellsL_append, List.take_append_drop]
  have e2 : cellsL (L.take (i + 1)) ++ cellsL (L.drop (i + 1)) = cellsL L := by rw [← cellsL_append, List.take_append_drop]
  have hlV := hl.below hb
  obtain ⟨v1, V1, hr1, ho1, hb1, _⟩ := run_append_lies (P := Try.prog) (w := V) (base := V.heap.size) (m := i) (c := c) 48 48 Ty.slot (.agg #[.int .i64 0, .int .i64 0, .slice none 0 0, .int .i64 0, .bool false]) 5 56 Try.underlying48 (by kernel_rfl) rfl (by decide) cellsL_one
    (World.ownsRow_nil _ _ _ _) (hlV.front (ys := cellsL (L.take i)) (by rw [← e1]; exact List.prefix_append _ _)) (by rw [cellsL_length, List.length_take, Nat.min_eq_left (by omega)]) (by unfold maxLen; omega) (by omega) (Nat.le_refl _)
  rw [Nat.zero_add, List.nil_append] at ho1
  obtain ⟨A1, c1, rfl, -, -, -⟩ := own_parts ho1
  have hb01 : Below w.heap.size w V1 := hb.trans (hb1.mono hb.size)
  have hl2 : Lies w w.heap.size A2 (cellsL (L.drop (i + 1))) := lies_rest (xs := cellsL (L.take (i + 1))) (by rw [e2]; exact hl) (by rw [cellsL_length, List.length_take, Nat.min_eq_left (by omega)]) (fun h0 => hA (by rw [cellsL_length, List.length_drop] at h0; omega))
  obtain ⟨v4, V4, hr4, ho4, hb4, _⟩ := run_append_lies (P := Try.prog) (w := V1) (base := w.heap.size) (m := L.length - (i + 1)) (c := c2) 48 48 Ty.slot (.agg #[.int .i64 0, .int .i64 0, .slice none 0 0, .int .i64 0, .bool false]) 5 56 Try.underlying48 (by kernel_rfl) rfl (by decide) cellsL_one
    (own_lower ho1 hb.size) (hl2.below hb01) (by rw [cellsL_length, List.length_drop]) (by unfold maxLen; omega) (by omega) hb01.size
  rw [show i + (L.length - (i + 1)) = L.length - 1 by omega, ← cellsL_append, ← List.eraseIdx_eq_take_drop_succ] at ho4
  obtain ⟨A4, c4, rfl, -, -, -⟩ := own_parts ho4
  exact ⟨A1, c1, V1, A4, c4, V4, hr1, hr4, ho4, hb01, hb01.trans hb4⟩
end
end Go.Proofs.Ytbeohfmikpbkhaa.Ck
