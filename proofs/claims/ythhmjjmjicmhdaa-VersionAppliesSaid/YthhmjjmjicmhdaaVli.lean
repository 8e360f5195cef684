/- The document's own Live: what its loops keep. -/
import Derived.Test.YthhmjjmjicmhdaaVmm
import Derived.Test.YthhmjjmjicmhdaaVrv
import Derived.Test.YthhmjjmjicmhdaaLast
namespace Go.Proofs.Ythhmjjmjicmhdaa.Ve
set_option linter.unusedVariables false
set_option linter.unusedSimpArgs false
open Go.RowKit Lift Ik Ed
theorem drop_at1 (A : Option Addr) (n c p : Nat) (h : p ≤ n) (hc : n ≤ c) (hm : c ≤ 9223372036854775807) :
    ∃ A' : Option Addr, (0 < n - p → A' = A.map (·.add (p * 1))) ∧ ∀ W : World, Sem.run Try.prog (Instr.slice 23 (.slice A n c) (some (.int .i64 (p : Int))) none none) W = .ok (.slice A' (n - p) (c - p)) W := by
  by_cases hcp : c = p
  · refine ⟨A, fun h0 => by omega, fun W => ?_⟩
    obtain rfl : n = p := by omega
    subst hcp
    go_simp
  · refine ⟨A.map (·.add (p * 1)), fun _ => rfl, fun W => ?_⟩
    go_simp
theorem upto_at1 (A : Option Addr) (n c k : Nat) (h : k ≤ c) (hc : n ≤ c) (hm : c ≤ 9223372036854775807) (W : World) : Sem.run Try.prog (Instr.slice 23 (.slice A n c) none (some (.int .i64 (k : Int))) none) W = .ok (.slice A k c) W := by
  go_simp
theorem add_block (a : Addr) (n : Nat) : (a.add n).block = a.block := by unfold Addr.add; split <;> rfl
/-- The last part of a row lies behind the first. -/
theorem lies_rest {w : World} {B : Nat} {A A' : Option Addr} {xs ys : List Value} {o : Nat} (h : Lies w B A (xs ++ ys)) (hx : xs.length = o) (hA : 0 < ys.length → A' = A.map (·.add o)) : Lies w B A' ys := by
  by_cases h0 : ys.length = 0
  · exact .inl (List.eq_nil_of_length_eq_zero h0)
  · obtain ⟨ad, rfl, hb, hc⟩ := h.place (by rw [List.length_append]; omega)
    refine .inr ⟨ad.add o, hA (by omega), by rw [add_block]; exact hb, fun j u hj => ?_⟩
    rw [Lift.add_add]
    refine hc _ _ ?_
    rw [List.getElem?_append_right (by omega), hx, Nat.add_sub_cancel_left]
    exact hj
theorem ints_one {L : List Int} : ∀ u, u ∈ L.map vi → u.oneCell' = true := fun u hu => by
  obtain ⟨z, _, rfl⟩ := List.mem_map.1 hu
  rfl
/-- append(append([]int(nil), l[:k]...), l[k+1:]...) in memory. -/
theorem cut_ints {V : World} {k : Nat} {A A2 : Option Addr} {c c2 : Nat} {L : List Int} (hk : k < L.length) (hm : L.length ≤ 2000) (hl : Lies V V.heap.size A (L.map vi)) (hA : 0 < L.length - (k + 1) → A2 = A.map (·.add ((k + 1) * 1))) :
    ∃ A1 c1 V1 A4 c4 V4, Sem.run Try.prog (Builtin.append_ #[23, 23] 23 #[.slice none 0 0, .slice A k c]) V = .ok (.slice A1 k c1) V1 ∧
      Sem.run Try.prog (Builtin.append_ #[23, 23] 23 #[.slice A1 k c1, .slice A2 (L.length - (k + 1)) c2]) V1 = .ok (.slice A4 (L.length - 1) c4) V4 ∧
      V4.ownsRow V.heap.size 3 1 (.slice A4 (L.length - 1) c4) (L.length - 1) ((L.take k ++ L.drop (k + 1)).map vi) ∧ Below V.heap.size V V1 ∧ Below V.heap.size V V4 := by
  have e1 : (L.take k).map vi ++ (L.drop k).map vi = L.map vi := by rw [← List.map_append, List.take_append_drop]
  have e2 : (L.take (k + 1)).map vi ++ (L.drop (k + 1)).map vi = L.map vi := by rw [← List.map_append, List.take_append_drop]
  obtain ⟨v1, V1, hr1, ho1, hb1, _⟩ := run_append_lies (P := Try.prog) (w := V) (base := V.heap.size) (m := k) (c := c) 23 23 3 (.int .i64 0) 1 8 Try.underlying23 (by kernel_rfl) rfl (by decide) ints_one
    (World.ownsRow_nil _ _ _ _) (hl.front (ys := (L.take k).map vi) (by rw [← e1]; exact List.prefix_append _ _)) (by rw [List.length_map, List.length_take, Nat.min_eq_left (by omega), Nat.mul_one]) (by unfold maxLen; omega) (by omega) (Nat.le_refl _)
  rw [Nat.zero_add, List.nil_append] at ho1
  obtain ⟨A1, c1, rfl, -, -, -⟩ := own_parts ho1
  have hl2 : Lies V V.heap.size A2 ((L.drop (k + 1)).map vi) := lies_rest (xs := (L.take (k + 1)).map vi) (by rw [e2]; exact hl) (by rw [List.length_map, List.length_take, Nat.min_eq_left (by omega)]) (fun h0 => by rw [hA (by rw [List.length_map, List.length_drop] at h0; omega), Nat.mul_one])
  obtain ⟨v4, V4, hr4, ho4, hb4, _⟩ := run_append_lies (P := Try.prog) (w := V1) (base := V.heap.size) (m := L.length - (k + 1)) (c := c2) 23 23 3 (.int .i64 0) 1 8 Try.underlying23 (by kernel_rfl) rfl (by decide) ints_one
    ho1 (hl2.below hb1) (by rw [List.length_map, List.length_drop, Nat.mul_one]) (by unfold maxLen; omega) (by omega) hb1.size
  rw [show k + (L.length - (k + 1)) = L.length - 1 by omega, ← List.map_append] at ho4
  obtain ⟨A4, c4, rfl, -, -, -⟩ := own_parts ho4
  exact ⟨A1, c1, V1, A4, c4, V4, hr1, hr4, ho4, hb1, hb1.trans hb4⟩
/-- What Live has: what is out, in a row of the call's own; what is left, elsewhere. -/
structure LS (w wr : World) (vo : Value) (O : List Int) (A : Option Addr) (c : Nat) (L : List Int) : Prop where
  own : wr.ownsRow w.heap.size 3 1 vo O.length (O.map vi)
  off : Off vo wr A (L.map vi)
  len : L.length ≤ c
  cap : c ≤ maxLen
  be : Below w.heap.size w wr
section
variable {w wr w' : World} {vo : Value} {O L : List Int} {A : Option Addr} {c : Nat}
theorem LS.below (h : LS w wr vo O A c L) (hb : Below wr.heap.size wr w') : LS w w' vo O A c L :=
  ⟨own_later h.own hb, h.off.later hb, h.len, h.cap, h.be.trans (hb.mono h.be.size)⟩
/-- One number more is out. -/
theorem LS.more (h : LS w wr vo O A c L) (m : Int) (hn : O.length ≤ 100000) :
    ∃ v' w', Sem.run Try.prog (Builtin.append_ #[23, 23] 23 #[vo, .slice (some ⟨wr.heap.size, 0, none⟩) 1 1]) (wr.alloc (.cells #[.int .i64 m] 3)) = .ok v' w' ∧ LS w w' v' (O ++ [m]) A c L := by
  obtain ⟨v', w', hr, ho, hon⟩ := more_num m h.own (by omega) h.be.size
  exact ⟨v', w', hr, ho, h.off.onto hon, h.len, h.cap, h.be.trans (hon.below h.own h.be.size)⟩
/-- What is left lies in a new row. -/
theorem LS.renew {A4 : Option Addr} {c4 : Nat} {L4 : List Int} (h : LS w wr vo O A c L) (hb : Below wr.heap.size wr w') (ho : w'.ownsRow wr.heap.size 3 1 (.slice A4 L4.length c4) L4.length (L4.map vi)) : LS w w' vo O A4 c4 L4 := by
  obtain ⟨_, _, e1, hc1, hm1, hl1⟩ := own_parts ho
  injection e1 with ea _ ec
  subst ea; subst ec
  exact ⟨own_later h.own hb, LiesP.later (LiesP.of_own ho) (fun _ _ => rfl) fun k hk => ⟨hk.2.1, fun he => by have := (h.own.lt k he).2; omega⟩, hc1, hm1, h.be.trans (hb.mono h.be.size)⟩
end
end Go.Proofs.Ythhmjjmjicmhdaa.Ve
