/- The document's own list: what an insertion into a row is made of. -/
import Derived.Test.YtmnhklfljfglhaaSref2
import Derived.Test.YtmnhklfljfglhaaSadd
import Derived.Test.YtmnhklfljfglhaaLast
namespace Go.Proofs.Ytmnhklfljfglhaa.Sk
set_option linter.unusedVariables false
set_option linter.unusedSimpArgs false
open Go.RowKit Lift Ik
/-- The first part, in a row of its own. -/
theorem ins_head {P : Program} {V : World} {B i c : Nat} {A : Option Addr} {xs ys : List Value} (t ty e : TypeId) (z : Value) (size bytes : Nat) (ht : P.underlying t = some (.slice e))
    (hinfo : (P.info? e).map (fun i => (i.zero, i.size, i.bytes)) = some (some z, size, bytes)) (hz : z.cells.size = size) (hsz : 0 < size) (hl : Lies V B A xs) (hp : ys <+: xs) (hy : ys.length = i * size) (h1 : ∀ u, u ∈ xs → u.oneCell' = true) (hb : bytes ≤ 64) (hi : i ≤ 1000) :
    ∃ A1 c1 V1, Sem.run P (Builtin.append_ #[t, t] ty #[.slice none 0 0, .slice A i c]) V = .ok (.slice A1 i c1) V1 ∧ V1.ownsRow V.heap.size e size (.slice A1 i c1) i ys ∧ Below V.heap.size V V1 := by
  have hib : i * bytes ≤ 64000 := Nat.le_trans (Nat.mul_le_mul hi hb) (by decide)
  obtain ⟨v, W, hr, ho, hbe, _⟩ := run_append_lies (P := P) (w := V) (base := V.heap.size) (m := i) (c := c) t ty e z size bytes ht hinfo hz hsz (fun u hu => h1 u (hp.subset hu)) (World.ownsRow_nil _ _ _ _) (hl.front hp) hy (by unfold maxLen; omega) (by rw [Nat.zero_add]; omega) (Nat.le_refl _)
  rw [Nat.zero_add, List.nil_append] at ho
  obtain ⟨A1, c1, rfl, -, -, -⟩ := own_parts ho
  exact ⟨A1, c1, W, hr, ho, hbe⟩
/-- The new element, and the last part. -/
theorem ins_tail {P : Program} {V : World} {B q i m c2 : Nat} {v1 : Value} {A2 : Option Addr} {xs us ys : List Value} (t ty e : TypeId) (z : Value) (size bytes : Nat) (ht : P.underlying t = some (.slice e))
    (hinfo : (P.info? e).map (fun i => (i.zero, i.size, i.bytes)) = some (some z, size, bytes)) (hz : z.cells.size = size) (hsz : 0 < size) (ho : V.ownsRow B e size v1 i xs) (hB : B ≤ V.heap.size)
    (hq : ∀ j u, us[j]? = some u → V.cell? ((⟨q, 0, none⟩ : Addr).add j) = some u) (hul : us.length = size) (hu1 : ∀ u, u ∈ us → u.oneCell' = true) (hl : Lies V B A2 ys) (hyl : ys.length = m * size) (hy1 : ∀ u, u ∈ ys → u.oneCell' = true) (hb : bytes ≤ 64) (hi : i + 1 + m ≤ 1000) :
    ∃ A3 c3 V3 A4 c4 V4, Sem.run P (Builtin.append_ #[t, t] ty #[v1, .slice (some ⟨q, 0, none⟩) 1 1]) V = .ok (.slice A3 (i + 1) c3) V3 ∧
      Sem.run P (Builtin.append_ #[t, t] ty #[.slice A3 (i + 1) c3, .slice A2 m c2]) V3 = .ok (.slice A4 (i + 1 + m) c4) V4 ∧ V4.ownsRow B e size (.slice A4 (i + 1 + m) c4) (i + 1 + m) (xs ++ us ++ ys) ∧ Below B V V3 ∧ Below B V V4 ∧
      ∀ (k : Nat) (cs : Array Value) (T : TypeId) (fr : Nat × Nat), V.heap[k]? = some (.cells cs T fr) → T ≠ e → V4.heap[k]? = V.heap[k]? := by
  have hib : (i + 1 + m) * bytes ≤ 64000 := Nat.le_trans (Nat.mul_le_mul hi hb) (by decide)
  have hib1 : (i + 1) * bytes ≤ (i + 1 + m) * bytes := Nat.mul_le_mul_right _ (by omega)
  obtain ⟨v3, V3, hr3, ho3, hon3⟩ := run_append_onto (P := P) (w := V) (base := B) (B := q + 1) (m := 1) (c := 1) t ty e z size bytes ht hinfo hz hsz hu1 ho (.inr ⟨⟨q, 0, none⟩, rfl, Nat.lt_succ_self _, hq⟩) (by rw [hul, Nat.one_mul]) (by unfold maxLen; omega) (by omega) hB
  have hb3 : Below B V V3 := hon3.below ho hB
  obtain ⟨v4, V4, hr4, ho4, hon4⟩ := run_append_onto (P := P) (w := V3) (base := B) (B := B) (m := m) (c := c2) t ty e z size bytes ht hinfo hz hsz hy1 ho3 (hl.below hb3) hyl (by unfold maxLen; omega) (by omega) (Nat.le_trans hB hb3.size)
  have hb4 : Below B V3 V4 := hon4.below ho3 (Nat.le_trans hB hb3.size)
  obtain ⟨A3, c3, rfl, -, -, -⟩ := own_parts ho3
  obtain ⟨A4, c4, rfl, -, -, -⟩ := own_parts ho4
  refine ⟨A3, c3, V3, A4, c4, V4, hr3, hr4, ho4, hb3, hb3.trans hb4, fun k cs T fr hk hT => ?_⟩
  have hlt := (Array.getElem?_eq_some_iff.1 hk).1
  have ne : ∀ {w : World} {v : Value} {n : Nat} {zs : List Value}, w.ownsRow B e size v n zs → w.heap[k]? = some (.cells cs T fr) → ¬ v.ownBlock = some k := fun h hw hv => by
    obtain ⟨cs2, fr2, h4⟩ := own_blk h hv
    rw [hw] at h4
    injection h4 with h4
    injection h4 with _ h4
    exact hT h4
  have k3 : V3.heap[k]? = V.heap[k]? := hon3.keep.block k hlt (ne ho hk)
  exact (hon4.keep.block k (Nat.lt_of_lt_of_le hlt hb3.size) (ne ho3 (k3.trans hk))).trans k3
theorem drop_at4 (A : Option Addr) (n c p : Nat) (h : p ≤ n) (hc : n ≤ c) (hm : c ≤ 9223372036854775807) :
    ∃ A' : Option Addr, (0 < n - p → A' = A.map (·.add (p * 4))) ∧ ∀ W : World, Sem.run Try.prog (Instr.slice 22 (.slice A n c) (some (.int .i64 (p : Int))) none none) W = .ok (.slice A' (n - p) (c - p)) W := by
  by_cases hcp : c = p
  · refine ⟨A, fun h0 => by omega, fun W => ?_⟩
    obtain rfl : n = p := by omega
    subst hcp
    go_simp
  · refine ⟨A.map (·.add (p * 4)), fun _ => rfl, fun W => ?_⟩
    go_simp
theorem upto_at4 (A : Option Addr) (n c k : Nat) (h : k ≤ c) (hc : n ≤ c) (hm : c ≤ 9223372036854775807) (W : World) : Sem.run Try.prog (Instr.slice 22 (.slice A n c) none (some (.int .i64 (k : Int))) none) W = .ok (.slice A k c) W := by
  go_simp
theorem drop_at1 (A : Option Addr) (n c p : Nat) (h : p ≤ n) (hc : n ≤ c) (hm : c ≤ 9223372036854775807) :
    ∃ A' : Option Addr, (0 < n - p → A' = A.map (·.add (p * 1))) ∧ ∀ W : World, Sem.run Try.prog (Instr.slice 23 (.slice A n c) (some (.int .i64 (p : Int))) none none) W = .ok (.slice A' (n - p) (c - p)) W := by
  by_cases hcp : c = p
  · refine ⟨A, fun h0 => by omega, fun W => ?_⟩
    obtain rfl : n = p := by omega
    subst hcp
    go_simp
  · refine ⟨A.map (·.add p), fun _ => by rw [Nat.mul_one], fun W => ?_⟩
    go_simp
theorem upto_at1 (A : Option Addr) (n c k : Nat) (h : k ≤ c) (hc : n ≤ c) (hm : c ≤ 9223372036854775807) (W : World) : Sem.run Try.prog (Instr.slice 23 (.slice A n c) none (some (.int .i64 (k : Int))) none) W = .ok (.slice A k c) W := by
  go_simp
/-- The last part of a row lies behind the first. -/
theorem lies_drop {w : World} {B : Nat} {A A' : Option Addr} {xs ys : List Value} {o : Nat} (h : Lies w B A (xs ++ ys)) (hx : xs.length = o) (hA : 0 < ys.length → A' = A.map (·.add o)) : Lies w B A' ys := by
  by_cases h0 : ys.length = 0
  · exact .inl (List.eq_nil_of_length_eq_zero h0)
  · obtain ⟨ad, rfl, hb, hc⟩ := h.place (by rw [List.length_append]; omega)
    refine .inr ⟨ad.add o, hA (by omega), by rw [add_block]; exact hb, fun j u hj => ?_⟩
    rw [Lift.add_add]
    refine hc _ _ ?_
    rw [List.getElem?_append_right (by omega), hx, Nat.add_sub_cancel_left]
    exact hj
end Go.Proofs.Ytmnhklfljfglhaa.Sk
