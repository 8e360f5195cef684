/- The reader of package batch: numbers, and the next bytes. -/
import Derived.Test.YtggliedlfccicaaBcheck
import Derived.Test.YtggliedlfccicaaGet
namespace Go.Proofs.Ytggliedlfccicaa.Bt
set_option linter.unusedVariables false
set_option linter.unusedSimpArgs false
open Go.RowKit Lift Ik Vn

set_option maxRecDepth 100000 in
set_option maxHeartbeats 400000 in
theorem numb_any (ad : Addr) (c B : Nat) (bs : List Nat) (w : World) (hl : Lies w B (some ad) (bs.map vb)) (hc : bs.length ≤ c) (h0 : bs ≠ []) (h8 : bs.length ≤ 8) (hb : ∀ x, x ∈ bs → x < 256) :
    Calls Try.prog 38 #[.slice (some ad) bs.length c] w fun e w' => e = .returned (.int .u64 (num bs : Nat)) ∧ w = w' := by
  obtain ⟨_, hA, _, hcell⟩ := hl.place (by have := List.length_pos_iff.2 h0; simpa using this)
  cases hA
  have HC := Lib.hid (cells_at hcell)
  have H8 := Lib.hid hb
  clear hl hcell hb h0
  go_enter Try.func38, Try.ntmps38
  go_wp2_with fail
  go_loop [3, 8] (fun x i => ∃ j y : Nat, j ≤ bs.length ∧ i = .int .i64 j ∧ x = .int .u64 y ∧ Hid (y = num ((bs.drop 0).take j)) ∧ Hid (y < 256 ^ j)) (fun _ i => 10 - (intOf i).toNat)
  case atStart => exact ⟨0, 0, by omega, rfl, rfl, Lib.hid rfl, Lib.hid (by decide)⟩
  case round =>
    obtain ⟨j, y, hj, rfl, rfl, hy, hlt8⟩ := hrel
    by_cases hlt : j < bs.length
    · obtain ⟨d, hd⟩ : ∃ d : Nat, bs[0 + j]? = some d := ⟨_, List.getElem?_eq_getElem (by omega)⟩
      have d8 := H8.out d (List.mem_of_getElem? hd)
      have h1 : w.cell? (ad.add j) = some (.int .u8 (d : Int)) := HC.out j d (by simpa using hd)
      have e := or_step y d j (by omega) hlt8.out d8
      have HD := Lib.hid hd
      clear hd
      go_wp2_with fail
      go_round
      case rel => exact ⟨j + 1, y + d * 256 ^ j, by omega, by go_num, by go_num, Lib.hid (num_step HD.out hy.out), Lib.hid (pow_step hlt8.out d8)⟩
      case measure => simp [intOf]; omega
    · obtain rfl : j = bs.length := by omega
      have e : Hid (y = num bs) := Lib.hid (by rw [hy.out]; simp)
      go_wp2_with fail
      go_ret
      exact ⟨by rw [e.out]; rfl, rfl⟩

/-- A reader of n bytes at A, at the place p. -/
abbrev Rd (w : World) (g : Nat) (A : Option Addr) (n c p : Nat) : Prop := Box w g 56 [.slice A n c, .int .i64 (p : Int)]

theorem slice_at (A : Option Addr) (n c p m : Nat) (h : p + m ≤ n) (hc : n ≤ c) (hm : c ≤ maxLen) :
    ∃ A', (0 < m → A' = A.map (·.add p)) ∧ (A.isSome = true → A'.isSome = true) ∧ ∀ W : World, Sem.run Try.prog (Instr.slice 28 (.slice A n c) (some (.int .i64 (p : Int))) (some (.int .i64 ((p : Int) + (m : Int)))) none) W = .ok (.slice A' m (c - p)) W := by
  unfold maxLen at hm
  by_cases hcp : c = p
  · refine ⟨A, fun h0 => by omega, id, fun W => ?_⟩
    obtain rfl : m = 0 := by omega
    obtain rfl : n = p := by omega
    subst hcp
    go_simp
  · refine ⟨A.map (·.add p), fun _ => rfl, fun h => by simpa using h, fun W => ?_⟩
    go_simp
    rw [if_pos ⟨by omega, by omega⟩, if_pos (by omega), show ((p : Int) + (m : Int)).toNat - p = m by omega]
set_option maxRecDepth 100000 in
set_option maxHeartbeats 400000 in
theorem part_short (g : Nat) (A : Option Addr) (n c p m : Nat) (w : World) (h : Rd w g A n c p) (hp : p ≤ n) (hn : n ≤ 1000000) (hm : n - p < m) (hm2 : m ≤ 1000000) :
    Calls Try.prog (37) #[.pointer (some ⟨g, 0, none⟩), .int .i64 (m : Int)] w fun e w' => e = .returned (.tuple #[.slice none 0 0, .int .i64 4]) ∧ Below w.heap.size w w' ∧ Rd w' g A n c p := by
  obtain ⟨p0, p1, _, _⟩ := h.facts2
  have H := Lib.hid h
  clear h
  have d1 : decide ((n : Int) - (p : Int) < (m : Int)) = true := by simp; omega
  go_enter Try.func37, Try.ntmps37
  go_wp2_with fail
  go_quiet (fail)
  go_wp2_with fail
  go_returns
  exact ⟨rfl, Joins.below_draws _ _ _, H.out⟩
set_option maxRecDepth 100000 in
set_option maxHeartbeats 400000 in
theorem part_ok (g : Nat) (ad0 : Addr) (bs : List Nat) (c p m : Nat) (w : World) (h : Rd w g (some ad0) bs.length c p) (hl : Lies w g (some ad0) (bs.map vb)) (hc : bs.length ≤ c) (hcm : c ≤ maxLen) (hp : p ≤ bs.length) (hn : bs.length ≤ 1000000) (hm : m ≤ bs.length - p) :
    Calls Try.prog (37) #[.pointer (some ⟨g, 0, none⟩), .int .i64 (m : Int)] w fun e w' => ∃ ad' : Addr, e = .returned (.tuple #[.slice (some ad') m (c - p), .int .i64 0]) ∧ Lies w' g (some ad') (((bs.drop p).take m).map vb) ∧ Keep (· = g) w w' ∧ Rd w' g (some ad0) bs.length c (p + m) := by
  obtain ⟨A', hA', hsome, hs⟩ := slice_at (some ad0) bs.length c p m (by omega) hc hcm
  obtain ⟨ad', rfl⟩ : ∃ ad', A' = some ad' := Option.isSome_iff_exists.1 (hsome rfl)
  clear hsome
  obtain ⟨p0, p1, f0, f1⟩ := h.facts2
  have H := Lib.hid h
  have HL := Lib.hid hl
  have HA := Lib.hid hA'
  have d1 : decide ((bs.length : Int) - (p : Int) < (m : Int)) = false := by simp; omega
  clear h hl hA'
  go_enter Try.func37, Try.ntmps37
  go_wp2_with fail
  go_quiet (fail)
  go_wp2_with fail
  go_quiet (fail)
  go_wp2_with fail
  go_returns
  have hb : ∀ (u : Value) (n1 n2 : Nat), Keep (· = g) w (((w.drewN n1).setCell ⟨g, 1, none⟩ u).drewN n2) := fun u n1 n2 =>
    (Keep.setCell (below_keep (S := (· = g)) (Joins.below_draws w.heap.size w n1)) (p := ⟨g, 1, none⟩) (.inr rfl) u).trans (T := (· = g)) (below_keep (Joins.below_draws _ ((w.drewN n1).setCell ⟨g, 1, none⟩ u) n2)) fun _ _ h => h
  have hlies : ∀ w', Keep (· = g) w w' → Lies w' g (some ad') (((bs.drop p).take m).map vb) := by
    intro w' hk0
    have hk := hk0.below (B := g) (by have := H.out.lt; omega) (fun k hk => by omega)
    by_cases h0 : m = 0
    · left; subst h0; simp
    · rw [HA.out (by omega)]
      obtain ⟨ad, hada, hadb, hcell⟩ := HL.out.place (by simp; omega)
      cases hada
      refine .inr ⟨ad0.add p, rfl, by rw [add_block]; exact hadb, fun j u hj => ?_⟩
      rw [add_add]
      refine (hk.cell (by rw [add_block]; exact hadb)).trans (hcell _ _ ?_)
      rw [← hj, List.getElem?_map, List.getElem?_map, List.getElem?_take_of_lt, List.getElem?_drop]
      have := (List.getElem?_eq_some_iff.1 hj).1
      simp at this
      omega
  exact ⟨ad', rfl, hlies _ (hb _ _ _), hb _ _ _, Box.set (us := [.slice (some ad0) bs.length c, .int .i64 (p : Int)]) H.out 1 _⟩
end Go.Proofs.Ytggliedlfccicaa.Bt
