/- What Big, Size and the document's own Size answer. -/
import Derived.Test.YtggliedlfccicaaBops
namespace Go.Proofs.Ytggliedlfccicaa.Bt
set_option linter.unusedVariables false
set_option linter.unusedSimpArgs false
open Go.RowKit Lift Ik

def bigD (d : D) : Bool := decide (300 < d.key.length) || decide (5000 < d.val.length)
def bigB (L : List D) : Bool := L.any bigD || decide (110 < L.length)
theorem any_drop {L : List D} {j : Nat} {d : D} (h : L[j]? = some d) : (L.drop j).any bigD = (bigD d || (L.drop (j + 1)).any bigD) := by
  rw [drop_cons h]; rfl
def sizeD (L : List D) : Nat := (L.map fun d => d.key.length + d.val.length + 16).sum
theorem sizeD_take {L : List D} {j : Nat} {d : D} (h : L[j]? = some d) : sizeD (L.take (j + 1)) = sizeD (L.take j) + (d.key.length + d.val.length + 16) := by
  rw [List.take_add_one, h]; simp [sizeD]
theorem big_no {L : List D} (h : bigB L = false) : L.length ≤ 110 ∧ ∀ d, d ∈ L → d.key.length ≤ 300 ∧ d.val.length ≤ 5000 := by
  simp [bigB, bigD] at h
  exact ⟨h.2, h.1⟩
theorem sizeD_le {L : List D} (h : ∀ d, d ∈ L → d.key.length ≤ 300 ∧ d.val.length ≤ 5000) : sizeD L ≤ L.length * 5316 := by
  induction L with
  | nil => simp [sizeD]
  | cons d L ih =>
    have h1 := h d (by simp)
    have h2 := ih fun e he => h e (by simp [he])
    simp only [sizeD, List.map_cons, List.sum_cons, List.length_cons] at h2 ⊢
    omega

set_option maxRecDepth 100000 in
set_option maxHeartbeats 400000 in
theorem big_any (A : Option Addr) (c B : Nat) (L : List D) (w : World) (h : Ops w B A c L) :
    Calls Try.prog 9 #[.slice A L.length c] w fun e w' => e = .returned (.bool (bigB L)) ∧ w = w' := by
  have HO := Lib.hid h
  have hc := h.len
  have hm := h.cap
  unfold maxLen at hm
  clear h
  go_enter Try.func9, Try.ntmps9
  go_wp2_with fail
  go_loop [3] (fun i => ∃ j : Nat, j ≤ L.length ∧ i = .int .i64 j ∧ Hid (bigB L = ((L.drop j).any bigD || decide (110 < L.length)))) (fun i => L.length + 1 - (intOf i).toNat)
  case atStart => exact ⟨0, by omega, rfl, Lib.hid rfl⟩
  case round =>
    obtain ⟨j, hj, rfl, hb⟩ := hrel
    by_cases hlt : j < L.length
    · obtain ⟨d, hd⟩ : ∃ d, L[j]? = some d := ⟨_, List.getElem?_eq_getElem hlt⟩
      obtain ⟨ad, p, hA, hz, hp, hpb, p0, p1, p2⟩ := HO.out.place hd
      subst hA
      clear hz hpb
      have HD := Lib.hid (any_drop hd)
      clear hd
      by_cases k1 : 300 < d.key.length
      · have e : Hid (bigB L = true) := Lib.hid (by rw [hb.out, HD.out]; simp [bigD, k1])
        go_wp2_with fail
        go_ret
        exact ⟨by rw [e.out]; rfl, rfl⟩
      · by_cases k2 : 5000 < d.val.length
        · have e : Hid (bigB L = true) := Lib.hid (by rw [hb.out, HD.out]; simp [bigD, k2])
          go_wp2_with fail
          go_ret
          exact ⟨by rw [e.out]; rfl, rfl⟩
        · go_wp2_with fail
          go_round
          case rel => exact ⟨j + 1, by omega, by go_num, Lib.hid (by rw [hb.out, HD.out]; simp [bigD, k1, k2])⟩
          case measure => simp [intOf]; omega
    · obtain rfl : j = L.length := by omega
      have e : Hid (bigB L = decide (110 < L.length)) := Lib.hid (by rw [hb.out]; simp)
      go_wp2_with fail
      go_ret
      exact ⟨by rw [e.out]; simp; omega, rfl⟩

set_option maxRecDepth 100000 in
set_option maxHeartbeats 400000 in
theorem rsize_any (A : Option Addr) (c : Nat) (L : List D) (w : World) (h : Ops w w.heap.size A c L) (hs : ∀ d, d ∈ L → d.key.length ≤ 300 ∧ d.val.length ≤ 5000) (hn : L.length ≤ 220) :
    Calls Try.prog 16 #[.slice A L.length c] w fun e w' => e = .returned (.int .i64 (sizeD L : Nat)) ∧ Below w.heap.size w w' := by
  have HO := Lib.hid h
  have HS := Lib.hid hs
  have hc := h.len
  have hm := h.cap
  unfold maxLen at hm
  clear h hs
  go_enter Try.func16, Try.ntmps16
  go_wp2_with fail
  go_loopw [3, 4] (fun x i wr => ∃ j y : Nat, j ≤ L.length ∧ i = .int .i64 j ∧ x = .int .i64 y ∧ Hid (y = sizeD (L.take j)) ∧ y ≤ j * 5316 ∧ Hid (Below w.heap.size w wr)) (fun _ i _ => L.length + 1 - (intOf i).toNat)
  case atStart => exact ⟨0, 0, by omega, rfl, rfl, Lib.hid rfl, by omega, Lib.hid (Below.refl _ _)⟩
  case round =>
    obtain ⟨j, y, hj, rfl, rfl, hy, hle, hb⟩ := hrel
    by_cases hlt : j < L.length
    · obtain ⟨d, hd⟩ : ∃ d, L[j]? = some d := ⟨_, List.getElem?_eq_getElem hlt⟩
      obtain ⟨k1, k2⟩ := HS.out d (List.mem_of_getElem? hd)
      obtain ⟨ad, p, hA, hz, hp, hpb, p0, p1, p2⟩ := (HO.out.below hb.out).place hd
      subst hA
      clear hz hpb
      have HD := Lib.hid (sizeD_take hd)
      clear hd
      go_wp2_with fail
      go_quiet (fail)
      go_wp2_with fail
      go_roundw
      case rel => exact ⟨j + 1, y + (d.key.length + d.val.length + 16), by omega, by go_num, by go_num, Lib.hid (by rw [HD.out, hy.out]), by omega, Lib.hid (hb.out.trans (Joins.below_draws _ _ _))⟩
      case measure => simp [intOf]; omega
    · obtain rfl : j = L.length := by omega
      have e : Hid (y = sizeD L) := Lib.hid (by rw [hy.out, List.take_length])
      go_wp2_with fail
      go_ret
      exact ⟨by rw [e.out]; rfl, hb.out⟩
set_option maxRecDepth 100000 in
set_option maxHeartbeats 400000 in
theorem size_any (A : Option Addr) (c : Nat) (L : List D) (w : World) (h : Ops w w.heap.size A c L) (hs : ∀ d, d ∈ L → d.key.length ≤ 300 ∧ d.val.length ≤ 5000) (hn : L.length ≤ 220) :
    Calls Try.prog 15 #[.slice A L.length c] w fun e w' => e = .returned (.int .i64 (sizeD L : Nat)) ∧ Below w.heap.size w w' := by
  have HO := Lib.hid h
  have HS := Lib.hid hs
  have hc := h.len
  have hm := h.cap
  unfold maxLen at hm
  clear h hs
  go_enter Try.func15, Try.ntmps15
  go_wp2_with fail
  go_loopw [3, 8] (fun x i wr => ∃ j y : Nat, j ≤ L.length ∧ i = .int .i64 j ∧ x = .int .i64 y ∧ Hid (y = sizeD (L.take j)) ∧ y ≤ j * 5316 ∧ Hid (Below w.heap.size w wr)) (fun _ i _ => L.length + 1 - (intOf i).toNat)
  case atStart => exact ⟨0, 0, by omega, rfl, rfl, Lib.hid rfl, by omega, Lib.hid (Below.refl _ _)⟩
  case round =>
    obtain ⟨j, y, hj, rfl, rfl, hy, hle, hb⟩ := hrel
    by_cases hlt : j < L.length
    · obtain ⟨d, hd⟩ : ∃ d, L[j]? = some d := ⟨_, List.getElem?_eq_getElem hlt⟩
      obtain ⟨k1, k2⟩ := HS.out d (List.mem_of_getElem? hd)
      obtain ⟨ad, p, hA, hz, hp, hpb, p0, p1, p2⟩ := (HO.out.below hb.out).place hd
      subst hA
      clear hz hpb
      have hld := load_op p0 p1 p2
      have HD := Lib.hid (sizeD_take hd)
      clear hd
      go_wp2_with fail
      go_roundw
      case rel => exact ⟨j + 1, y + (d.key.length + d.val.length + 16), by omega, by go_num, by go_num, Lib.hid (by rw [HD.out, hy.out]), by omega, Lib.hid (hb.out.alloc hb.out.size _)⟩
      case measure => simp [intOf]; omega
    · obtain rfl : j = L.length := by omega
      have e : Hid (y = sizeD L) := Lib.hid (by rw [hy.out, List.take_length])
      go_wp2_with fail
      go_ret
      exact ⟨by rw [e.out]; rfl, hb.out⟩
end Go.Proofs.Ytggliedlfccicaa.Bt
