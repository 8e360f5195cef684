/- Two lists of bytes are one; are all bytes zeros; a header that fits. -/
import Derived.Test.YtkmelhgpngochaaDoorFacc
import Derived.Test.YtkmelhgpngochaaDoorFrpiece
namespace Go.Proofs.YtkmelhgpngochaaDoor.Fr
set_option linter.unusedVariables false
set_option linter.unusedSimpArgs false
open Go.RowKit Lift Ik Sq
set_option maxRecDepth 100000 in
set_option maxHeartbeats 800000 in
theorem same_any (A1 A2 : Option Addr) (c1 c2 : Nat) (L1 L2 : List E) (w : World) (h1 : Seqs w w.heap.size A1 c1 L1) (h2 : Seqs w w.heap.size A2 c2 L2) (he : L1.map (·.bs) = L2.map (·.bs)) (hn : L1.length ≤ 1000000) :
    Calls Tryd.prog 15 #[.slice A1 L1.length c1, .slice A2 L2.length c2] w fun e w' => e = .returned (.bool true) ∧ Below w.heap.size w w' := by
  have hl : L2.length = L1.length := by have := congrArg List.length he; simpa using this.symm
  rw [hl]
  have H1 := Lib.hid h1
  have H2 := Lib.hid h2
  have HE := Lib.hid he
  have HLL := Lib.hid hl
  clear h1 h2 he hl
  go_enter Tryd.func15, Tryd.ntmps15
  go_wp2_with fail
  go_loopw [5] (fun i wr => ∃ j : Nat, j ≤ L1.length ∧ i = .int .i64 j ∧ Hid (Below w.heap.size w wr)) (fun i _ => L1.length + 1 - (intOf i).toNat)
  case atStart => exact ⟨0, by omega, rfl, Lib.hid (Below.refl _ _)⟩
  case round =>
    obtain ⟨j, hj, rfl, hb⟩ := hrel
    by_cases hlt : j < L1.length
    · obtain ⟨x, hx⟩ : ∃ x, L1[j]? = some x := ⟨_, List.getElem?_eq_getElem hlt⟩
      obtain ⟨y, hy⟩ : ∃ y, L2[j]? = some y := ⟨_, List.getElem?_eq_getElem (by rw [HLL.out]; exact hlt)⟩
      have hxy : x.bs = y.bs := by
        have := congrArg (fun l => l[j]?) HE.out
        simp only [List.getElem?_map, hx, hy] at this
        simpa using this
      obtain ⟨a1, hA1, _, r1⟩ := (H1.out.below hb.out).place hx
      obtain ⟨a2, hA2, _, r2⟩ := (H2.out.below hb.out).place hy
      have k1 := (H1.out.below hb.out).ok x (List.mem_of_getElem? hx)
      have k2 := (H2.out.below hb.out).ok y (List.mem_of_getElem? hy)
      have q1 : ∀ n, Sem.run Tryd.prog (convert 22 9 (.slice x.a x.bs.length x.c)) (wr.drewN n) = .ok (.string (str x.bs)) (wr.drewN n) := fun n =>
        run_string_lies (P := Tryd.prog) (c := x.c) _ _ 5 Tryd.underlying22 Tryd.underlying5 Tryd.underlying9 (k1.lies.below (Joins.below_draws _ _ _))
      have q2 : ∀ n, Sem.run Tryd.prog (convert 22 9 (.slice y.a y.bs.length y.c)) (wr.drewN n) = .ok (.string (str x.bs)) (wr.drewN n) := fun n => by
        rw [hxy]
        exact run_string_lies (P := Tryd.prog) (c := y.c) _ _ 5 Tryd.underlying22 Tryd.underlying5 Tryd.underlying9 (k2.lies.below (Joins.below_draws _ _ _))
      subst hA1 hA2
      have dl : decide (j < L1.length) = true := decide_eq_true hlt
      generalize str x.bs = s at *
      clear hx hy hxy k1 k2
      generalize x.bs.length = n1 at *
      generalize y.bs.length = n2 at *
      go_wp2_with fail
      go_quiet (fail)
      go_wp2_with fail
      go_roundw
      case rel => exact ⟨j + 1, by omega, by go_num, Lib.hid (hb.out.trans (Joins.below_draws _ _ _))⟩
      case measure => simp [intOf]; omega
    · have dl : decide (j < L1.length) = false := decide_eq_false hlt
      go_wp2_with fail
      go_ret
      exact ⟨rfl, hb.out⟩
set_option maxRecDepth 100000 in
set_option maxHeartbeats 400000 in
theorem zeros_any (A : Option Addr) (c B : Nat) (bs : List Nat) (w : World) (hl : Lies w B A (bs.map vb)) (hn : bs.length ≤ 1000000) (h8 : ∀ c, c ∈ bs → c < 256) :
    Calls Tryd.prog 23 #[.slice A bs.length c] w fun e w' => e = .returned (.bool (decide (∀ c, c ∈ bs → c = 0))) ∧ w = w' := by
  have HL := Lib.hid hl
  have H8 := Lib.hid h8
  clear hl h8
  go_enter Tryd.func23, Tryd.ntmps23
  go_wp2_with fail
  go_loop [3] (fun i => ∃ j : Nat, j ≤ bs.length ∧ i = .int .i64 j ∧ Hid (∀ c, c ∈ bs.take j → c = 0)) (fun i => bs.length + 1 - (intOf i).toNat)
  case atStart => exact ⟨0, by omega, rfl, Lib.hid (by simp)⟩
  case round =>
    obtain ⟨j, hj, rfl, hz⟩ := hrel
    by_cases hlt : j < bs.length
    · obtain ⟨ad, hA, _, hcell⟩ := HL.out.place (by simp; omega)
      subst hA
      obtain ⟨d, hd⟩ : ∃ d : Nat, bs[j]? = some d := ⟨_, List.getElem?_eq_getElem hlt⟩
      have d8 := H8.out d (List.mem_of_getElem? hd)
      have h1 := cells_at hcell _ d hd
      have HD := Lib.hid hd
      clear hcell hd
      by_cases h0 : d = 0
      · subst h0
        go_wp2_with fail
        go_round
        case rel => exact ⟨j + 1, by omega, by go_num, Lib.hid (by
          rw [List.take_add_one, HD.out]
          intro c hc
          rcases List.mem_append.1 hc with hc | hc
          · exact hz.out c hc
          · simpa using hc)⟩
        case measure => simp [intOf]; omega
      · have E : Hid (decide (∀ c, c ∈ bs → c = 0) = false) := Lib.hid (decide_eq_false fun h => h0 (h d (List.mem_of_getElem? HD.out)))
        have hne : ((d : Int) != 0) = true := by rw [bne_iff_ne]; omega
        go_wp2_with fail
        go_ret
        exact ⟨by rw [E.out]; rfl, rfl⟩
    · obtain rfl : j = bs.length := by omega
      have E : Hid (decide (∀ c, c ∈ bs → c = 0) = true) := Lib.hid (decide_eq_true (by rw [List.take_length] at hz; exact hz.out))
      go_wp2_with fail
      go_ret
      exact ⟨by rw [E.out]; rfl, rfl⟩
theorem head7 {r : List Nat} (h7 : 7 ≤ r.length) (h8 : ∀ x, x ∈ r → x < 256) (hd : (dataOf r).length = num2 r) :
    (r.take 7 = (piece (kindOf r) (dataOf r)).take 7) ↔ num (r.take 4) = sumB (kindOf r) (dataOf r) := by
  obtain ⟨k, hk⟩ : ∃ k, r[6]? = some k := ⟨_, List.getElem?_eq_getElem (by omega)⟩
  have ek : kindOf r = k := by unfold kindOf; rw [hk]; rfl
  have l2 : ((r.drop 4).take 2).length = 2 := by rw [List.length_take, List.length_drop]; omega
  have l4 : (r.take 4).length = 4 := by rw [List.length_take]; omega
  have b1 : (r.drop 4).take 2 ++ r.drop 6 = r.drop 4 := by
    have := List.take_append_drop 2 (r.drop 4)
    rwa [List.drop_drop] at this
  have b2 : r.take 4 ++ ((r.drop 4).take 2 ++ [k]) ++ r.drop 7 = r := by
    have e6 : r.drop 6 = [k] ++ r.drop 7 := drop_cons hk
    rw [e6] at b1
    rw [List.append_assoc, List.append_assoc, b1]
    exact List.take_append_drop 4 r
  have e1 : r.take 7 = r.take 4 ++ ((r.drop 4).take 2 ++ [k]) := by
    have := List.take_left' (l₁ := r.take 4 ++ ((r.drop 4).take 2 ++ [k])) (l₂ := r.drop 7) (i := 7) (by rw [List.length_append, List.length_append, l4, l2]; rfl)
    exact (congrArg (List.take 7) b2).symm.trans this
  have e2 : (piece (kindOf r) (dataOf r)).take 7 = low (sumB (kindOf r) (dataOf r)) 4 ++ ((r.drop 4).take 2 ++ [k]) := by
    have e3 : piece (kindOf r) (dataOf r) = (low (sumB (kindOf r) (dataOf r)) 4 ++ (low (dataOf r).length 2 ++ [kindOf r])) ++ dataOf r := by simp [piece]
    have e5 : low (num2 r) 2 = (r.drop 4).take 2 := by
      have := low_num ((r.drop 4).take 2) fun c hc => h8 c (List.mem_of_mem_drop (List.mem_of_mem_take hc))
      rw [l2] at this
      exact this
    rw [e3, List.take_left' (by simp [low_length]), hd, ek, e5]
  rw [e1, e2]
  constructor
  · intro h
    have := List.append_inj_left h (by rw [l4, low_length])
    rw [this, num_low _ _ (by have := sumB_lt (kindOf r) (dataOf r); omega)]
  · intro h
    have := low_num (r.take 4) fun c hc => h8 c (List.mem_of_mem_take hc)
    rw [l4, h] at this
    rw [this]
end Go.Proofs.YtkmelhgpngochaaDoor.Fr
