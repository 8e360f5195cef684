/- Which operations are valid, and what Check and the document's own CheckOps answer. -/
import Derived.Test.YtggliedlfccicaaBsize
import Derived.Test.YtggliedlfccicaaBm
namespace Go.Proofs.Ytggliedlfccicaa.Bt
set_option linter.unusedVariables false
set_option linter.unusedSimpArgs false
open Go.RowKit Lift Ik

/-- The operation itself. -/
def D.o (d : D) : O := ⟨d.kind, d.key, d.val⟩
def opsO (L : List D) : List O := L.map D.o

set_option maxHeartbeats 400000 in
theorem valid_any (ka va : Option Addr) (kc vc n m : Nat) (k : Int) (w : World) :
    Calls Try.prog 26 #[.agg #[.int .i64 k, .slice ka n kc, .slice va m vc]] w fun e w' => e = .returned (.bool (okO k n m)) ∧ Below w.heap.size w w' := by
  by_cases h1 : 1 ≤ n
  · have d1 : decide ((n : Int) < 1) = false := by simp; omega
    have d1x : decide ((1 : Int) ≤ (n : Int)) = true := by simp; omega
    by_cases h2 : n ≤ 256
    · have d2 : decide ((256 : Int) < (n : Int)) = false := by simp; omega
      have d2x : decide ((n : Int) ≤ 256) = true := by simp; omega
      by_cases h4 : k = 0
      · subst h4
        by_cases h6 : m = 0
        · have d6 : ((m : Int) == 0) = true := by simp; omega
          have d7 : decide ((m : Int) ≤ 4096) = true := by simp; omega
          have e : okO 0 n m = true := by simp [okO]; omega
          rw [e]
          clear e
          go_enter Try.func26, Try.ntmps26
          go_wp2_with fail
          go_ret
          exact ⟨rfl, Joins.below_alloc1 _ _⟩
        · have d6 : ((m : Int) == 0) = false := by simp; omega
          have e : okO 0 n m = false := by simp [okO]; omega
          rw [e]
          clear e
          go_enter Try.func26, Try.ntmps26
          go_wp2_with fail
          go_ret
          exact ⟨rfl, Joins.below_alloc1 _ _⟩
      · have d4 : (k == 0) = false := by simpa using h4
        by_cases h5 : k = 1
        · subst h5
          by_cases h7 : m ≤ 4096
          · have d7 : decide ((m : Int) ≤ 4096) = true := by simp; omega
            have e : okO 1 n m = true := by simp [okO]; omega
            rw [e]
            clear e
            go_enter Try.func26, Try.ntmps26
            go_wp2_with fail
            go_ret
            exact ⟨rfl, Joins.below_alloc1 _ _⟩
          · have d7 : decide ((m : Int) ≤ 4096) = false := by simp; omega
            have e : okO 1 n m = false := by simp [okO]; omega
            rw [e]
            clear e
            go_enter Try.func26, Try.ntmps26
            go_wp2_with fail
            go_ret
            exact ⟨rfl, Joins.below_alloc1 _ _⟩
        · have d5 : (k == 1) = false := by simpa using h5
          have e : okO k n m = false := by simp [okO]; omega
          rw [e]
          clear e
          go_enter Try.func26, Try.ntmps26
          go_wp2_with fail
          go_ret
          exact ⟨rfl, Joins.below_alloc1 _ _⟩
    · have d2 : decide ((256 : Int) < (n : Int)) = true := by simp; omega
      have d2x : decide ((n : Int) ≤ 256) = false := by simp; omega
      by_cases h4 : k = 0
      · subst h4
        by_cases h6 : m = 0
        · have d6 : ((m : Int) == 0) = true := by simp; omega
          have d7 : decide ((m : Int) ≤ 4096) = true := by simp; omega
          have e : okO 0 n m = false := by simp [okO]; omega
          rw [e]
          clear e
          go_enter Try.func26, Try.ntmps26
          go_wp2_with fail
          go_ret
          exact ⟨rfl, Joins.below_alloc1 _ _⟩
        · have d6 : ((m : Int) == 0) = false := by simp; omega
          have e : okO 0 n m = false := by simp [okO]; omega
          rw [e]
          clear e
          go_enter Try.func26, Try.ntmps26
          go_wp2_with fail
          go_ret
          exact ⟨rfl, Joins.below_alloc1 _ _⟩
      · have d4 : (k == 0) = false := by simpa using h4
        by_cases h5 : k = 1
        · subst h5
          by_cases h7 : m ≤ 4096
          · have d7 : decide ((m : Int) ≤ 4096) = true := by simp; omega
            have e : okO 1 n m = false := by simp [okO]; omega
            rw [e]
            clear e
            go_enter Try.func26, Try.ntmps26
            go_wp2_with fail
            go_ret
            exact ⟨rfl, Joins.below_alloc1 _ _⟩
          · have d7 : decide ((m : Int) ≤ 4096) = false := by simp; omega
            have e : okO 1 n m = false := by simp [okO]; omega
            rw [e]
            clear e
            go_enter Try.func26, Try.ntmps26
            go_wp2_with fail
            go_ret
            exact ⟨rfl, Joins.below_alloc1 _ _⟩
        · have d5 : (k == 1) = false := by simpa using h5
          have e : okO k n m = false := by simp [okO]; omega
          rw [e]
          clear e
          go_enter Try.func26, Try.ntmps26
          go_wp2_with fail
          go_ret
          exact ⟨rfl, Joins.below_alloc1 _ _⟩
  · have d1 : decide ((n : Int) < 1) = true := by simp; omega
    have d1x : decide ((1 : Int) ≤ (n : Int)) = false := by simp; omega
    by_cases h4 : k = 0
    · subst h4
      by_cases h6 : m = 0
      · have d6 : ((m : Int) == 0) = true := by simp; omega
        have d7 : decide ((m : Int) ≤ 4096) = true := by simp; omega
        have e : okO 0 n m = false := by simp [okO]; omega
        rw [e]
        clear e
        go_enter Try.func26, Try.ntmps26
        go_wp2_with fail
        go_ret
        exact ⟨rfl, Joins.below_alloc1 _ _⟩
      · have d6 : ((m : Int) == 0) = false := by simp; omega
        have e : okO 0 n m = false := by simp [okO]; omega
        rw [e]
        clear e
        go_enter Try.func26, Try.ntmps26
        go_wp2_with fail
        go_ret
        exact ⟨rfl, Joins.below_alloc1 _ _⟩
    · have d4 : (k == 0) = false := by simpa using h4
      by_cases h5 : k = 1
      · subst h5
        by_cases h7 : m ≤ 4096
        · have d7 : decide ((m : Int) ≤ 4096) = true := by simp; omega
          have e : okO 1 n m = false := by simp [okO]; omega
          rw [e]
          clear e
          go_enter Try.func26, Try.ntmps26
          go_wp2_with fail
          go_ret
          exact ⟨rfl, Joins.below_alloc1 _ _⟩
        · have d7 : decide ((m : Int) ≤ 4096) = false := by simp; omega
          have e : okO 1 n m = false := by simp [okO]; omega
          rw [e]
          clear e
          go_enter Try.func26, Try.ntmps26
          go_wp2_with fail
          go_ret
          exact ⟨rfl, Joins.below_alloc1 _ _⟩
      · have d5 : (k == 1) = false := by simpa using h5
        have e : okO k n m = false := by simp [okO]; omega
        rw [e]
        clear e
        go_enter Try.func26, Try.ntmps26
        go_wp2_with fail
        go_ret
        exact ⟨rfl, Joins.below_alloc1 _ _⟩

set_option maxHeartbeats 400000 in
theorem rvalid_any (ka va : Option Addr) (kc vc n m : Nat) (k : Int) (w : World) :
    Calls Try.prog 27 #[.agg #[.int .i64 k, .slice ka n kc, .slice va m vc]] w fun e w' => e = .returned (.bool (okO k n m)) ∧ Below w.heap.size w w' := by
  by_cases h1 : 1 ≤ n
  · have d1 : decide ((n : Int) < 1) = false := by simp; omega
    have d1x : decide ((1 : Int) ≤ (n : Int)) = true := by simp; omega
    by_cases h2 : n ≤ 256
    · have d2 : decide ((256 : Int) < (n : Int)) = false := by simp; omega
      have d2x : decide ((n : Int) ≤ 256) = true := by simp; omega
      by_cases h4 : k = 0
      · subst h4
        by_cases h6 : m = 0
        · have d6 : ((m : Int) == 0) = true := by simp; omega
          have d7 : decide ((m : Int) ≤ 4096) = true := by simp; omega
          have e : okO 0 n m = true := by simp [okO]; omega
          rw [e]
          clear e
          go_enter Try.func27, Try.ntmps27
          go_wp2_with fail
          go_ret
          exact ⟨rfl, Joins.below_alloc1 _ _⟩
        · have d6 : ((m : Int) == 0) = false := by simp; omega
          have e : okO 0 n m = false := by simp [okO]; omega
          rw [e]
          clear e
          go_enter Try.func27, Try.ntmps27
          go_wp2_with fail
          go_ret
          exact ⟨rfl, Joins.below_alloc1 _ _⟩
      · have d4 : (k == 0) = false := by simpa using h4
        by_cases h5 : k = 1
        · subst h5
          by_cases h7 : m ≤ 4096
          · have d7 : decide ((m : Int) ≤ 4096) = true := by simp; omega
            have e : okO 1 n m = true := by simp [okO]; omega
            rw [e]
            clear e
            go_enter Try.func27, Try.ntmps27
            go_wp2_with fail
            go_ret
            exact ⟨rfl, Joins.below_alloc1 _ _⟩
          · have d7 : decide ((m : Int) ≤ 4096) = false := by simp; omega
            have e : okO 1 n m = false := by simp [okO]; omega
            rw [e]
            clear e
            go_enter Try.func27, Try.ntmps27
            go_wp2_with fail
            go_ret
            exact ⟨rfl, Joins.below_alloc1 _ _⟩
        · have d5 : (k == 1) = false := by simpa using h5
          have e : okO k n m = false := by simp [okO]; omega
          rw [e]
          clear e
          go_enter Try.func27, Try.ntmps27
          go_wp2_with fail
          go_ret
          exact ⟨rfl, Joins.below_alloc1 _ _⟩
    · have d2 : decide ((256 : Int) < (n : Int)) = true := by simp; omega
      have d2x : decide ((n : Int) ≤ 256) = false := by simp; omega
      by_cases h4 : k = 0
      · subst h4
        by_cases h6 : m = 0
        · have d6 : ((m : Int) == 0) = true := by simp; omega
          have d7 : decide ((m : Int) ≤ 4096) = true := by simp; omega
          have e : okO 0 n m = false := by simp [okO]; omega
          rw [e]
          clear e
          go_enter Try.func27, Try.ntmps27
          go_wp2_with fail
          go_ret
          exact ⟨rfl, Joins.below_alloc1 _ _⟩
        · have d6 : ((m : Int) == 0) = false := by simp; omega
          have e : okO 0 n m = false := by simp [okO]; omega
          rw [e]
          clear e
          go_enter Try.func27, Try.ntmps27
          go_wp2_with fail
          go_ret
          exact ⟨rfl, Joins.below_alloc1 _ _⟩
      · have d4 : (k == 0) = false := by simpa using h4
        by_cases h5 : k = 1
        · subst h5
          by_cases h7 : m ≤ 4096
          · have d7 : decide ((m : Int) ≤ 4096) = true := by simp; omega
            have e : okO 1 n m = false := by simp [okO]; omega
            rw [e]
            clear e
            go_enter Try.func27, Try.ntmps27
            go_wp2_with fail
            go_ret
            exact ⟨rfl, Joins.below_alloc1 _ _⟩
          · have d7 : decide ((m : Int) ≤ 4096) = false := by simp; omega
            have e : okO 1 n m = false := by simp [okO]; omega
            rw [e]
            clear e
            go_enter Try.func27, Try.ntmps27
            go_wp2_with fail
            go_ret
            exact ⟨rfl, Joins.below_alloc1 _ _⟩
        · have d5 : (k == 1) = false := by simpa using h5
          have e : okO k n m = false := by simp [okO]; omega
          rw [e]
          clear e
          go_enter Try.func27, Try.ntmps27
          go_wp2_with fail
          go_ret
          exact ⟨rfl, Joins.below_alloc1 _ _⟩
  · have d1 : decide ((n : Int) < 1) = true := by simp; omega
    have d1x : decide ((1 : Int) ≤ (n : Int)) = false := by simp; omega
    by_cases h4 : k = 0
    · subst h4
      by_cases h6 : m = 0
      · have d6 : ((m : Int) == 0) = true := by simp; omega
        have d7 : decide ((m : Int) ≤ 4096) = true := by simp; omega
        have e : okO 0 n m = false := by simp [okO]; omega
        rw [e]
        clear e
        go_enter Try.func27, Try.ntmps27
        go_wp2_with fail
        go_ret
        exact ⟨rfl, Joins.below_alloc1 _ _⟩
      · have d6 : ((m : Int) == 0) = false := by simp; omega
        have e : okO 0 n m = false := by simp [okO]; omega
        rw [e]
        clear e
        go_enter Try.func27, Try.ntmps27
        go_wp2_with fail
        go_ret
        exact ⟨rfl, Joins.below_alloc1 _ _⟩
    · have d4 : (k == 0) = false := by simpa using h4
      by_cases h5 : k = 1
      · subst h5
        by_cases h7 : m ≤ 4096
        · have d7 : decide ((m : Int) ≤ 4096) = true := by simp; omega
          have e : okO 1 n m = false := by simp [okO]; omega
          rw [e]
          clear e
          go_enter Try.func27, Try.ntmps27
          go_wp2_with fail
          go_ret
          exact ⟨rfl, Joins.below_alloc1 _ _⟩
        · have d7 : decide ((m : Int) ≤ 4096) = false := by simp; omega
          have e : okO 1 n m = false := by simp [okO]; omega
          rw [e]
          clear e
          go_enter Try.func27, Try.ntmps27
          go_wp2_with fail
          go_ret
          exact ⟨rfl, Joins.below_alloc1 _ _⟩
      · have d5 : (k == 1) = false := by simpa using h5
        have e : okO k n m = false := by simp [okO]; omega
        rw [e]
        clear e
        go_enter Try.func27, Try.ntmps27
        go_wp2_with fail
        go_ret
        exact ⟨rfl, Joins.below_alloc1 _ _⟩

def okD (d : D) : Bool := okO d.kind d.key.length d.val.length
/-- What Check answers. -/
def chk (L : List D) : Nat := if L.length = 0 ∨ 100 < L.length then 3 else if L.all okD = true then 0 else 1
theorem chk_o (L : List D) : chk L = chkO (opsO L) := by
  unfold chk chkO opsO
  rw [List.length_map, List.all_map]
  rfl
theorem all_drop {L : List D} {j : Nat} {d : D} (h : L[j]? = some d) : (L.drop j).all okD = (okD d && (L.drop (j + 1)).all okD) := by
  rw [drop_cons h]; rfl

set_option maxRecDepth 100000 in
set_option maxHeartbeats 400000 in
theorem check_any (A : Option Addr) (c : Nat) (L : List D) (w : World) (h : Ops w w.heap.size A c L) :
    Calls Try.prog 13 #[.slice A L.length c] w fun e w' => e = .returned (.int .i64 (chk L : Nat)) ∧ Below w.heap.size w w' := by
  have HO := Lib.hid h
  have hc := h.len
  have hm := h.cap
  unfold maxLen at hm
  clear h
  by_cases n0 : L.length = 0
  · have e : chk L = 3 := by unfold chk; rw [if_pos (.inl n0)]
    rw [e, n0]
    clear e
    go_enter Try.func13, Try.ntmps13
    go_wp2_with fail
    go_ret
    exact ⟨rfl, Below.refl _ _⟩
  · have dn0 : ((L.length : Int) == 0) = false := by rw [beq_eq_false_iff_ne]; omega
    have dn1 : decide ((L.length : Int) < 1) = false := by simp; omega
    by_cases n1 : 100 < L.length
    · have dn2 : decide ((100 : Int) < (L.length : Int)) = true := by simp; omega
      have e : chk L = 3 := by unfold chk; rw [if_pos (.inr n1)]
      rw [e]
      clear e
      go_enter Try.func13, Try.ntmps13
      go_wp2_with fail
      go_ret
      exact ⟨rfl, Below.refl _ _⟩
    · have dn2 : decide ((100 : Int) < (L.length : Int)) = false := by simp; omega
      have e0 : chk L = if L.all okD = true then 0 else 1 := by unfold chk; rw [if_neg (by omega)]
      have E0 := Lib.hid e0
      clear e0
      go_enter Try.func13, Try.ntmps13
      go_wp2_with fail
      go_loopw [15] (fun i wr => ∃ j : Nat, j ≤ L.length ∧ i = .int .i64 j ∧ Hid (L.all okD = (L.drop j).all okD) ∧ Hid (Below w.heap.size w wr)) (fun i _ => L.length + 1 - (intOf i).toNat)
      case atStart => exact ⟨0, by omega, rfl, Lib.hid rfl, Lib.hid (Below.refl _ _)⟩
      case round =>
        obtain ⟨j, hj, rfl, hy, hb⟩ := hrel
        by_cases hlt : j < L.length
        · obtain ⟨d, hd⟩ : ∃ d, L[j]? = some d := ⟨_, List.getElem?_eq_getElem hlt⟩
          obtain ⟨ad, p, hA, hz, hp, hpb, p0, p1, p2⟩ := (HO.out.below hb.out).place hd
          subst hA
          clear hz hpb
          have hld := load_op p0 p1 p2
          have HD := Lib.hid (all_drop hd)
          have HV := Lib.hid (valid_any d.ka d.va d.kc d.vc d.key.length d.val.length d.kind)
          clear hd
          go_wp2_with fail
          refine (HV.out _).mono ?_; rintro e W1 ⟨rfl, hb1⟩
          have HB1 := Lib.hid ((hb.out.alloc hb.out.size _).trans (hb1.mono (by simp; have := hb.out.size; omega)))
          clear hb1
          cases hv : okO d.kind d.key.length d.val.length
          · have E1 := Lib.hid (show L.all okD = false by rw [hy.out, HD.out, okD, hv]; rfl)
            clear hv
            go_wp2_with fail
            go_ret
            exact ⟨by rw [E0.out, E1.out]; rfl, HB1.out⟩
          · have E1 := Lib.hid (show L.all okD = (L.drop (j + 1)).all okD by rw [hy.out, HD.out, okD, hv]; rfl)
            clear hv
            go_wp2_with fail
            go_roundw
            case rel => exact ⟨j + 1, by omega, by go_num, E1, HB1⟩
            case measure => simp [intOf]; omega
        · obtain rfl : j = L.length := by omega
          have E1 := Lib.hid (show L.all okD = true by rw [hy.out]; simp)
          go_wp2_with fail
          go_ret
          exact ⟨by rw [E0.out, E1.out]; rfl, hb.out⟩

set_option maxRecDepth 100000 in
set_option maxHeartbeats 400000 in
theorem rcheck_any (A : Option Addr) (c : Nat) (L : List D) (w : World) (h : Ops w w.heap.size A c L) :
    Calls Try.prog 14 #[.slice A L.length c] w fun e w' => e = .returned (.int .i64 (chk L : Nat)) ∧ Below w.heap.size w w' := by
  have HO := Lib.hid h
  have hc := h.len
  have hm := h.cap
  unfold maxLen at hm
  clear h
  by_cases n0 : L.length = 0
  · have e : chk L = 3 := by unfold chk; rw [if_pos (.inl n0)]
    rw [e, n0]
    clear e
    go_enter Try.func14, Try.ntmps14
    go_wp2_with fail
    go_ret
    exact ⟨rfl, Below.refl _ _⟩
  · have dn0 : ((L.length : Int) == 0) = false := by rw [beq_eq_false_iff_ne]; omega
    have dn1 : decide ((L.length : Int) < 1) = false := by simp; omega
    by_cases n1 : 100 < L.length
    · have dn2 : decide ((100 : Int) < (L.length : Int)) = true := by simp; omega
      have e : chk L = 3 := by unfold chk; rw [if_pos (.inr n1)]
      rw [e]
      clear e
      go_enter Try.func14, Try.ntmps14
      go_wp2_with fail
      go_ret
      exact ⟨rfl, Below.refl _ _⟩
    · have dn2 : decide ((100 : Int) < (L.length : Int)) = false := by simp; omega
      have e0 : chk L = if L.all okD = true then 0 else 1 := by unfold chk; rw [if_neg (by omega)]
      have E0 := Lib.hid e0
      clear e0
      go_enter Try.func14, Try.ntmps14
      go_wp2_with fail
      go_loopw [3] (fun i wr => ∃ j : Nat, j ≤ L.length ∧ i = .int .i64 j ∧ Hid (L.all okD = (L.drop j).all okD) ∧ Hid (Below w.heap.size w wr)) (fun i _ => L.length + 1 - (intOf i).toNat)
      case atStart => exact ⟨0, by omega, rfl, Lib.hid rfl, Lib.hid (Below.refl _ _)⟩
      case round =>
        obtain ⟨j, hj, rfl, hy, hb⟩ := hrel
        by_cases hlt : j < L.length
        · obtain ⟨d, hd⟩ : ∃ d, L[j]? = some d := ⟨_, List.getElem?_eq_getElem hlt⟩
          obtain ⟨ad, p, hA, hz, hp, hpb, p0, p1, p2⟩ := (HO.out.below hb.out).place hd
          subst hA
          clear hz hpb
          have hld := load_op p0 p1 p2
          have HD := Lib.hid (all_drop hd)
          have HV := Lib.hid (rvalid_any d.ka d.va d.kc d.vc d.key.length d.val.length d.kind)
          clear hd
          go_wp2_with fail
          refine (HV.out _).mono ?_; rintro e W1 ⟨rfl, hb1⟩
          have HB1 := Lib.hid (hb.out.trans (hb1.mono hb.out.size))
          clear hb1
          cases hv : okO d.kind d.key.length d.val.length
          · have E1 := Lib.hid (show L.all okD = false by rw [hy.out, HD.out, okD, hv]; rfl)
            clear hv
            go_wp2_with fail
            go_ret
            exact ⟨by rw [E0.out, E1.out]; rfl, HB1.out⟩
          · have E1 := Lib.hid (show L.all okD = (L.drop (j + 1)).all okD by rw [hy.out, HD.out, okD, hv]; rfl)
            clear hv
            go_wp2_with fail
            go_roundw
            case rel => exact ⟨j + 1, by omega, by go_num, E1, HB1⟩
            case measure => simp [intOf]; omega
        · obtain rfl : j = L.length := by omega
          have E1 := Lib.hid (show L.all okD = true by rw [hy.out]; simp)
          go_wp2_with fail
          go_ret
          exact ⟨by rw [E0.out, E1.out]; rfl, hb.out⟩
end Go.Proofs.Ytggliedlfccicaa.Bt
