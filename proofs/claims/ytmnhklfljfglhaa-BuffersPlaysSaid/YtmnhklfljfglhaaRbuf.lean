/- The document's own buffers: how they lie in memory, and what each call answers. -/
import Derived.Test.YtmnhklfljfglhaaBlaw
import Derived.StillTailTactics
namespace Go.Proofs.Ytmnhklfljfglhaa.Bu
set_option linter.unusedVariables false
set_option linter.unusedSimpArgs false
open Go.RowKit Lift Ik
abbrev Ty.rbufs : TypeId := 84
structure RL (w : World) (g : Nat) (S : Nat → Prop) (bu mo : Nat) (fs : List Nat) (ac : Nat) (p c : Nat) : Prop where
  box : Lift.Box w g Ty.rbufs [vi bu, vi mo, .slice (some ⟨p, 0, none⟩) (fs.length + 1) c]
  own : w.ownsRow 0 3 1 (.slice (some ⟨p, 0, none⟩) (fs.length + 1) c) (fs.length + 1) ((fs ++ [ac]).map vi)
  sg : S g
  sp : S p
  lt : ∀ k, S k → k < w.heap.size
  ok : Ok bu mo fs ac
def RB (w : World) (g : Nat) (S : Nat → Prop) (bu mo : Nat) (fs : List Nat) (ac : Nat) : Prop := ∃ p c, RL w g S bu mo fs ac p c
section
variable {w w' : World} {g bu mo ac p c : Nat} {S : Nat → Prop} {fs : List Nat}
theorem RL.same (h : RL w g S bu mo fs ac p c) (hk : ∀ k, S k → w'.heap[k]? = w.heap[k]?) (hs : w.heap.size ≤ w'.heap.size) : RL w' g S bu mo fs ac p c := by
  refine ⟨h.box.at_block (hk g h.sg), ⟨h.own.1, ?_⟩, h.sg, h.sp, fun k h1 => Nat.lt_of_lt_of_le (h.lt k h1) hs, h.ok⟩
  rcases h.own.2 with ⟨h0, _⟩ | ⟨g', cap, cur, hv, hB, hh, r⟩
  · cases h0
  · refine .inr ⟨g', cap, cur, hv, hB, ?_, r⟩
    injection hv with hv
    injection hv with hv
    injection hv with hv
    subst hv
    exact (hk p h.sp).trans hh
theorem RB.same (h : RB w g S bu mo fs ac) (hk : ∀ k, S k → w'.heap[k]? = w.heap[k]?) (hs : w.heap.size ≤ w'.heap.size) : RB w' g S bu mo fs ac := by
  obtain ⟨p, c, h⟩ := h
  exact ⟨p, c, h.same hk hs⟩
theorem RB.lt (h : RB w g S bu mo fs ac) (k : Nat) (hk : S k) : k < w.heap.size := by
  obtain ⟨p, c, h⟩ := h
  exact h.lt k hk
theorem RB.ok (h : RB w g S bu mo fs ac) : Ok bu mo fs ac := by
  obtain ⟨p, c, h⟩ := h
  exact h.ok
theorem RB.below (h : RB w g S bu mo fs ac) (hb : Below w.heap.size w w') : RB w' g S bu mo fs ac := h.same (fun k hk => hb.block k (h.lt k hk)) hb.size
theorem RB.keep {X : Nat → Prop} (h : RB w g S bu mo fs ac) (hk : Keep X w w') (hX : ∀ k, S k → ¬ X k) : RB w' g S bu mo fs ac := h.same (fun k hs => hk.block k (h.lt k hs) (hX k hs)) hk.size
theorem RL.apart (h : RL w g S bu mo fs ac p c) : p ≠ g := fun e => own_apart h.own h.box (by decide) (by rw [e]; rfl)
theorem RL.facts (h : RL w g S bu mo fs ac p c) : w.cell? ⟨g, 0, none⟩ = some (.int .i64 (bu : Int)) ∧ w.cell? ⟨g, 1, none⟩ = some (.int .i64 (mo : Int)) ∧ w.cell? ⟨g, 2, none⟩ = some (.slice (some ⟨p, 0, none⟩) (fs.length + 1) c) ∧ w.cell? ⟨p, fs.length, none⟩ = some (.int .i64 (ac : Int)) :=
  ⟨h.box.cell 0, h.box.cell 1, h.box.cell 2, by
    rw [World.ownsRow.cellAt h.own fs.length (by omega), List.map_append, List.getElem?_append_right (by simp)]
    simp⟩
theorem RL.lies (h : RL w g S bu mo fs ac p c) : LiesP w (fun k => S k ∧ k ≠ g) (some ⟨p, 0, none⟩) ((fs ++ [ac]).map vi) :=
  .inr ⟨_, rfl, ⟨h.sp, h.apart⟩, h.own.cells (g := p) rfl⟩
theorem RL.cap (h : RL w g S bu mo fs ac p c) : fs.length + 1 ≤ c ∧ c ≤ maxLen := by
  obtain ⟨_, _, hv, h1, h2, _⟩ := own_parts h.own
  injection hv with _ _ hv
  subst hv
  exact ⟨h1, h2⟩
theorem rbetween_any (n : Int) (m : Nat) (hm : 1 ≤ m ∧ m ≤ 1073741824) (w : World) : Calls Try.prog 61 #[.int .i64 n, .int .i64 1, .int .i64 (m : Int)] w fun e w' => e = .returned (vi (lim n m)) ∧ w = w' := by
  go_enter Try.func61, Try.ntmps61
  by_cases h1 : n < 1
  · have d1 : decide (n < 1) = true := decide_eq_true h1
    have E : Hid (((lim n m : Nat) : Int) = 1) := Lib.hid (by unfold lim; omega)
    go_wp2_with fail
    go_ret
    exact ⟨by show _ = Ending.returned (.int .i64 ((lim n m : Nat) : Int)); rw [E.out]; rfl, rfl⟩
  · have d1 : decide (n < 1) = false := decide_eq_false h1
    by_cases h2 : (m : Int) < n
    · have d2 : decide ((m : Int) < n) = true := decide_eq_true h2
      have E : Hid (((lim n m : Nat) : Int) = m) := Lib.hid (by unfold lim; omega)
      go_wp2_with fail
      go_ret
      exact ⟨by show _ = Ending.returned (.int .i64 ((lim n m : Nat) : Int)); rw [E.out]; rfl, rfl⟩
    · have d2 : decide ((m : Int) < n) = false := decide_eq_false h2
      have E : Hid (((lim n m : Nat) : Int) = n) := Lib.hid (by unfold lim; omega)
      go_wp2_with fail
      go_ret
      exact ⟨by show _ = Ending.returned (.int .i64 ((lim n m : Nat) : Int)); rw [E.out]; rfl, rfl⟩
theorem rnew_any (b m : Int) (w : World) :
    Calls Try.prog 23 #[.int .i64 b, .int .i64 m] w fun e w' => ∃ g, e = .returned (.pointer (some ⟨g, 0, none⟩)) ∧ RB w' g (fun k => w.heap.size ≤ k ∧ k < w'.heap.size) (lim b 1073741824) (lim m 100) [] 0 ∧ Below w.heap.size w w' := by
  have H1 := Lib.hid (rbetween_any b 1073741824 (by decide))
  have H2 := Lib.hid (rbetween_any m 100 (by decide))
  have l1 := lim_le b 1073741824 (by decide)
  have l2 := lim_le m 100 (by decide)
  obtain ⟨x, hx⟩ : ∃ x, x = lim b 1073741824 := ⟨_, rfl⟩
  obtain ⟨y, hy⟩ : ∃ y, y = lim m 100 := ⟨_, rfl⟩
  rw [← hx] at l1 H1 ⊢
  rw [← hy] at l2 H2 ⊢
  have HB := Lib.hid l1
  have HM := Lib.hid l2
  clear hx hy l1 l2
  go_enter Try.func23, Try.ntmps23
  go_wp2_with fail
  refine (show Calls Try.prog 61 #[.int .i64 b, .int .i64 1, .int .i64 1073741824] w _ from H1.out w).mono ?_
  rintro e w' ⟨rfl, rfl⟩
  go_wp2_with fail
  refine (show Calls Try.prog 61 #[.int .i64 m, .int .i64 1, .int .i64 100] w _ from H2.out w).mono ?_
  rintro e w' ⟨rfl, rfl⟩
  go_wp2_with fail
  go_ret
  have s1 : (w.alloc (.cells #[.int .i64 0] 3)).heap.size = w.heap.size + 1 := by simp
  refine ⟨_, rfl, ⟨w.heap.size, 1, ?_, ?_, ⟨by simp, by simp⟩, ⟨Nat.le_refl _, by simp; omega⟩, fun k hk => hk.2, HB.out.1, HB.out.2, HM.out.1, HM.out.2, Nat.zero_le _, by simp, Nat.zero_le _⟩, Joins.below_alloc2 _ _ _⟩
  · have := Lift.Box.new (w.alloc (.cells #[.int .i64 0] 3)) Ty.rbufs [vi x, vi y, .slice (some ⟨w.heap.size, 0, none⟩) 1 1]
    rw [s1] at this
    exact this
  · refine ⟨rfl, .inr ⟨w.heap.size, 1, #[.int .i64 0], rfl, Nat.zero_le _, ?_, Nat.le_refl _, by decide, rfl, rfl⟩⟩
    exact (Below.heap_alloc _ _ _ (by simp)).trans (heap_alloc_new w _)
set_option maxHeartbeats 400000 in
theorem rover_any (n : Nat) (h : RB w g S bu mo fs ac) (hn : n ≤ bu) :
    Calls Try.prog (65) #[.pointer (some ⟨g, 0, none⟩), .int .i64 (n : Int)] w fun e w' => e = .returned (.bool (over bu ac n)) ∧ ∃ m, w' = w.drewN m := by
  obtain ⟨p, c, h⟩ := h
  obtain ⟨-, hb2, -, hm2, hlen, -, hact⟩ := h.ok
  have h2 := h.same (w' := w) (fun _ _ => rfl) (Nat.le_refl _)
  obtain ⟨f0, f1, f2, f3⟩ := h.facts
  have l0 : (0 : Int) ≤ (fs.length : Int) := by omega
  have l1 : (fs.length : Int) < (fs.length : Int) + 1 := by omega
  have HL := Lib.hid h
  clear h h2
  go_enter (Try.func65), (Try.ntmps65)
  go_wp2_with fail
  go_quiet (fail)
  by_cases h0 : 0 < ac
  · have g0 : decide (0 < ac) = true := decide_eq_true h0
    have E : Hid (over bu ac n = decide ((bu : Int) < (ac : Int) + (n : Int))) := Lib.hid (by unfold over; rw [decide_eq_decide]; omega)
    clear h0
    go_wp2_with fail
    go_ret
    exact ⟨by rw [E.out]; rfl, _, rfl⟩
  · have g0 : decide (0 < ac) = false := decide_eq_false h0
    have E : Hid (over bu ac n = false) := Lib.hid (by unfold over; exact decide_eq_false (by omega))
    clear h0
    go_wp2_with fail
    go_ret
    exact ⟨by rw [E.out]; rfl, _, rfl⟩
set_option maxHeartbeats 800000 in
theorem rask_nat (k : Nat) (hk63 : (k : Int) ≤ 9223372036854775807) (h : RB w g S bu mo fs ac) :
    Calls Try.prog (26) #[.pointer (some ⟨g, 0, none⟩), .int .i64 (k : Int)] w fun e w' => e = .returned (vi (ask bu mo fs.length ac k)) ∧ ∃ m, w' = w.drewN m := by
  obtain ⟨p, c, hl⟩ := id h
  obtain ⟨-, hb2, -, hm2, hlen, -, hact⟩ := hl.ok
  obtain ⟨f0, f1, f2, f3⟩ := hl.facts
  have H := Lib.hid h
  have z0 : decide ((k : Int) < 0) = false := decide_eq_false (by omega)
  clear h hl
  go_enter (Try.func26), (Try.ntmps26)
  by_cases hk2 : bu < k
  · have d1 : decide (bu < k) = true := decide_eq_true hk2
    have d2 : (bu : Int) < (k : Int) := by omega
    have F := Lib.hid (ask_two (mo := mo) (k := fs.length) (ac := ac) hk2)
    clear hk2
    go_wp2_with fail
    go_ret
    exact ⟨by rw [F.out]; rfl, 0, rfl⟩
  · have d1 : decide (bu < k) = false := decide_eq_false hk2
    have HK := Lib.hid hk2
    have HO : Hid (∀ m, Calls Try.prog (65) #[.pointer (some ⟨g, 0, none⟩), .int .i64 (k : Int)] (w.drewN m) fun e w' => e = .returned (.bool (over bu ac k)) ∧ ∃ m', w' = (w.drewN m).drewN m') := Lib.hid fun m => rover_any k (H.out.below (Joins.below_draws _ _ m)) (by omega)
    clear hk2
    rcases ho : over bu ac k
    · have F := Lib.hid (ask_zero (mo := mo) (k := fs.length) (ac := ac) HK.out (.inl ho))
      rw [ho] at HO
      clear ho
      go_wp2_with fail
      go_quiet (first | (go_at_call 65; refine Calls.quiet_of (HO.out _)))
      go_wp2_with fail
      go_ret
      exact ⟨by rw [F.out]; rfl, _, rfl⟩
    · rw [ho] at HO
      by_cases hc : mo ≤ fs.length
      · have F := Lib.hid (ask_one HK.out ho hc)
        have d3 : decide (mo ≤ fs.length) = true := decide_eq_true hc
        clear ho hc
        go_wp2_with fail
        go_quiet (first | (go_at_call 65; refine Calls.quiet_of (HO.out _)))
        go_wp2_with fail
        go_ret
        exact ⟨by rw [F.out]; rfl, _, rfl⟩
      · have F := Lib.hid (ask_zero (ac := ac) HK.out (.inr hc))
        have d3 : decide (mo ≤ fs.length) = false := decide_eq_false hc
        clear ho hc
        go_wp2_with fail
        go_quiet (first | (go_at_call 65; refine Calls.quiet_of (HO.out _)))
        go_wp2_with fail
        go_ret
        exact ⟨by rw [F.out]; rfl, _, rfl⟩
end
end Go.Proofs.Ytmnhklfljfglhaa.Bu
