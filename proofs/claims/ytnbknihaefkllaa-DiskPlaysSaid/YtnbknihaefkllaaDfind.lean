/- The armed failures; what every call with names does first; where a file lies. -/
import Derived.Test.YtnbknihaefkllaaDname
namespace Go.Proofs.Ytnbknihaefkllaa.Dk
set_option linter.unusedVariables false
set_option linter.unusedSimpArgs false
open Go.RowKit Go.Maps Lift Ik

/-- Does this call fail? And the disk then. -/
def hit (m : MS) : Bool × MS :=
  match m.armed with
  | [] => (false, m)
  | x :: r => if x = 0 then (false, { m with armed := r }) else (true, { m with armed := r, failed := m.failed + 1 })
theorem hit_nil {m : MS} (h : m.armed = []) : hit m = (false, m) := by unfold hit; rw [h]
theorem hit_zero {m : MS} {r : List Int} (h : m.armed = 0 :: r) : hit m = (false, { m with armed := r }) := by unfold hit; rw [h]; simp
theorem hit_more {m : MS} {x : Int} {r : List Int} (h : m.armed = x :: r) (hx : x ≠ 0) : hit m = (true, { m with armed := r, failed := m.failed + 1 }) := by unfold hit; rw [h]; simp [hx]
theorem hit_fs (m : MS) : (hit m).2.fs = m.fs ∧ (hit m).2.room = m.room := by unfold hit; split <;> (try split) <;> simp
theorem hit_failed (m : MS) : (hit m).2.failed ≤ m.failed + 1 := by unfold hit; split <;> (try split) <;> simp

section
variable {w w' : World} {g : Nat} {S S' T : Nat → Prop} {m : MS} {fs : List Fi} {M : Option Nat} {A : Option Addr} {c : Nat}
/-- The struct's last two cells are written. -/
theorem Lay.turn (h : Lay w g S m fs M A c) (hk : Keep (· = g) w w') (l : List Int) (n c' : Nat) (A' : Option Addr)
    (hb : Box w' g Ty.disk [.int .i64 (m.room : Int), .int .i64 (used m.fs : Int), .map M, .slice A' l.length c', .int .i64 (n : Int)]) (ha : Armed w' S A' l) (hc : l.length ≤ c') (hm : c' ≤ maxLen) (hw : ∀ x, x ∈ l → (Lit.int .i64 x).wf = true) :
    Lay w' g S { m with armed := l, failed := n } fs M A' c' :=
  ⟨hb, h.sg, h.files.keep hk (off_box h.box) fun _ => id, h.told, ha, hc, hm, hw, fun k hs => Nat.lt_of_lt_of_le (h.lt k hs) hk.size, h.room, h.fits, h.many⟩
theorem Lay.drew (h : Lay w g S m fs M A c) (n : Nat) : Lay (w.drewN n) g S m fs M A c := h.keep (T := fun _ => False) (below_keep (Joins.below_draws w.heap.size w n)) fun _ _ => id
end
theorem tail_at (A : Option Addr) (n c : Nat) (h : 1 ≤ n) (hc : n ≤ c) (hm : c ≤ maxLen) :
    ∃ A', (1 < n → A' = A.map (·.add 1)) ∧ ∀ W : World, Sem.run Try.prog (Instr.slice 33 (.slice A n c) (some (.int .i64 1)) none none) W = .ok (.slice A' (n - 1) (c - 1)) W := by
  unfold maxLen at hm
  by_cases hcp : c = 1
  · refine ⟨A, fun h0 => by omega, fun W => ?_⟩
    obtain rfl : n = 1 := by omega
    subst hcp
    go_simp
  · refine ⟨A.map (·.add 1), fun _ => rfl, fun W => ?_⟩
    go_simp
    intro h1
    omega

set_option maxRecDepth 100000 in
set_option maxHeartbeats 400000 in
theorem fails_any (g : Nat) (S : Nat → Prop) (m : MS) (fs : List Fi) (M : Option Nat) (A : Option Addr) (c : Nat) (w : World) (h : Lay w g S m fs M A c) (hf : m.failed ≤ 1000000) :
    Calls Try.prog (39) #[.pointer (some ⟨g, 0, none⟩)] w fun e w' => ∃ A' c', e = .returned (.bool (hit m).1) ∧ Keep (· = g) w w' ∧ Lay w' g S (hit m).2 fs M A' c' := by
  obtain ⟨c0, c1, c2, c3, c4, f1, f2, f3, f4⟩ := h.facts
  have hcap := h.cap
  have hcm := h.capm
  unfold maxLen at hcm
  have H := Lib.hid h
  rcases hr : m.armed with _ | ⟨x, r⟩
  · rw [hr] at c3
    have E := Lib.hid (hit_nil hr)
    clear h hr hcap
    rw [List.length_nil] at c3
    go_enter Try.func39, Try.ntmps39
    go_wp2_with fail
    go_ret
    rw [E.out]
    exact ⟨A, c, rfl, Keep.refl _ _, H.out⟩
  · obtain ⟨ad, rfl, hin, hcell⟩ : ∃ ad, A = some ad ∧ (S ad.block ∧ ∃ cs fr, w.heap[ad.block]? = some (.cells cs 3 fr)) ∧ ∀ j u, ((x :: r).map (Value.int .i64))[j]? = some u → w.cell? (ad.add j) = some u := by
      have ha := h.armed
      rw [hr] at ha
      rcases ha with h0 | h0
      · simp at h0
      · exact h0
    rw [hr] at c3 hcap
    rw [List.length_cons] at c3 hcap
    obtain ⟨A', hA', hs⟩ := tail_at (some ad) (r.length + 1) c (by omega) hcap h.capm
    rw [show r.length + 1 - 1 = r.length from rfl] at hs
    have x0 : w.cell? ad = some (.int .i64 x) := hcell 0 _ rfl
    -- the armed ones that are left
    have harm : ∀ w', Keep (· = g) w w' → Armed w' S A' r := by
      intro w' hk
      obtain ⟨hS, cs, fr, hh⟩ := hin
      have hne : ad.block ≠ g := fun e => by
        have hb := h.box
        unfold Box at hb
        rw [e, hb] at hh
        injection hh with hh
        injection hh with _ hh _
        exact absurd hh (by decide)
      have hblk : w'.heap[ad.block]? = w.heap[ad.block]? := hk.block _ (Array.getElem?_eq_some_iff.1 hh).1 hne
      by_cases h1 : r = []
      · subst h1; exact .inl rfl
      · have hl : 1 < r.length + 1 := by have := List.length_pos_iff.2 h1; omega
        refine .inr ⟨ad.add 1, by rw [hA' hl]; rfl, ⟨by rw [add_block]; exact hS, cs, fr, by rw [add_block]; exact hblk.trans hh⟩, fun j u hj => ?_⟩
        rw [add_add]
        exact (World.cell?_of_block (w := w) (by rw [add_block]; exact hblk)).trans (hcell (1 + j) u (by rw [Nat.add_comm]; exact hj))
    have hwf : ∀ y, y ∈ r → (Lit.int .i64 y).wf = true := fun y hy => h.wf y (by rw [hr]; simp [hy])
    have HM := Lib.hid harm
    have HW := Lib.hid hwf
    have R := Lib.hid hr
    by_cases hx : x = 0
    · subst hx
      have E := Lib.hid (hit_zero hr)
      clear h hr harm hwf hin hA'
      go_enter Try.func39, Try.ntmps39
      go_wp2_with fail
      go_ret
      rw [E.out]
      have hk := (Keep.refl (· = g) w).setCell (p := ⟨g, 3, none⟩) (.inr rfl) (.slice A' r.length (c - 1))
      exact ⟨A', c - 1, rfl, hk, H.out.turn hk r m.failed (c - 1) A' (H.out.box.set 3 _) (HM.out _ hk) (by omega) (by unfold maxLen; omega) HW.out⟩
    · have E := Lib.hid (hit_more hr hx)
      have d1 : (x == 0) = false := by rw [beq_eq_false_iff_ne]; exact hx
      clear h hr harm hwf hin hA' hx
      go_enter Try.func39, Try.ntmps39
      go_wp2_with fail
      go_ret
      rw [E.out]
      have hk := ((Keep.refl (· = g) w).setCell (p := ⟨g, 3, none⟩) (.inr rfl) (.slice A' r.length (c - 1))).setCell (p := ⟨g, 4, none⟩) (.inr rfl) (.int .i64 ((m.failed : Int) + 1))
      exact ⟨A', c - 1, rfl, hk, H.out.turn hk r (m.failed + 1) (c - 1) A' ((H.out.box.set 3 _).set 4 _) (HM.out _ hk) (by omega) (by unfold maxLen; omega) HW.out⟩
end Go.Proofs.Ytnbknihaefkllaa.Dk
