/- What Fail of package disk answers. -/
import Derived.Test.YtnbknihaefkllaaDdcrash
namespace Go.Proofs.Ytnbknihaefkllaa.Dk
set_option linter.unusedVariables false
set_option linter.unusedSimpArgs false
open Go.RowKit Go.Maps Lift Ik

/-- What slices.Clone answers at whole numbers. -/
theorem iclone_some (ad : Addr) (c : Nat) (xs : List Int) (w : World) (hl : Lies w w.heap.size (some ad) (xs.map (Value.int .i64))) (hm : xs.length ≤ 1000000000) :
    Calls Try.prog 47 #[.slice (some ad) xs.length c] w fun e w' => ∃ v, e = .returned v ∧ w'.ownsRow w.heap.size 3 1 v xs.length (xs.map (Value.int .i64)) ∧ Below w.heap.size w w' := by
  have HL := Lib.hid hl
  have q22 : ∀ W : World, Sem.run Try.prog (binOp .eql 33 (.slice (some ad) xs.length c) (.slice none 0 0)) W = .ok (.bool false) W := fun W => Lib.run_eql_slice_nil W _ _ (some ad) xs.length c 0 0 Try.underlying33
  clear hl
  have hb0 := Joins.below_alloc1 w (.cells #[] 3)
  have hown : (w.alloc (.cells #[] 3)).ownsRow w.heap.size 3 1 (.slice (some ⟨w.heap.size, 0, none⟩) 0 0) 0 [] :=
    ⟨rfl, .inr ⟨w.heap.size, 0, #[], rfl, Nat.le_refl _, heap_alloc_new w _, Nat.le_refl _, by decide, rfl, rfl⟩⟩
  obtain ⟨v2, W2, hr2, hown2, hb2, hs2⟩ := run_append_lies (P := Try.prog) (m := xs.length) (c := c) 33 33 3 (.int .i64 0) 1 8 Try.underlying33 (by kernel_rfl) rfl (by decide)
      (fun u hu => by simp at hu; obtain ⟨_, _, rfl⟩ := hu; rfl) hown (HL.out.below hb0) (by simp) (by unfold maxLen; omega) (by omega) hb0.size
  rw [Nat.zero_add, List.nil_append] at hown2
  have HO := Lib.hid hown2
  have HB := Lib.hid (hb0.trans hb2)
  have HR := Lib.hid hr2
  clear hown hown2 hb0 hb2 hr2
  go_enter Try.func47, Try.ntmps47
  go_wp2_with (at_builtin; refine wpList_append_run rfl _ _ 33 rfl rfl rfl HR.out ?_)
  go_ret
  exact ⟨_, rfl, HO.out, HB.out⟩
theorem iclone_nil (w : World) : Calls Try.prog 47 #[.slice none 0 0] w fun e w' => e = .returned (.slice none 0 0) ∧ w = w' := by
  have q22 : ∀ W : World, Sem.run Try.prog (binOp .eql 33 (.slice none 0 0) (.slice none 0 0)) W = .ok (.bool true) W := fun W => Lib.run_eql_slice_nil W _ _ none 0 0 0 0 Try.underlying33
  go_enter Try.func47, Try.ntmps47
  go_wp2_with fail
  go_ret
  exact ⟨rfl, rfl⟩
theorem iclone_at (A : Option Addr) (c : Nat) (xs : List Int) (w : World) (hl : Lies w w.heap.size A (xs.map (Value.int .i64))) (hm : xs.length ≤ 1000000000) (h0 : A = none → xs.length = 0 ∧ c = 0) :
    Calls Try.prog 47 #[.slice A xs.length c] w fun e w' => ∃ v, e = .returned v ∧ w'.ownsRow w.heap.size 3 1 v xs.length (xs.map (Value.int .i64)) ∧ Below w.heap.size w w' := by
  rcases A with _ | ad
  · obtain ⟨h1, rfl⟩ := h0 rfl
    rw [List.eq_nil_of_length_eq_zero h1]
    refine (iclone_nil w).mono ?_
    rintro e w' ⟨rfl, rfl⟩
    exact ⟨_, rfl, World.ownsRow_nil _ _ _ _, Below.refl _ _⟩
  · exact iclone_some ad c xs w hl hm

section
variable {w w' : World} {g : Nat} {S S' T : Nat → Prop} {m : MS} {fs : List Fi} {M : Option Nat} {A : Option Addr} {c : Nat}
set_option maxHeartbeats 400000 in
theorem fail_any (A0 : Option Addr) (c0 : Nat) (l : List Int) (h : At w g S m) (hl : Lies w w.heap.size A0 (l.map (Value.int .i64))) (hm : l.length ≤ 1000000000) (h0 : A0 = none → l.length = 0 ∧ c0 = 0) (hw : ∀ x, x ∈ l → (Lit.int .i64 x).wf = true) :
    Calls Try.prog (25) #[.pointer (some ⟨g, 0, none⟩), .slice A0 l.length c0] w (Done w g S { m with armed := l }) := by
  obtain ⟨fs, M, A, c, h⟩ := h
  have H := Lib.hid h
  have HC := Lib.hid (iclone_at A0 c0 l w hl hm h0)
  have HW := Lib.hid hw
  clear h hl hw h0
  go_enter Try.func25, Try.ntmps25
  go_wp2_with fail
  refine HC.out.mono ?_
  rintro e W1 ⟨v, rfl, hown, hb⟩
  have hp := hown
  obtain ⟨A1, c1, rfl, hc1, hm1, _⟩ := own_parts hp
  have hbx := H.out.box.below hb (H.out.lt g H.out.sg)
  have q3 := hbx.cell 3
  have z3 := hbx.free 3
  simp only [List.getElem?_cons_succ, List.getElem?_cons_zero] at q3
  have HO := Lib.hid hown
  have HB := Lib.hid hb
  have HX := Lib.hid hbx
  have HC1 := Lib.hid hc1
  have HM1 := Lib.hid hm1
  clear hown hb hbx hp hc1 hm1 HC
  go_wp2_with fail
  go_end0
  have hk : Keep (· = g) w (W1.setCell ⟨g, 3, none⟩ (.slice A1 l.length c1)) := (below_keep (S := (· = g)) HB.out).setCell (p := ⟨g, 3, none⟩) (.inr rfl) _
  have hsz : (W1.setCell ⟨g, 3, none⟩ (.slice A1 l.length c1)).heap.size = W1.heap.size := by simp [World.setCell]
  have hlt : ∀ k, Gr S w W1 k → k < W1.heap.size := fun k hk => hk.elim (fun h => Nat.lt_of_lt_of_le (H.out.lt k h) HB.out.size) fun h => h.2
  refine ⟨Gr S w W1, rfl, ?_, hk.mono fun k hk => by rw [hk]; exact H.out.sg, fun k hk => hk.imp id fun h => h.1⟩
  have ha : Armed (W1.setCell ⟨g, 3, none⟩ (.slice A1 l.length c1)) (Gr S w W1) A1 l := by
    refine (LiesP.of_own HO.out).later (fun k hk => ?_) fun k hk => ?_
    · exact Below.heap_setCell _ _ _ _ (fun e => by
        have := H.out.lt g H.out.sg
        have e' : k = g := e
        omega)
    · obtain ⟨h1, h2, cs, fr, h3⟩ := hk
      refine ⟨.inr ⟨h1, h2⟩, cs, fr, (Below.heap_setCell _ _ _ _ (fun e => by
        have := H.out.lt g H.out.sg
        have e' : k = g := e
        omega)).trans h3⟩
  exact ⟨fs, M, A1, c1, HX.out.set 3 _, .inl H.out.sg, H.out.files.keep hk (off_box H.out.box) (fun k hk => .inl hk), H.out.told, ha, HC1.out, HM1.out, HW.out, fun k hk => by rw [hsz]; exact hlt k hk, H.out.room, H.out.fits, H.out.many⟩
end
end Go.Proofs.Ytnbknihaefkllaa.Dk
