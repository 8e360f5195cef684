/- A copy of an entry whose value can be written; three lists beside each other, and blocks that none of them has. -/
import Derived.Test.YtmnhklfljfglhaaSsame
namespace Go.Proofs.Ytmnhklfljfglhaa.Sk
set_option linter.unusedVariables false
set_option linter.unusedSimpArgs false
open Go.RowKit Lift Ik
/-- A copy: its value lies in a row of its own. -/
def CopO (w : World) (t : T) (e : Ending) (w' : World) : Prop := ∃ d' : D, e = .returned d'.v ∧ d'.t = t ∧ d'.Ok w' (Fresh w.heap.size w') ∧ Below w.heap.size w w' ∧ w'.ownsRow w.heap.size 5 1 (.slice d'.va d'.val.length d'.vc) d'.val.length (d'.val.map vb)
set_option maxRecDepth 100000 in
set_option maxHeartbeats 1600000 in
theorem copy_own (d : D) (w : World) (h : d.Ok w (· < w.heap.size)) (hs : small d) : Calls Try.prog 11 #[d.v] w (CopO w d.t) := by
  obtain ⟨x0, z0, b0, s0⟩ := two_boxes w d
  have H := Lib.hid h
  have HS := Lib.hid hs
  obtain ⟨W0, hW0⟩ : ∃ W0, W0 = (w.alloc (ebox d)).alloc zbox := ⟨_, rfl⟩
  rw [← hW0] at x0 z0 b0 s0
  obtain ⟨c0, c1, c2, c3, f0, f1, f2, f3⟩ := x0.facts
  have X0 := Lib.hid x0
  have Z0 := Lib.hid z0
  have B0 := Lib.hid b0
  have S0 := Lib.hid s0
  have h1 := H.out.next b0
  clear x0 z0 b0 s0 h hs
  obtain ⟨A1, e1, W1, hr1, ho1, hb1⟩ := fresh_bytes d.ka d.kc W0.heap.size d.k.key W0 (h1.kl.lies fun k hk => hk) (by have := HS.out.1; omega)
  clear h1
  subst hW0
  have HR1 := Lib.hid hr1
  clear hr1
  have x1 : Bx W1 w.heap.size d := X0.out.below hb1 (by rw [S0.out]; omega)
  have z1 : Bx W1 (w.heap.size + 1) dz := Z0.out.below hb1 (by rw [S0.out]; omega)
  have B1 := Lib.hid (B0.out.trans (hb1.mono B0.out.size))
  have HO1 := Lib.hid ho1
  have HB1 := Lib.hid hb1
  clear c0 c1 c2 c3 f0 f1 f2 f3 ho1 hb1
  obtain ⟨c0, c1, c2, c3, f0, f1, f2, f3⟩ := x1.facts
  have X1 := Lib.hid x1
  have Z1 := Lib.hid z1
  clear x1 z1
  have x2 : Bx (W1.setCell ⟨w.heap.size, 0, none⟩ (.slice A1 d.k.key.length e1)) w.heap.size { d with ka := A1, kc := e1 } := X1.out.set 0 _
  have z2 : Bx (W1.setCell ⟨w.heap.size, 0, none⟩ (.slice A1 d.k.key.length e1)) (w.heap.size + 1) dz := Z1.out.setOther (by simp) _
  have b2 : Below w.heap.size w (W1.setCell ⟨w.heap.size, 0, none⟩ (.slice A1 d.k.key.length e1)) := B1.out.setCell (Nat.le_refl _) _
  have h2 : (W1.setCell ⟨w.heap.size, 0, none⟩ (.slice A1 d.k.key.length e1)).heap.size = W1.heap.size := by simp
  have hb2 : ∀ k, k ≠ w.heap.size → (W1.setCell ⟨w.heap.size, 0, none⟩ (.slice A1 d.k.key.length e1)).heap[k]? = W1.heap[k]? := fun k hk => Below.heap_setCell _ _ _ _ hk
  obtain ⟨W2, hW2⟩ : ∃ W2, W2 = W1.setCell ⟨w.heap.size, 0, none⟩ (.slice A1 d.k.key.length e1) := ⟨_, rfl⟩
  rw [← hW2] at x2 z2 b2 h2 hb2
  obtain ⟨A2, e2, W3, hr3, ho3, hb3⟩ := fresh_bytes d.va d.vc W2.heap.size d.val W2 ((H.out.next b2).vl.lies fun k hk => hk) (by have := HS.out.2; omega)
  have X2 := Lib.hid x2
  have Z2 := Lib.hid z2
  have B2 := Lib.hid b2
  have N2 := Lib.hid h2
  have K2 := Lib.hid hb2
  clear x2 z2 b2 h2 hb2
  rw [hW2] at hr3
  have HR3 := Lib.hid hr3
  clear hr3
  have x3 : Bx W3 w.heap.size { d with ka := A1, kc := e1 } := X2.out.below hb3 X2.out.lt
  have z3 : Bx W3 (w.heap.size + 1) dz := Z2.out.below hb3 Z2.out.lt
  obtain ⟨k0, k1, k2, k3, g0, g1, g2, g3⟩ := x3.facts
  obtain ⟨y0, y1, y2, y3, i0, i1, i2, i3⟩ := z3.facts
  have X3 := Lib.hid x3
  have Z3 := Lib.hid z3
  have HO3 := Lib.hid ho3
  have HB3 := Lib.hid hb3
  clear x3 z3 ho3 hb3
  simp only at k0 k1 k2 k3
  have q0 := (two_boxes w d).1.facts
  obtain ⟨j0, j1, j2, j3, -, -, -, -⟩ := q0
  go_enter Try.func11, Try.ntmps11
  go_wp2_with (first | (at_builtin; refine wpList_append_run rfl _ _ 31 rfl rfl rfl HR1.out ?_) | (at_builtin; refine wpList_append_run rfl _ _ 31 rfl rfl rfl HR3.out ?_))
  have hbx : Bx (put (W3.setCell ⟨w.heap.size, 3, none⟩ (.slice A2 d.val.length e2)) (w.heap.size + 1) ⟨A1, e1, d.k, A2, e2, d.val⟩) (w.heap.size + 1) ⟨A1, e1, d.k, A2, e2, d.val⟩ := put_box _ (Z3.out.setOther (by simp) _ : Bx _ _ dz)
  refine bodyPost_ret (results_one rfl Try.underlying36 rfl (by kernel_rfl) _ rfl hbx) rfl ?_
  have hB : Below w.heap.size w (put (W3.setCell ⟨w.heap.size, 3, none⟩ (.slice A2 d.val.length e2)) (w.heap.size + 1) ⟨A1, e1, d.k, A2, e2, d.val⟩) :=
    put_below ((B2.out.trans (HB3.out.mono B2.out.size)).setCell (Nat.le_refl _) _) (Nat.le_succ _) _
  have hz : (put (W3.setCell ⟨w.heap.size, 3, none⟩ (.slice A2 d.val.length e2)) (w.heap.size + 1) ⟨A1, e1, d.k, A2, e2, d.val⟩).heap.size = W3.heap.size := by rw [put_size]; simp
  have hoff : ∀ k, w.heap.size + 2 ≤ k → (put (W3.setCell ⟨w.heap.size, 3, none⟩ (.slice A2 d.val.length e2)) (w.heap.size + 1) ⟨A1, e1, d.k, A2, e2, d.val⟩).heap[k]? = W3.heap[k]? := fun k hk => by
    rw [put_off _ _ _ _ (by omega), Below.heap_setCell _ _ _ _ (by simp only; omega)]
  refine ⟨⟨A1, e1, d.k, A2, e2, d.val⟩, rfl, rfl, cop_mk H.out HO1.out HO3.out (fun k h1 h2 => ?_) (fun k h1 h2 => ?_) ?_ ?_ (by rw [S0.out]; omega) (by rw [N2.out]; exact HB1.out.size), hB, own_lower (own_same HO3.out fun k hk => hoff k ?_) ?_⟩
  · rw [S0.out] at h1
    rw [hoff k h1, HB3.out.block k (by rw [N2.out]; exact h2), K2.out k (by omega)]
  · have h3 := HB1.out.size
    rw [N2.out] at h1
    rw [S0.out] at h3
    exact hoff k (by omega)
  · rw [hz]; have := HB3.out.size; rw [N2.out] at this; exact this
  · rw [hz]; exact Nat.le_refl _
  · have h3 := HB1.out.size
    have h4 := (HO3.out.lt k hk).1
    rw [N2.out] at h4
    rw [S0.out] at h3
    omega
  · have h3 := HB1.out.size
    rw [S0.out] at h3
    rw [N2.out]
    omega

/-- Three lists beside each other: the program's, another one, and the document's; the blocks F are none of theirs. -/
def Trl (W : World) (F : Nat → Prop) (gx go gr : Nat) (Rx Ro Rr : Row) (w : World) : Prop :=
  ∃ Sx So Sr : Nat → Prop, SL w gx Sx Rx ∧ SL w go So Ro ∧ RL w gr Sr Rr ∧ (∀ k, Sx k ∨ So k ∨ Sr k → W.heap.size ≤ k) ∧ (∀ k, Sx k → ¬ So k) ∧ (∀ k, Sx k → ¬ Sr k) ∧ (∀ k, So k → ¬ Sr k) ∧ (∀ k, F k → W.heap.size ≤ k ∧ k < w.heap.size ∧ ¬ Sx k ∧ ¬ So k ∧ ¬ Sr k) ∧ Below W.heap.size W w
/-- What becomes of a set of blocks that a call writes. -/
def More (w : World) (S S' : Nat → Prop) : Prop := ∀ k, S' k → S k ∨ w.heap.size ≤ k
section
variable {W w w' : World} {F F' : Nat → Prop} {gx go gr : Nat} {Rx Ro Rr : Row}
theorem Trl.bel (h : Trl W F gx go gr Rx Ro Rr w) : Below W.heap.size W w := by
  obtain ⟨_, _, _, _, _, _, _, _, _, _, _, h⟩ := h
  exact h
theorem Trl.below (h : Trl W F gx go gr Rx Ro Rr w) (hb : Below w.heap.size w w') : Trl W F gx go gr Rx Ro Rr w' := by
  obtain ⟨Sx, So, Sr, h1, h2, h3, h4, h5, h6, h7, h8, h9⟩ := h
  exact ⟨Sx, So, Sr, h1.below hb, h2.below hb, h3.below hb, h4, h5, h6, h7, fun k hk => ⟨(h8 k hk).1, Nat.lt_of_lt_of_le (h8 k hk).2.1 hb.size, (h8 k hk).2.2⟩, h9.trans (hb.mono h9.size)⟩
theorem Trl.none (h : Trl W F gx go gr Rx Ro Rr w) : Trl W (fun _ => False) gx go gr Rx Ro Rr w := by
  obtain ⟨Sx, So, Sr, h1, h2, h3, h4, h5, h6, h7, h8, h9⟩ := h
  exact ⟨Sx, So, Sr, h1, h2, h3, h4, h5, h6, h7, fun k hk => hk.elim, h9⟩
/-- New memory is none of theirs. -/
theorem Trl.fresh (h : Trl W F gx go gr Rx Ro Rr w) (hb : Below w.heap.size w w') : Trl W (fun k => w.heap.size ≤ k ∧ k < w'.heap.size) gx go gr Rx Ro Rr w' := by
  obtain ⟨Sx, So, Sr, h1, h2, h3, h4, h5, h6, h7, h8, h9⟩ := h
  refine ⟨Sx, So, Sr, h1.below hb, h2.below hb, h3.below hb, h4, h5, h6, h7, fun k hk => ⟨Nat.le_trans h9.size hk.1, hk.2, fun hs => ?_, fun hs => ?_, fun hs => ?_⟩, h9.trans (hb.mono h9.size)⟩
  · have := h1.lt k hs; omega
  · have := h2.lt k hs; omega
  · have := h3.lt k hs; omega
/-- A block that is none of theirs is written. -/
theorem Trl.put (h : Trl W F gx go gr Rx Ro Rr w) {b : Nat} (hb : F b) (hk : Keep (· = b) w w') : Trl W F gx go gr Rx Ro Rr w' := by
  obtain ⟨Sx, So, Sr, h1, h2, h3, h4, h5, h6, h7, h8, h9⟩ := h
  obtain ⟨f1, f2, f3, f4, f5⟩ := h8 b hb
  refine ⟨Sx, So, Sr, h1.keep hk (fun k hs e => f3 (e ▸ hs)), h2.keep hk (fun k hs e => f4 (e ▸ hs)), h3.keep hk (fun k hs e => f5 (e ▸ hs)), h4, h5, h6, h7, fun k hf => ⟨(h8 k hf).1, Nat.lt_of_lt_of_le (h8 k hf).2.1 hk.size, (h8 k hf).2.2⟩, h9.trans (hk.below h9.size fun k e => by rw [e]; exact f1)⟩
theorem Trl.lt (h : Trl W F gx go gr Rx Ro Rr w) (k : Nat) (hk : F k) : k < w.heap.size := by
  obtain ⟨_, _, _, _, _, _, _, _, _, _, h, _⟩ := h
  exact (h k hk).2.1
theorem Trl.x (h : Trl W F gx go gr Rx Ro Rr w) : ∃ S, SL w gx S Rx ∧ ∀ w' R' S', SL w' gx S' R' → Keep S w w' → More w S S' → Trl W F gx go gr R' Ro Rr w' ∧ ∀ k, F k → w'.heap[k]? = w.heap[k]? := by
  obtain ⟨S, So, Sr, h1, h2, h3, h4, h5, h6, h7, h8, h9⟩ := h
  refine ⟨S, h1, fun w' R' S' t1 t2 t3 => ⟨⟨S', So, Sr, t1, h2.keep t2 (fun k hk hs => h5 k hs hk), h3.keep t2 (fun k hk hs => h6 k hs hk), fun k hk => ?_, fun k hk ho => ?_, fun k hk ho => ?_, h7, fun k hk => ?_, h9.trans (t2.below h9.size fun k hk => h4 k (.inl hk))⟩, fun k hk => t2.block k (h8 k hk).2.1 (h8 k hk).2.2.1⟩⟩
  · rcases hk with hk | hk
    · rcases t3 k hk with h | h
      · exact h4 k (.inl h)
      · exact Nat.le_trans h9.size h
    · exact h4 k (.inr hk)
  · rcases t3 k hk with h | h
    · exact h5 k h ho
    · have := h2.lt k ho; omega
  · rcases t3 k hk with h | h
    · exact h6 k h ho
    · have := h3.lt k ho; omega
  · obtain ⟨f1, f2, f3, f4, f5⟩ := h8 k hk
    exact ⟨f1, Nat.lt_of_lt_of_le f2 t2.size, fun hs => (t3 k hs).elim f3 (by omega), f4, f5⟩
theorem Trl.o (h : Trl W F gx go gr Rx Ro Rr w) : ∃ S, SL w go S Ro ∧ ∀ w' R' S', SL w' go S' R' → Keep S w w' → More w S S' → Trl W F gx go gr Rx R' Rr w' ∧ ∀ k, F k → w'.heap[k]? = w.heap[k]? := by
  obtain ⟨Sx, S, Sr, h1, h2, h3, h4, h5, h6, h7, h8, h9⟩ := h
  refine ⟨S, h2, fun w' R' S' t1 t2 t3 => ⟨⟨Sx, S', Sr, h1.keep t2 (fun k hk hs => h5 k hk hs), t1, h3.keep t2 (fun k hk hs => h7 k hs hk), fun k hk => ?_, fun k hk ho => ?_, h6, fun k hk ho => ?_, fun k hk => ?_, h9.trans (t2.below h9.size fun k hk => h4 k (.inr (.inl hk)))⟩, fun k hk => t2.block k (h8 k hk).2.1 (h8 k hk).2.2.2.1⟩⟩
  · rcases hk with hk | hk | hk
    · exact h4 k (.inl hk)
    · rcases t3 k hk with h | h
      · exact h4 k (.inr (.inl h))
      · exact Nat.le_trans h9.size h
    · exact h4 k (.inr (.inr hk))
  · rcases t3 k ho with h | h
    · exact h5 k hk h
    · have := h1.lt k hk; omega
  · rcases t3 k hk with h | h
    · exact h7 k h ho
    · have := h3.lt k ho; omega
  · obtain ⟨f1, f2, f3, f4, f5⟩ := h8 k hk
    exact ⟨f1, Nat.lt_of_lt_of_le f2 t2.size, f3, fun hs => (t3 k hs).elim f4 (by omega), f5⟩
theorem Trl.r (h : Trl W F gx go gr Rx Ro Rr w) : ∃ S, RL w gr S Rr ∧ ∀ w' R' S', RL w' gr S' R' → Keep S w w' → More w S S' → Trl W F gx go gr Rx Ro R' w' ∧ ∀ k, F k → w'.heap[k]? = w.heap[k]? := by
  obtain ⟨Sx, So, S, h1, h2, h3, h4, h5, h6, h7, h8, h9⟩ := h
  refine ⟨S, h3, fun w' R' S' t1 t2 t3 => ⟨⟨Sx, So, S', h1.keep t2 (fun k hk hs => h6 k hk hs), h2.keep t2 (fun k hk hs => h7 k hk hs), t1, fun k hk => ?_, h5, fun k hk ho => ?_, fun k hk ho => ?_, fun k hk => ?_, h9.trans (t2.below h9.size fun k hk => h4 k (.inr (.inr hk)))⟩, fun k hk => t2.block k (h8 k hk).2.1 (h8 k hk).2.2.2.2⟩⟩
  · rcases hk with hk | hk | hk
    · exact h4 k (.inl hk)
    · exact h4 k (.inr (.inl hk))
    · rcases t3 k hk with h | h
      · exact h4 k (.inr (.inr h))
      · exact Nat.le_trans h9.size h
  · rcases t3 k ho with h | h
    · exact h6 k hk h
    · have := h1.lt k hk; omega
  · rcases t3 k ho with h | h
    · exact h7 k hk h
    · have := h2.lt k hk; omega
  · obtain ⟨f1, f2, f3, f4, f5⟩ := h8 k hk
    exact ⟨f1, Nat.lt_of_lt_of_le f2 t2.size, f3, f4, fun hs => (t3 k hs).elim f5 (by omega)⟩
/-- The calls, at three lists. -/
theorem tri_ins (h : Trl W F gx go gr Rx Ro Rr w) (d : D) (ht : Int) (hd : d.Ok w (· < w.heap.size)) (hw : (Lit.int .i64 ht).wf = true) (hn : Rx.length ≤ 150) :
    Calls Try.prog (13) #[.pointer (some ⟨gx, 0, none⟩), d.v, .int .i64 ht] w fun e w' => e = .returned (.int .i64 (insE Rx d.t : Nat)) ∧ Trl W F gx go gr (insT Rx d.t (hgt ht)) Ro Rr w' ∧ ∀ k, F k → w'.heap[k]? = w.heap[k]? := by
  obtain ⟨S, h1, h2⟩ := h.x
  refine (insert_any d ht h1 hd hw hn).mono ?_
  rintro e w' ⟨S', he, t1, t2, t3⟩
  exact ⟨he, h2 w' _ S' t1 t2 t3⟩
theorem tri_oins (h : Trl W F gx go gr Rx Ro Rr w) (d : D) (ht : Int) (hd : d.Ok w (· < w.heap.size)) (hw : (Lit.int .i64 ht).wf = true) (hn : Ro.length ≤ 150) :
    Calls Try.prog (13) #[.pointer (some ⟨go, 0, none⟩), d.v, .int .i64 ht] w fun e w' => (∃ n : Nat, e = .returned (.int .i64 (n : Int))) ∧ Trl W F gx go gr Rx (insT Ro d.t (hgt ht)) Rr w' ∧ ∀ k, F k → w'.heap[k]? = w.heap[k]? := by
  obtain ⟨S, h1, h2⟩ := h.o
  refine (insert_any d ht h1 hd hw hn).mono ?_
  rintro e w' ⟨S', he, t1, t2, t3⟩
  exact ⟨⟨_, he⟩, h2 w' _ S' t1 t2 t3⟩
theorem tri_rins (h : Trl W F gx go gr Rx Ro Rr w) (d : D) (ht : Int) (hd : d.Ok w (· < w.heap.size)) (hw : (Lit.int .i64 ht).wf = true) (hn : Rr.length ≤ 150) :
    Calls Try.prog (14) #[.pointer (some ⟨gr, 0, none⟩), d.v, .int .i64 ht] w fun e w' => e = .returned (.int .i64 (insE Rr d.t : Nat)) ∧ Trl W F gx go gr Rx Ro (insT Rr d.t (hgt ht)) w' ∧ ∀ k, F k → w'.heap[k]? = w.heap[k]? := by
  obtain ⟨S, h1, h2⟩ := h.r
  refine (rinsert_any d ht h1 hd hw hn).mono ?_
  rintro e w' ⟨S', he, t1, t2, t3⟩
  exact ⟨he, h2 w' _ S' t1 t2 t3⟩
theorem tri_same {R : Row} (h : Trl W F gx go gr R Ro R w) {A : Option Addr} {c : Nat} {k : K} (hk : At w w.heap.size A c k) :
    Calls Try.prog 15 #[.pointer (some ⟨gx, 0, none⟩), .pointer (some ⟨gr, 0, none⟩), key A c k] w fun e w' => e = .returned (.bool true) ∧ Below w.heap.size w w' := by
  obtain ⟨Sx, h1, _⟩ := h.x
  obtain ⟨Sr, h2, _⟩ := h.r
  exact same_any h1 h2 hk
end
end Go.Proofs.Ytmnhklfljfglhaa.Sk
