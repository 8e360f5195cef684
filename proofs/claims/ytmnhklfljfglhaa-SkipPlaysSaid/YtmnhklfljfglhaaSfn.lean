/- Entries: what copies of one answer, in package skip and in the document's own list. -/
import Derived.Test.YtmnhklfljfglhaaSent
namespace Go.Proofs.Ytmnhklfljfglhaa.Sk
set_option linter.unusedVariables false
set_option linter.unusedSimpArgs false
open Go.RowKit Lift Ik

theorem results_one {P : Program} {fn : Func} {p g : Nat} {T : TypeId} {us : List Value} {w : World} {u : TypeDesc} (h : fn.results = #[.cell p T]) (hu : P.underlying T = some u) (ha : (match u with | .struct _ | .array _ _ => true | _ => false) = true)
    (hi : (P.info? T).map (·.size) = some us.toArray.size) (tmps : Array Value) (hp : tmps.getD p undef = .pointer (some ⟨g, 0, none⟩)) (hb : Lift.Box w g T us) :
    (results fn tmps).run P w = .ok (.agg us.toArray) w := by
  have hl := run_loadVar_row (P := P) w g T T us.toArray (0, 0) u hb hu ha hi
  have hp' : tmps[p]?.getD undef = .pointer (some ⟨g, 0, none⟩) := by rw [← hp]; simp
  simp only [results, h]
  simp [Sem.run_bind, hp', asAddr, hl]
  try rfl
/-- New blocks of bytes. -/
def Fresh (B : Nat) (w : World) (k : Nat) : Prop := B ≤ k ∧ k < w.heap.size ∧ ∃ cs fr, w.heap[k]? = some (.cells cs 5 fr)
theorem Fresh.below {B : Nat} {w w' : World} (hb : Below w.heap.size w w') (k : Nat) (h : Fresh B w k) : Fresh B w' k := by
  obtain ⟨h1, h2, cs, fr, h3⟩ := h
  exact ⟨h1, Nat.lt_of_lt_of_le h2 hb.size, cs, fr, (hb.block k h2).trans h3⟩
theorem Fresh.low {B B' : Nat} {w : World} (hB : B' ≤ B) (k : Nat) (h : Fresh B w k) : Fresh B' w k := ⟨Nat.le_trans hB h.1, h.2⟩
theorem Fresh.lt {B : Nat} {w : World} (k : Nat) (h : Fresh B w k) : k < w.heap.size := h.2.1
/-- Another entry that tells the same, of its own memory. -/
def Cop (w : World) (t : T) (e : Ending) (w' : World) : Prop := ∃ d' : D, e = .returned d'.v ∧ d'.t = t ∧ d'.Ok w' (Fresh w.heap.size w') ∧ Below w.heap.size w w'
def small (d : D) : Prop := d.k.key.length ≤ 100000 ∧ d.val.length ≤ 100000
abbrev dz : D := ⟨none, 0, ⟨[], 0, 0⟩, none, 0, []⟩
abbrev ebox (d : D) : Obj := .cells #[.slice d.ka d.k.key.length d.kc, .int .u64 (d.k.seq : Int), .int .i64 d.k.kind, .slice d.va d.val.length d.vc] 36
abbrev zbox : Obj := .cells #[.slice none 0 0, .int .u64 0, .int .i64 0, .slice none 0 0] 36
theorem two_boxes (w : World) (d : D) : Bx ((w.alloc (ebox d)).alloc zbox) w.heap.size d ∧ Bx ((w.alloc (ebox d)).alloc zbox) (w.heap.size + 1) dz ∧ Below w.heap.size w ((w.alloc (ebox d)).alloc zbox) ∧ ((w.alloc (ebox d)).alloc zbox).heap.size = w.heap.size + 2 := by
  have h1 : (w.alloc (ebox d)).heap.size = w.heap.size + 1 := by simp
  refine ⟨(Bx.new w d).alloc _, ?_, Joins.below_alloc2 w _ _, by simp⟩
  rw [← h1]
  exact Bx.new (w.alloc (ebox d)) dz
/-- An entry, put into a box. -/
abbrev put (w : World) (g : Nat) (d : D) : World :=
  (((w.setCell ⟨g, 0, none⟩ (.slice d.ka d.k.key.length d.kc)).setCell ⟨g, 1, none⟩ (.int .u64 (d.k.seq : Int))).setCell ⟨g, 2, none⟩ (.int .i64 d.k.kind)).setCell ⟨g, 3, none⟩ (.slice d.va d.val.length d.vc)
theorem put_box {w : World} {g : Nat} {d0 : D} (d : D) (h : Bx w g d0) : Bx (put w g d) g d := by
  have := (((Lift.Box.set h 0 (.slice d.ka d.k.key.length d.kc)).set 1 (.int .u64 (d.k.seq : Int))).set 2 (.int .i64 d.k.kind)).set 3 (.slice d.va d.val.length d.vc)
  exact this
theorem put_off (w : World) (g : Nat) (d : D) (k : Nat) (hk : k ≠ g) : (put w g d).heap[k]? = w.heap[k]? := by
  unfold put
  rw [Below.heap_setCell _ _ _ _ hk, Below.heap_setCell _ _ _ _ hk, Below.heap_setCell _ _ _ _ hk, Below.heap_setCell _ _ _ _ hk]
theorem put_size (w : World) (g : Nat) (d : D) : (put w g d).heap.size = w.heap.size := by simp [put]
theorem put_below {B : Nat} {w0 w : World} (h : Below B w0 w) {g : Nat} (hg : B ≤ g) (d : D) : Below B w0 (put w g d) :=
  (((h.setCell (p := ⟨g, 0, none⟩) hg _).setCell (p := ⟨g, 1, none⟩) hg _).setCell (p := ⟨g, 2, none⟩) hg _).setCell (p := ⟨g, 3, none⟩) hg _
theorem clone_d (A : Option Addr) (c : Nat) (xs : List Nat) (w : World) (hl : Lies w w.heap.size A (xs.map vb)) (hm : xs.length ≤ 100000) :
    Calls Try.prog 72 #[.slice A xs.length c] w (Made w.heap.size w xs) := by
  rcases A with _ | ad
  · have h0 : xs = [] := by
      rcases hl with h | ⟨_, h, _⟩
      · exact List.map_eq_nil_iff.1 h
      · cases h
    subst h0
    have q22 : ∀ W : World, Sem.run Try.prog (binOp .eql 31 (.slice none 0 c) (.slice none 0 0)) W = .ok (.bool true) W := fun W => Lib.run_eql_slice_nil W _ _ none 0 c 0 0 Try.underlying31
    go_enter Try.func72, Try.ntmps72
    go_wp2_with fail
    go_ret
    exact ⟨_, rfl, World.ownsRow_nil _ _ _ _, Below.refl _ _⟩
  · exact clone_any ad c xs w hl (by omega)
/-- The parts of a copy. -/
theorem cop_mk {w W1 W3 w' : World} {d : D} {A1 A2 : Option Addr} {c1 c2 B B3 : Nat} (h : d.Ok w (· < w.heap.size)) (h1 : W1.ownsRow B 5 1 (.slice A1 d.k.key.length c1) d.k.key.length (d.k.key.map vb))
    (h3 : W3.ownsRow B3 5 1 (.slice A2 d.val.length c2) d.val.length (d.val.map vb)) (k1 : ∀ k, B ≤ k → k < W1.heap.size → w'.heap[k]? = W1.heap[k]?) (k3 : ∀ k, B3 ≤ k → k < W3.heap.size → w'.heap[k]? = W3.heap[k]?)
    (s1 : W1.heap.size ≤ w'.heap.size) (s3 : W3.heap.size ≤ w'.heap.size) (hB : w.heap.size ≤ B) (hB3 : B ≤ B3) : (⟨A1, c1, d.k, A2, c2, d.val⟩ : D).Ok w' (Fresh w.heap.size w') := by
  obtain ⟨A1', c1', e1, hc1, hm1, _⟩ := own_parts h1
  obtain ⟨A2', c2', e2, hc2, hm2, _⟩ := own_parts h3
  injection e1 with e1 _ e1'
  injection e2 with e2 _ e2'
  subst e1 e1' e2 e2'
  refine ⟨(LiesP.of_own h1).later (fun k hk => k1 k hk.1 hk.2.1) fun k hk => ⟨Nat.le_trans hB hk.1, Nat.lt_of_lt_of_le hk.2.1 s1, ?_⟩, hc1, hm1, h.ok, (LiesP.of_own h3).later (fun k hk => k3 k hk.1 hk.2.1) fun k hk => ⟨Nat.le_trans hB (Nat.le_trans hB3 hk.1), Nat.lt_of_lt_of_le hk.2.1 s3, ?_⟩, hc2, hm2, h.v8⟩
  · obtain ⟨q1, q2, cs, fr, q3⟩ := hk
    exact ⟨cs, fr, (k1 k q1 q2).trans q3⟩
  · obtain ⟨q1, q2, cs, fr, q3⟩ := hk
    exact ⟨cs, fr, (k3 k q1 q2).trans q3⟩

set_option maxRecDepth 100000 in
set_option maxHeartbeats 1600000 in
theorem sclone_any (d : D) (w : World) (h : d.Ok w (· < w.heap.size)) (hs : small d) : Calls Try.prog 44 #[d.v] w (Cop w d.t) := by
  obtain ⟨x0, z0, b0, s0⟩ := two_boxes w d
  have H := Lib.hid h
  have HS := Lib.hid hs
  obtain ⟨W0, hW0⟩ : ∃ W0, W0 = (w.alloc (ebox d)).alloc zbox := ⟨_, rfl⟩
  rw [← hW0] at x0 z0 b0 s0
  obtain ⟨c0, c1, c2, c3, f0, f1, f2, f3⟩ := x0.facts
  have X0 := Lib.hid x0
  have Z0 := Lib.hid z0
  have B0 := Lib.hid b0
  have S0 := Lib.hid s0
  have h1 := H.out.next b0
  clear x0 z0 b0 s0 h hs
  have HC1 := Lib.hid (clone_d d.ka d.kc d.k.key W0 (h1.kl.lies fun k hk => hk) HS.out.1)
  clear h1
  go_enter Try.func44, Try.ntmps44
  go_wp2_with fail
  rw [← hW0]
  refine HC1.out.mono ?_
  rintro e W1 ⟨v1, rfl, ho1, hb1⟩
  obtain ⟨A1, e1, rfl, -, -, -⟩ := own_parts ho1
  have x1 : Bx W1 w.heap.size d := X0.out.below hb1 (by rw [S0.out]; omega)
  have z1 : Bx W1 (w.heap.size + 1) dz := Z0.out.below hb1 (by rw [S0.out]; omega)
  have B1 := Lib.hid (B0.out.trans (hb1.mono B0.out.size))
  have HO1 := Lib.hid ho1
  have HB1 := Lib.hid hb1
  clear c0 c1 c2 c3 f0 f1 f2 f3 ho1 hb1
  obtain ⟨c0, c1, c2, c3, f0, f1, f2, f3⟩ := x1.facts
  have X1 := Lib.hid x1
  have Z1 := Lib.hid z1
  clear x1 z1
  have x2 : Bx (W1.setCell ⟨w.heap.size, 0, none⟩ (.slice A1 d.k.key.length e1)) w.heap.size { d with ka := A1, kc := e1 } := X1.out.set 0 _
  have z2 : Bx (W1.setCell ⟨w.heap.size, 0, none⟩ (.slice A1 d.k.key.length e1)) (w.heap.size + 1) dz := Z1.out.setOther (by simp) _
  have b2 : Below w.heap.size w (W1.setCell ⟨w.heap.size, 0, none⟩ (.slice A1 d.k.key.length e1)) := B1.out.setCell (Nat.le_refl _) _
  have h2 : (W1.setCell ⟨w.heap.size, 0, none⟩ (.slice A1 d.k.key.length e1)).heap.size = W1.heap.size := by simp
  have hb2 : ∀ k, k ≠ w.heap.size → (W1.setCell ⟨w.heap.size, 0, none⟩ (.slice A1 d.k.key.length e1)).heap[k]? = W1.heap[k]? := fun k hk => Below.heap_setCell _ _ _ _ hk
  go_wp2_with fail
  clear c0 c1 c2 c3 f0 f1 f2 f3 hW0
  generalize W1.setCell ⟨w.heap.size, 0, none⟩ (.slice A1 d.k.key.length e1) = W2 at *
  have HC2 := Lib.hid (clone_d d.va d.vc d.val W2 ((H.out.next b2).vl.lies fun k hk => hk) HS.out.2)
  have X2 := Lib.hid x2
  have Z2 := Lib.hid z2
  have B2 := Lib.hid b2
  have N2 := Lib.hid h2
  have K2 := Lib.hid hb2
  clear x2 z2 b2 h2 hb2
  refine HC2.out.mono ?_
  rintro e W3 ⟨v2, rfl, ho3, hb3⟩
  obtain ⟨A2, e2, rfl, -, -, -⟩ := own_parts ho3
  have x3 : Bx W3 w.heap.size { d with ka := A1, kc := e1 } := X2.out.below hb3 X2.out.lt
  have z3 : Bx W3 (w.heap.size + 1) dz := Z2.out.below hb3 Z2.out.lt
  obtain ⟨k0, k1, k2, k3, g0, g1, g2, g3⟩ := x3.facts
  obtain ⟨y0, y1, y2, y3, i0, i1, i2, i3⟩ := z3.facts
  have X3 := Lib.hid x3
  have Z3 := Lib.hid z3
  have HO3 := Lib.hid ho3
  have HB3 := Lib.hid hb3
  clear x3 z3 ho3 hb3
  simp only at k0 k1 k2 k3
  go_wp2_with fail
  have hbx : Bx (put (W3.setCell ⟨w.heap.size, 3, none⟩ (.slice A2 d.val.length e2)) (w.heap.size + 1) ⟨A1, e1, d.k, A2, e2, d.val⟩) (w.heap.size + 1) ⟨A1, e1, d.k, A2, e2, d.val⟩ := put_box _ (Z3.out.setOther (by simp) _ : Bx _ _ dz)
  refine bodyPost_ret (results_one rfl Try.underlying36 rfl (by kernel_rfl) _ rfl hbx) rfl ?_
  have hB : Below w.heap.size w (put (W3.setCell ⟨w.heap.size, 3, none⟩ (.slice A2 d.val.length e2)) (w.heap.size + 1) ⟨A1, e1, d.k, A2, e2, d.val⟩) :=
    put_below ((B2.out.trans (HB3.out.mono B2.out.size)).setCell (Nat.le_refl _) _) (Nat.le_succ _) _
  have hz : (put (W3.setCell ⟨w.heap.size, 3, none⟩ (.slice A2 d.val.length e2)) (w.heap.size + 1) ⟨A1, e1, d.k, A2, e2, d.val⟩).heap.size = W3.heap.size := by rw [put_size]; simp
  have hoff : ∀ k, w.heap.size + 2 ≤ k → (put (W3.setCell ⟨w.heap.size, 3, none⟩ (.slice A2 d.val.length e2)) (w.heap.size + 1) ⟨A1, e1, d.k, A2, e2, d.val⟩).heap[k]? = W3.heap[k]? := fun k hk => by
    rw [put_off _ _ _ _ (by omega), Below.heap_setCell _ _ _ _ (by simp only; omega)]
  refine ⟨⟨A1, e1, d.k, A2, e2, d.val⟩, rfl, rfl, cop_mk H.out HO1.out HO3.out (fun k h1 h2 => ?_) (fun k h1 h2 => ?_) ?_ ?_ (by rw [S0.out]; omega) (by rw [N2.out]; exact HB1.out.size), hB⟩
  · rw [S0.out] at h1
    rw [hoff k h1, HB3.out.block k (by rw [N2.out]; exact h2), K2.out k (by omega)]
  · have h3 := HB1.out.size
    rw [N2.out] at h1
    rw [S0.out] at h3
    exact hoff k (by omega)
  · rw [hz]; have := HB3.out.size; rw [N2.out] at this; exact this
  · rw [hz]; exact Nat.le_refl _

set_option maxRecDepth 100000 in
set_option maxHeartbeats 1600000 in
theorem copy_any (d : D) (w : World) (h : d.Ok w (· < w.heap.size)) (hs : small d) : Calls Try.prog 11 #[d.v] w (Cop w d.t) := by
  obtain ⟨x0, z0, b0, s0⟩ := two_boxes w d
  have H := Lib.hid h
  have HS := Lib.hid hs
  obtain ⟨W0, hW0⟩ : ∃ W0, W0 = (w.alloc (ebox d)).alloc zbox := ⟨_, rfl⟩
  rw [← hW0] at x0 z0 b0 s0
  obtain ⟨c0, c1, c2, c3, f0, f1, f2, f3⟩ := x0.facts
  have X0 := Lib.hid x0
  have Z0 := Lib.hid z0
  have B0 := Lib.hid b0
  have S0 := Lib.hid s0
  have h1 := H.out.next b0
  clear x0 z0 b0 s0 h hs
  obtain ⟨A1, e1, W1, hr1, ho1, hb1⟩ := fresh_bytes d.ka d.kc W0.heap.size d.k.key W0 (h1.kl.lies fun k hk => hk) (by have := HS.out.1; omega)
  clear h1
  subst hW0
  have HR1 := Lib.hid hr1
  clear hr1
  have x1 : Bx W1 w.heap.size d := X0.out.below hb1 (by rw [S0.out]; omega)
  have z1 : Bx W1 (w.heap.size + 1) dz := Z0.out.below hb1 (by rw [S0.out]; omega)
  have B1 := Lib.hid (B0.out.trans (hb1.mono B0.out.size))
  have HO1 := Lib.hid ho1
  have HB1 := Lib.hid hb1
  clear c0 c1 c2 c3 f0 f1 f2 f3 ho1 hb1
  obtain ⟨c0, c1, c2, c3, f0, f1, f2, f3⟩ := x1.facts
  have X1 := Lib.hid x1
  have Z1 := Lib.hid z1
  clear x1 z1
  have x2 : Bx (W1.setCell ⟨w.heap.size, 0, none⟩ (.slice A1 d.k.key.length e1)) w.heap.size { d with ka := A1, kc := e1 } := X1.out.set 0 _
  have z2 : Bx (W1.setCell ⟨w.heap.size, 0, none⟩ (.slice A1 d.k.key.length e1)) (w.heap.size + 1) dz := Z1.out.setOther (by simp) _
  have b2 : Below w.heap.size w (W1.setCell ⟨w.heap.size, 0, none⟩ (.slice A1 d.k.key.length e1)) := B1.out.setCell (Nat.le_refl _) _
  have h2 : (W1.setCell ⟨w.heap.size, 0, none⟩ (.slice A1 d.k.key.length e1)).heap.size = W1.heap.size := by simp
  have hb2 : ∀ k, k ≠ w.heap.size → (W1.setCell ⟨w.heap.size, 0, none⟩ (.slice A1 d.k.key.length e1)).heap[k]? = W1.heap[k]? := fun k hk => Below.heap_setCell _ _ _ _ hk
  obtain ⟨W2, hW2⟩ : ∃ W2, W2 = W1.setCell ⟨w.heap.size, 0, none⟩ (.slice A1 d.k.key.length e1) := ⟨_, rfl⟩
  rw [← hW2] at x2 z2 b2 h2 hb2
  obtain ⟨A2, e2, W3, hr3, ho3, hb3⟩ := fresh_bytes d.va d.vc W2.heap.size d.val W2 ((H.out.next b2).vl.lies fun k hk => hk) (by have := HS.out.2; omega)
  have X2 := Lib.hid x2
  have Z2 := Lib.hid z2
  have B2 := Lib.hid b2
  have N2 := Lib.hid h2
  have K2 := Lib.hid hb2
  clear x2 z2 b2 h2 hb2
  rw [hW2] at hr3
  have HR3 := Lib.hid hr3
  clear hr3
  have x3 : Bx W3 w.heap.size { d with ka := A1, kc := e1 } := X2.out.below hb3 X2.out.lt
  have z3 : Bx W3 (w.heap.size + 1) dz := Z2.out.below hb3 Z2.out.lt
  obtain ⟨k0, k1, k2, k3, g0, g1, g2, g3⟩ := x3.facts
  obtain ⟨y0, y1, y2, y3, i0, i1, i2, i3⟩ := z3.facts
  have X3 := Lib.hid x3
  have Z3 := Lib.hid z3
  have HO3 := Lib.hid ho3
  have HB3 := Lib.hid hb3
  clear x3 z3 ho3 hb3
  simp only at k0 k1 k2 k3
  have q0 := (two_boxes w d).1.facts
  obtain ⟨j0, j1, j2, j3, -, -, -, -⟩ := q0
  go_enter Try.func11, Try.ntmps11
  go_wp2_with (first | (at_builtin; refine wpList_append_run rfl _ _ 31 rfl rfl rfl HR1.out ?_) | (at_builtin; refine wpList_append_run rfl _ _ 31 rfl rfl rfl HR3.out ?_))
  have hbx : Bx (put (W3.setCell ⟨w.heap.size, 3, none⟩ (.slice A2 d.val.length e2)) (w.heap.size + 1) ⟨A1, e1, d.k, A2, e2, d.val⟩) (w.heap.size + 1) ⟨A1, e1, d.k, A2, e2, d.val⟩ := put_box _ (Z3.out.setOther (by simp) _ : Bx _ _ dz)
  refine bodyPost_ret (results_one rfl Try.underlying36 rfl (by kernel_rfl) _ rfl hbx) rfl ?_
  have hB : Below w.heap.size w (put (W3.setCell ⟨w.heap.size, 3, none⟩ (.slice A2 d.val.length e2)) (w.heap.size + 1) ⟨A1, e1, d.k, A2, e2, d.val⟩) :=
    put_below ((B2.out.trans (HB3.out.mono B2.out.size)).setCell (Nat.le_refl _) _) (Nat.le_succ _) _
  have hz : (put (W3.setCell ⟨w.heap.size, 3, none⟩ (.slice A2 d.val.length e2)) (w.heap.size + 1) ⟨A1, e1, d.k, A2, e2, d.val⟩).heap.size = W3.heap.size := by rw [put_size]; simp
  have hoff : ∀ k, w.heap.size + 2 ≤ k → (put (W3.setCell ⟨w.heap.size, 3, none⟩ (.slice A2 d.val.length e2)) (w.heap.size + 1) ⟨A1, e1, d.k, A2, e2, d.val⟩).heap[k]? = W3.heap[k]? := fun k hk => by
    rw [put_off _ _ _ _ (by omega), Below.heap_setCell _ _ _ _ (by simp only; omega)]
  refine ⟨⟨A1, e1, d.k, A2, e2, d.val⟩, rfl, rfl, cop_mk H.out HO1.out HO3.out (fun k h1 h2 => ?_) (fun k h1 h2 => ?_) ?_ ?_ (by rw [S0.out]; omega) (by rw [N2.out]; exact HB1.out.size), hB⟩
  · rw [S0.out] at h1
    rw [hoff k h1, HB3.out.block k (by rw [N2.out]; exact h2), K2.out k (by omega)]
  · have h3 := HB1.out.size
    rw [N2.out] at h1
    rw [S0.out] at h3
    exact hoff k (by omega)
  · rw [hz]; have := HB3.out.size; rw [N2.out] at this; exact this
  · rw [hz]; exact Nat.le_refl _
end Go.Proofs.Ytmnhklfljfglhaa.Sk
