/- Entries: what copies of one answer, in package skip and in the document's own list. -/
import Derived.Test.YtobjiamdljjkjaaSent
namespace Go.Proofs.Ytobjiamdljjkjaa.Sk
set_option linter.unusedVariables false
set_option linter.unusedSimpArgs false
open Go.RowKit Lift Ik

theorem results_one {P : Program} {fn : Func} {p g : Nat} {T : TypeId} {us : List Value} {w : World} {u : TypeDesc} (h : fn.results = #[.cell p T]) (hu : P.underlying T = some u) (ha : (match u with | .struct _ | .array _ _ => true | _ => false) = true)
    (hi : (P.info? T).map (·.size) = some us.toArray.size) (tmps : Array Value) (hp : tmps.getD p undef = .pointer (some ⟨g, 0, none⟩)) (hb : Lift.Box w g T us) :
    (results fn tmps).run P w = .ok (.agg us.toArray) w := by
  have hl := run_loadVar_row (P := P) w g T T us.toArray (0, 0) u hb hu ha hi
  have hp' : tmps[p]?.getD undef = .pointer (some ⟨g, 0, none⟩) := by rw [← hp]; simp
  simp only [results, h]
  simp [Sem.run_bind, hp', asAddr, hl]
  try rfl
/-- New blocks of bytes. -/
def Fresh (B : Nat) (w : World) (k : Nat) : Prop := B ≤ k ∧ k < w.heap.size ∧ ∃ cs fr, w.heap[k]? = some (.cells cs 5 fr)
theorem Fresh.below {B : Nat} {w w' : World} (hb : Below w.heap.size w w') (k : Nat) (h : Fresh B w k) : Fresh B w' k := by
  obtain ⟨h1, h2, cs, fr, h3⟩ := h
  exact ⟨h1, Nat.lt_of_lt_of_le h2 hb.size, cs, fr, (hb.block k h2).trans h3⟩
theorem Fresh.low {B B' : Nat} {w : World} (hB : B' ≤ B) (k : Nat) (h : Fresh B w k) : Fresh B' w k := ⟨Nat.le_trans hB h.1, h.2⟩
theorem Fresh.lt {B : Nat} {w : World} (k : Nat) (h : Fresh B w k) : k < w.heap.size := h.2.1
/-- Another entry that tells the same, of its own memory. -/
def Cop (w : World) (t : T) (e : Ending) (w' : World) : Prop := ∃ d' : D, e = .returned d'.v ∧ d'.t = t ∧ d'.Ok w' (Fresh w.heap.size w') ∧ Below w.heap.size w w'
def small (d : D) : Prop := d.k.key.length ≤ 100000 ∧ d.val.length ≤ 100000
abbrev dz : D := ⟨none, 0, ⟨[], 0, 0⟩, none, 0, []⟩
abbrev ebox (d : D) : Obj := .cells #[.slice d.ka d.k.key.length d.kc, .int .u64 (d.k.seq : Int), .int .i64 d.k.kind, .slice d.va d.val.length d.vc] 48
abbrev zbox : Obj := .cells #[.slice none 0 0, .int .u64 0, .int .i64 0, .slice none 0 0] 48
theorem two_boxes (w : World) (d : D) : Bx ((w.alloc (ebox d)).alloc zbox) w.heap.size d ∧ Bx ((w.alloc (ebox d)).alloc zbox) (w.heap.size + 1) dz ∧ Below w.heap.size w ((w.alloc (ebox d)).alloc zbox) ∧ ((w.alloc (ebox d)).alloc zbox).heap.size = w.heap.size + 2 := by
  have h1 : (w.alloc (ebox d)).heap.size = w.heap.size + 1 := by simp
  refine ⟨(Bx.new w d).alloc _, ?_, Joins.below_alloc2 w _ _, by simp⟩
  rw [← h1]
  exact Bx.new (w.alloc (ebox d)) dz
/-- An entry, put into a box. -/
abbrev put (w : World) (g : Nat) (d : D) : World :=
  (((w.setCell ⟨g, 0, none⟩ (.slice d.ka d.k.key.length d.kc)).setCell ⟨g, 1, none⟩ (.int .u64 (d.k.seq : Int))).setCell ⟨g, 2, none⟩ (.int .i64 d.k.kind)).setCell ⟨g, 3, none⟩ (.slice d.va d.val.length d.vc)
theorem put_box {w : World} {g : Nat} {d0 : D} (d : D) (h : Bx w g d0) : Bx (put w g d) g d := by
  have := (((Lift.Box.set h 0 (.slice d.ka d.k.key.length d.kc)).set 1 (.int .u64 (d.k.seq : Int))).set 2 (.int .i64 d.k.kind)).set 3 (.slice d.va d.val.length d.vc)
  exact this
theorem put_off (w : World) (g : Nat) (d : D) (k : Nat) (hk : k ≠ g) : (put w g d).heap[k]? = w.heap[k]? := by
  unfold put
  rw [Below.heap_setCell _ _ _ _ hk, Below.heap_setCell _ _ _ _ hk, Below.heap_setCell _ _ _ _ hk, Below.heap_setCell _ _ _ _ hk]
theorem put_size (w : World) (g : Nat) (d : D) : (put w g d).heap.size = w.heap.size := by simp [put]
theorem put_below {B : Nat} {w0 w : World} (h : Below B w0 w) {g : Nat} (hg : B ≤ g) (d : D) : Below B w0 (put w g d) :=
  (((h.setCell (p := ⟨g, 0, none⟩) hg _).setCell (p := ⟨g, 1, none⟩) hg _).setCell (p := ⟨g, 2, none⟩) hg _).setCell (p := ⟨g, 3, none⟩) hg _
theorem clone_d (A : Option Addr) (c : Nat) (xs : List Nat) (w : World) (hl : Lies w w.heap.size A (xs.map vb)) (hm : xs.length ≤ 100000) :
    Calls Try.prog 119 #[.slice A xs.length c] w (Made w.heap.size w xs) := by
  rcases A with _ | ad
  · have h0 : xs = [] := by
      rcases hl with h | ⟨_, h, _⟩
      · exact List.map_eq_nil_iff.1 h
      · cases h
    subst h0
    have q22 : ∀ W : World, Sem.run Try.prog (binOp .eql 25 (.slice none 0 c) (.slice none 0 0)) W = .ok (.bool true) W := fun W => Lib.run_eql_slice_nil W _ _ none 0 c 0 0 Try.underlying25
    go_enter Try.func119, Try.ntmps119
    go_wp2_with fail
    go_ret
    exact ⟨_, rfl, World.ownsRow_nil _ _ _ _, Below.refl _ _⟩
  · exact clone_any ad c xs w hl (by omega)
/-- The parts of a copy. -/
theorem cop_mk {w W1 W3 w' : World} {d : D} {A1 A2 : Option Addr} {c1 c2 B B3 : Nat} (h : d.Ok w (· < w.heap.size)) (h1 : W1.ownsRow B 5 1 (.slice A1 d.k.key.length c1) d.k.key.length (d.k.key.map vb))
    (h3 : W3.ownsRow B3 5 1 (.slice A2 d.val.length c2) d.val.length (d.val.map vb)) (k1 : ∀ k, B ≤ k → k < W1.heap.size → w'.heap[k]? = W1.heap[k]?) (k3 : ∀ k, B3 ≤ k → k < W3.heap.size → w'.heap[k]? = W3.heap[k]?)
    (s1 : W1.heap.size ≤ w'.heap.size) (s3 : W3.heap.size ≤ w'.heap.size) (hB : w.heap.size ≤ B) (hB3 : B ≤ B3) : (⟨A1, c1, d.k, A2, c2, d.val⟩ : D).Ok w' (Fresh w.heap.size w') := by
  obtain ⟨A1', c1', e1, hc1, hm1, _⟩ := own_parts h1
  obtain ⟨A2', c2', e2, hc2, hm2, _⟩ := own_parts h3
  injection e1 with e1 _ e1'
  injection e2 with e2 _ e2'
  subst e1 e1' e2 e2'
  refine ⟨(LiesP.of_own h1).later (fun k hk => k1 k hk.1 hk.2.1) fun k hk => ⟨Nat.le_trans hB hk.1, Nat.lt_of_lt_of_le hk.2.1 s1, ?_⟩, hc1, hm1, h.ok, (LiesP.of_own h3).later (fun k hk => k3 k hk.1 hk.2.1) fun k hk => ⟨Nat.le_trans hB (Nat.le_trans hB3 hk.1), Nat.lt_of_lt_of_le hk.2.1 s3, ?_⟩, hc2, hm2, h.v8⟩
  · obtain ⟨q1, q2, cs, fr, q3⟩ := hk
    exact ⟨cs, fr, (k1 k q1 q2).trans q3⟩
  · obtain ⟨q1, q2, cs, fr, q3⟩ := hk
    exact ⟨cs, fr, (k3 k q1 q2).trans q3⟩

end Go.Proofs.Ytobjiamdljjkjaa.Sk
