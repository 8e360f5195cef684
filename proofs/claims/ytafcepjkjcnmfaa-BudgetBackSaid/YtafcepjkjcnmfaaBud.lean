/- The project's budgets in memory: what New, Take, Give, Of, Used and Left make of them, at charges. -/
import Derived.Test.YtafcepjkjcnmfaaCharge
import Derived.Test.YtafcepjkjcnmfaaSeg
import Derived.Maps.OwnSet
import Derived.Maps.Views
import Derived.Lib.SmallJoins
import Derived.WalkSmall
namespace Go.Proofs.Ytafcepjkjcnmfaa.Bg
set_option linter.unusedVariables false
set_option linter.unusedSimpArgs false
open Go.RowKit Go.Maps Lift Fl
abbrev vi (n : Int) : Value := .int .i64 n
abbrev pt (b : Nat) : Value := .pointer (some ⟨b, 0, none⟩)
/-- A charge. -/
abbrev cx (a b : Int) : Value := .complex .f64 (F a) (F b)
abbrev cdat (x y : Nat) : DataW Unit := .agg [.lit (.float .f64 x), .lit (.float .f64 y)]
def wf64 (n : Int) : Prop := (Lit.int .i64 n).wf = true
/-- How a charge of the map reads. -/
def cR : Value → Option (DataW Unit × List MemPlace)
  | .complex .f64 x y => some (cdat x y, [])
  | _ => none
theorem cR_some {v : Value} {x y : Nat} {ps : List MemPlace} (h : cR v = some (cdat x y, ps)) : v = .complex .f64 x y := by
  unfold cR at h
  split at h
  · rename_i x0 y0
    simp [cdat] at h
    obtain ⟨⟨rfl, rfl⟩, _⟩ := h
    rfl
  · cases h
theorem law : Keyed Try.prog 3 := int_keyed Try.underlying3
theorem key {n : Int} (h : wf64 n) : keyOf Try.prog 3 (vi n) = some (.int .i64 n) := keyOf_int_mk Try.underlying3 h
theorem zeroE (w : World) : (zeroValue 23).run Try.prog w = .ok (.complex .f64 0 0) w := by kernel_rfl
/-- What the map tells of the owners' charges. -/
def Tell (D : DataW Unit) (f : Int → Int × Int) : Prop := ∀ k, wf64 k → D.atKey (.int .i64 k) (cdat 0 0) = cdat (F (f k).1) (F (f k).2)
def upd (f : Int → Int × Int) (k : Int) (x : Int × Int) : Int → Int × Int := fun i => if i = k then x else f i
/-- A budget in block g, with its map in block m, both at B or above. -/
structure Bud (B : Nat) (w : World) (g : Nat) (l u : Int × Int) (f : Int → Int × Int) (n : Nat) : Prop where
  ex : ∃ m D, Lift.Box w g 38 [cx l.1 l.2, cx u.1 u.2, .map (some m)] ∧ B ≤ m ∧ w.ownsMap Try.prog 3 cR m n D ∧ IsMap D ∧ Tell D f
  ge : B ≤ g
  few : n ≤ 1000
section
variable {B g n : Nat} {w w' : World} {l u : Int × Int} {f : Int → Int × Int}
theorem Bud.below {B' : Nat} (h : Bud B w g l u f n) (hb : Below B' w w') (hB : w.heap.size ≤ B') : Bud B w' g l u f n := by
  obtain ⟨⟨m, D, h1, h2, ⟨es, clock, h3, h4⟩, h5, h6⟩, h7, h8⟩ := h
  have hm : m < w.heap.size := (Array.getElem?_eq_some_iff.1 h3).1
  exact ⟨⟨m, D, h1.below hb (Nat.lt_of_lt_of_le h1.lt hB), h2, ⟨es, clock, (hb.block m (Nat.lt_of_lt_of_le hm hB)).trans h3, h4⟩, h5, h6⟩, h7, h8⟩
theorem map_ne {m : Nat} {T : TypeId} {us : List Value} {k : Nat} {D : DataW Unit} (h1 : Lift.Box w g T us) (h2 : w.ownsMap Try.prog 3 cR m k D) : m ≠ g := fun e => by
  subst e
  obtain ⟨es, clock, h3, _⟩ := h2
  unfold Lift.Box at h1
  rw [h1] at h3
  cases h3
/-- The budget's second field is written. -/
theorem Bud.used (h : Bud B w g l u f n) (u' : Int × Int) : Bud B (w.setCell ⟨g, 1, none⟩ (cx u'.1 u'.2)) g l u' f n ∧ Below B w (w.setCell ⟨g, 1, none⟩ (cx u'.1 u'.2)) := by
  obtain ⟨⟨m, D, h1, h2, h3, h5, h6⟩, h7, h8⟩ := h
  have hne := map_ne h1 h3
  refine ⟨⟨⟨m, D, h1.set 1 _, h2, ?_, h5, h6⟩, h7, h8⟩, (Below.refl _ _).setCell h7 _⟩
  obtain ⟨es, clock, hb, r⟩ := h3
  exact ⟨es, clock, (Below.heap_setCell w _ _ m hne).trans hb, r⟩
theorem Bud.look (h : Bud B w g l u f n) : ∃ m, w.cell? ⟨g, 0, none⟩ = some (cx l.1 l.2) ∧ w.cell? ⟨g, 1, none⟩ = some (cx u.1 u.2) ∧ w.cell? ⟨g, 2, none⟩ = some (.map (some m)) ∧ w.frozen? ⟨g, 1, none⟩ = false ∧
    (∀ k, wf64 k → Sem.run Try.prog (Instr.lookup 36 (.map (some m)) (vi k) false) w = .ok (cx (f k).1 (f k).2) w) ∧
    (∀ (k : Int) (x : Int × Int), wf64 k → n < 1000 → ∃ w', Sem.run Try.prog (Instr.mapUpdate 36 (.map (some m)) (vi k) (cx x.1 x.2)) w = .ok () w' ∧ Bud B w' g l u (upd f k x) (n + 1) ∧ Below B w w') ∧
    (∀ (k : Int) (ty : TypeId), wf64 k → ∃ w', Sem.run Try.prog (Builtin.delete_ #[36, 3] ty #[.map (some m), vi k]) w = .ok (.tuple #[]) w' ∧ Bud B w' g l u (upd f k (0, 0)) n ∧ Below B w w') := by
  obtain ⟨⟨m, D, h1, h2, h3, h5, h6⟩, h7, h8⟩ := h
  obtain ⟨c0, c1, c2, z0, z1, z2⟩ := h1.facts3
  have hne := map_ne h1 h3
  have hlt := h3.lt
  have kp : ∀ w', w.mapTurned w' m → Lift.Box w' g 38 [cx l.1 l.2, cx u.1 u.2, .map (some m)] ∧ Below B w w' := fun w' ht => by
    have hg := ht.grown
    obtain ⟨_, _, _, _, hblk⟩ := ht.grown
    refine ⟨h1.at_block (hblk g h1.lt (by intro e; injection e with e; first | exact hne e | exact hne e.symm)), ((Below.refl B w).grown hg ?_ ?_)⟩
    · omega
    · intro k hk; cases hk; exact h2
  refine ⟨m, c0, c1, c2, z1, fun k hk => ?_, fun k x hk hn => ?_, fun k ty hk => ?_⟩
  · obtain ⟨v, ps, hrun, hv⟩ := h3.lookup law Try.underlying36 (zeroE w) (zd := cdat 0 0) (zp := []) rfl (key hk)
    rw [hrun]
    rw [h6 k hk] at hv
    rw [cR_some hv]
  · obtain ⟨w', hrun, ho, htu⟩ := h3.store law Try.underlying36 (by unfold maxLen; omega) (key hk) (show cR (cx x.1 x.2) = some (cdat (F x.1) (F x.2), []) from rfl)
    obtain ⟨b1, b2⟩ := kp w' htu
    refine ⟨w', hrun, ⟨⟨m, _, b1, h2, ho, ho.isMap, fun i hi => ?_⟩, h7, by omega⟩, b2⟩
    unfold upd
    by_cases he : i = k
    · subst he
      rw [if_pos rfl, atKey_put_same h5 (show WideAt.IsKeyLit (.int .i64 i) from trivial)]
    · rw [if_neg he, atKey_put_other (by intro e; injection e with _ e; exact he e)]
      exact h6 i hi
  · obtain ⟨w', hrun, ho, htu⟩ := h3.drop law Try.underlying36 (key hk) ty
    obtain ⟨b1, b2⟩ := kp w' htu
    refine ⟨w', hrun, ⟨⟨m, _, b1, h2, ho, ho.isMap, fun i hi => ?_⟩, h7, h8⟩, b2⟩
    unfold upd
    by_cases he : i = k
    · subst he
      rw [if_pos rfl, atKey_del_same]
      rfl
    · rw [if_neg he, atKey_del_other (by intro e; injection e with _ e; exact he e)]
      exact h6 i hi
end
end Go.Proofs.Ytafcepjkjcnmfaa.Bg
