/- A key that came in; keys in boxes. -/
import Derived.Test.YtobjiamdljjkjaaKlaw4
import Derived.Test.YtobjiamdljjkjaaOpen
namespace Go.Proofs.Ytobjiamdljjkjaa.Ik
set_option linter.unusedVariables false
open Go.ChangeShapes Go.WideShapes Go.ChangeAt Go.RowKit Lift

set_option maxRecDepth 100000 in
theorem open_key {H : Type} {enc : TypeId × Value → H} {W : World} {v : Value} {d : DataW H} {p : List MemPlace} {base : Nat} (hok : Value.okWide Try.prog W .any base 38 v)
    (h : DataW.Trod enc Try.prog W 0 (fun _ => true) true 38 v d p) (hlt : ∀ x, x ∈ p → x.block < W.heap.size) :
    ∃ (A : Option Addr) (c : Nat) (a : K), v = key A c a ∧ At W W.heap.size A c a := by
  obtain ⟨v0, v1, v2, y0, y1, y2, n, rfl, rfl, rfl, h0, h1, h2⟩ := Joins.open_agg3 Try.underlying38 (by kernel_rfl) (by kernel_rfl) hok h
  obtain ⟨A, c, zs, rfl, hc, hm, hl, hw⟩ := open_nums_at Try.underlying25 Try.underlying5 (by kernel_rfl) h0 (fun x hx => hlt x (by simp [hx]))
  obtain ⟨s, rfl, ws⟩ := open_int_at Try.underlying36 h1
  obtain ⟨k, rfl, wk⟩ := open_int_at Try.underlying3 h2
  obtain ⟨bs, rfl, hz⟩ := as_nat zs fun n hn => (u8_of (hw n hn)).1
  have hbs := fun b hb => (u8_of (hw _ (hz b hb))).2
  have bk := i64_of wk
  obtain ⟨m, rfl⟩ := Int.eq_ofNat_of_zero_le (u64_of ws).1
  have bm := (u64_of ws).2
  rw [List.map_map] at hl
  rw [List.length_map] at hc ⊢
  refine ⟨A, c, ⟨bs, m, k⟩, rfl, hl, hc, hm, fun x hx => ?_, by simp only; omega, bk.1, bk.2⟩
  have := hbs x hx
  omega

/-- A boxed key. -/
def Box (W : World) (g : Nat) (A : Option Addr) (c : Nat) (a : K) : Prop :=
  W.cell? ⟨g, 0, none⟩ = some (.slice A a.key.length c) ∧ W.cell? ⟨g, 1, none⟩ = some (.int .u64 (a.seq : Int)) ∧ W.cell? ⟨g, 2, none⟩ = some (.int .i64 a.kind)
theorem Box.later {W W' : World} {g B : Nat} {A : Option Addr} {c : Nat} {a : K} (t : Box W g A c a) (hb : Below B W W') (hg : g < B) : Box W' g A c a := by
  obtain ⟨h1, h2, h3⟩ := t
  exact ⟨(hb.cell hg).trans h1, (hb.cell hg).trans h2, (hb.cell hg).trans h3⟩
theorem Box.new (W : World) (A : Option Addr) (c : Nat) (a : K) : Box (W.alloc (.cells #[.slice A a.key.length c, .int .u64 (a.seq : Int), .int .i64 a.kind] 38)) W.heap.size A c a := by
  refine ⟨?_, ?_, ?_⟩
  all_goals go_simp

theorem cmp_as (v : Int) (A1 A2 : Option Addr) (c1 c2 : Nat) (a b : K) (w : World) (hv : cmpK a b = v) (h1 : At w w.heap.size A1 c1 a) (h2 : At w w.heap.size A2 c2 b) :
    Calls Try.prog 43 #[key A1 c1 a, key A2 c2 b] w fun e w' => e = .returned (.int .i64 v) ∧ Below w.heap.size w w' := by
  subst hv
  exact cmp_any A1 A2 c1 c2 a b w h1 h2
theorem rcmp_as (v : Int) (A1 A2 : Option Addr) (c1 c2 : Nat) (a b : K) (w : World) (hv : cmpK a b = v) (h1 : At w w.heap.size A1 c1 a) (h2 : At w w.heap.size A2 c2 b) :
    Calls Try.prog 24 #[key A1 c1 a, key A2 c2 b] w fun e w' => e = .returned (.int .i64 v) ∧ Below w.heap.size w w' := by
  subst hv
  exact rcmp_any A1 A2 c1 c2 a b w h1 h2
end Go.Proofs.Ytobjiamdljjkjaa.Ik
