/- The calls of a row of butterylaw10, as they lie in memory: a slice of structs of two numbers. -/
import Derived.Test.YtmnhklfljfglhaaBlaw
import Derived.Test.YtmnhklfljfglhaaOpen
import Derived.Deep.Slices
import Derived.Deep.Strs
namespace Go.Proofs.Ytmnhklfljfglhaa.Bu
set_option linter.unusedVariables false
set_option linter.unusedSimpArgs false
open Go.ChangeShapes Go.WideShapes Go.ChangeAt Go.RowKit Lift Ik

structure Ac where
  way : Int
  n : Int
def Ac.cells (d : Ac) : List Value := [.int .i64 d.way, .int .i64 d.n]
def cellsA (L : List Ac) : List Value := L.flatMap Ac.cells
theorem cellsA_length (L : List Ac) : (cellsA L).length = L.length * 2 := by
  induction L with
  | nil => rfl
  | cons d L ih => simp only [cellsA, List.flatMap_cons, List.length_append, List.length_cons] at ih ⊢; rw [ih]; simp [Ac.cells]; omega
theorem cellsA_at {L : List Ac} {i : Nat} {d : Ac} (h : L[i]? = some d) (j : Nat) (hj : j < 2) : (cellsA L)[i * 2 + j]? = d.cells[j]? := by
  induction L generalizing i with
  | nil => simp at h
  | cons e L ih =>
    have hc : cellsA (e :: L) = e.cells ++ cellsA L := rfl
    rw [hc]
    cases i with
    | zero =>
      simp at h; subst h
      rw [List.getElem?_append_left (by simp [Ac.cells]; omega)]; simp
    | succ i =>
      simp at h
      rw [List.getElem?_append_right (by simp [Ac.cells]; omega), ← ih h]
      congr 1
      simp [Ac.cells]; omega
structure Ac.Ok (d : Ac) : Prop where
  w0 : (Lit.int .i64 d.way).wf = true
  w1 : (Lit.int .i64 d.n).wf = true
structure Acts (w : World) (B : Nat) (A : Option Addr) (c : Nat) (L : List Ac) : Prop where
  lies : Lies w B A (cellsA L)
  len : L.length ≤ c
  cap : c ≤ maxLen
  ok : ∀ g, g ∈ L → g.Ok
theorem Acts.below {w w' : World} {B c : Nat} {A : Option Addr} {L : List Ac} (h : Acts w B A c L) (hb : Below B w w') : Acts w' B A c L := ⟨h.lies.below hb, h.len, h.cap, h.ok⟩
/-- The cells of one call, as a walk spells them, wherever nothing old has changed. -/
theorem Acts.place {w : World} {B c : Nat} {A : Option Addr} {L : List Ac} (h : Acts w B A c L) {i : Nat} {d : Ac} (hd : L[i]? = some d) :
    ∃ ad p : Addr, A = some ad ∧ ad.add (i * 2) = p ∧ ∀ w', Below B w w' → w'.cell? p = some (.int .i64 d.way) ∧ w'.cell? ⟨p.block, p.off + 1, none⟩ = some (.int .i64 d.n) := by
  have hl := (List.getElem?_eq_some_iff.1 hd).1
  obtain ⟨ad, ha, hb, hc⟩ := h.lies.place (by rw [cellsA_length]; omega)
  have e : (⟨(ad.add (i * 2)).block, (ad.add (i * 2)).off + 1, none⟩ : Addr) = ad.add (i * 2 + 1) := by
    have hne : ¬ i * 2 + 1 = 0 := by omega
    unfold Addr.add
    rw [if_neg hne]
    split <;> simp <;> omega
  have hp : (ad.add (i * 2)).block < B := by rw [add_block]; exact hb
  refine ⟨ad, _, ha, rfl, fun w' hw => ⟨(hw.cell hp).trans (hc _ _ (by have := cellsA_at hd 0 (by omega); simpa [Ac.cells] using this)), (hw.cell (p := ⟨(ad.add (i * 2)).block, (ad.add (i * 2)).off + 1, none⟩) hp).trans ?_⟩⟩
  rw [e]; exact hc _ _ (by have := cellsA_at hd 1 (by omega); simpa [Ac.cells] using this)
set_option maxRecDepth 100000 in
set_option maxHeartbeats 800000 in
theorem open_acts_at {H : Type} {enc : TypeId × Value → H} {W : World} {v : Value} {y : DataW H × List MemPlace} {n : Nat} (h : DataW.trod enc Try.prog W 0 (fun _ => true) true n 47 [v] = some y)
    (hlt : ∀ x, x ∈ y.2 → x.block < W.heap.size) : ∃ (A : Option Addr) (c : Nat) (L : List Ac), v = .slice A L.length c ∧ Acts W W.heap.size A c L := by
  have h2c : Try.prog.cellsOf 54 = 2 := by kernel_rfl
  have c1 : Try.prog.cellsOf 3 = 1 := by kernel_rfl
  rcases Deep.open_slice Try.underlying47 h with ⟨hcs, _⟩ | ⟨a, len, cap, m, n', E, Pl, hcs, _, hl, hm, hmm, rfl, hx⟩
  · simp at hcs
    subst hcs
    exact ⟨none, 0, [], rfl, .inl rfl, Nat.le_refl _, by decide, fun _ h => by simp at h⟩
  · simp at hcs hmm
    subst hcs hmm
    rw [h2c] at hx hlt
    have each : ∀ i, i < len → ∃ d : Ac, (∀ j, j < 2 → W.cell? (a.add (i * 2 + j)) = d.cells[j]?) ∧ d.Ok := by
      intro i hi
      obtain ⟨cs', h1, h2⟩ := hx i (by omega)
      obtain ⟨_, hlen, hcell⟩ := World.cells?_some h1
      obtain ⟨xs, n2, _, hy, _, hxl, hf⟩ := DataW.trod_struct Try.underlying54 h2
      match cs', hlen, xs, hxl with
      | [v0, v1], _, [y0, y1], _ =>
        have t0 := hf 0 _ rfl
        have t1 := hf 1 _ rfl
        obtain ⟨k0, rfl, wk0⟩ := open_int_at (k := .i64) (n := n2) (y := y0) Try.underlying3 (v := v0) (by simpa [c1] using t0)
        obtain ⟨k1, rfl, wk1⟩ := open_int_at (k := .i64) (n := n2) (y := y1) Try.underlying3 (v := v1) (by simpa [c1] using t1)
        refine ⟨⟨k0, k1⟩, fun j hj => ?_, wk0, wk1⟩
        have := hcell j hj
        rw [Deep.add_add] at this
        rw [this]
        simp [Ac.cells]
    obtain ⟨f, hf⟩ : ∃ f : Nat → Ac, ∀ i, i < len → (∀ j, j < 2 → W.cell? (a.add (i * 2 + j)) = (f i).cells[j]?) ∧ (f i).Ok := by
      by_cases h0 : len = 0
      · exact ⟨fun _ => ⟨0, 0⟩, fun i hi => by omega⟩
      · haveI : Inhabited Ac := ⟨⟨0, 0⟩⟩
        exact Deep.choose_lt each
    have hL : ((List.range len).map f).length = len := by simp
    refine ⟨some a, m, (List.range len).map f, by rw [hL], ?_, by rw [hL]; exact hl, hm, fun d hd => ?_⟩
    · by_cases h0 : len = 0
      · left; subst h0; rfl
      · refine .inr ⟨a, rfl, ?_, fun j u hu => ?_⟩
        · exact hlt (.cell a.block (a.off + 0)) (List.mem_append_left _ (by unfold MemPlace.row; exact List.mem_map.2 ⟨0, by simp; omega, rfl⟩))
        · have hj := (List.getElem?_eq_some_iff.1 hu).1
          rw [cellsA_length, hL] at hj
          have hd : ((List.range len).map f)[j / 2]? = some (f (j / 2)) := by
            rw [List.getElem?_map, List.getElem?_range (by omega)]; rfl
          have h1 := cellsA_at hd (j % 2) (Nat.mod_lt _ (by decide))
          rw [show j / 2 * 2 + j % 2 = j by omega, hu] at h1
          have h2 := (hf (j / 2) (by omega)).1 (j % 2) (Nat.mod_lt _ (by decide))
          rw [show j / 2 * 2 + j % 2 = j by omega] at h2
          rw [h2, ← h1]
    · obtain ⟨i, hi, rfl⟩ := List.mem_map.1 hd
      exact (hf i (by simpa using hi)).2
set_option maxRecDepth 100000 in
theorem open_acts {H : Type} {enc : TypeId × Value → H} {W : World} {v : Value} {d : DataW H} {p : List MemPlace} {base : Nat} (hok : Value.okWide Try.prog W .any base 47 v)
    (h : DataW.Trod enc Try.prog W 0 (fun _ => true) true 47 v d p) (hlt : ∀ x, x ∈ p → x.block < W.heap.size) :
    ∃ (A : Option Addr) (c : Nat) (L : List Ac), v = .slice A L.length c ∧ Acts W W.heap.size A c L := by
  obtain ⟨a0, len, cap, rfl⟩ := okWide_slice Try.underlying47 hok
  obtain ⟨fuel, hf⟩ := h
  exact open_acts_at (n := fuel) (y := (d, p)) (by simpa [Value.cells] using hf) hlt
end Go.Proofs.Ytmnhklfljfglhaa.Bu
