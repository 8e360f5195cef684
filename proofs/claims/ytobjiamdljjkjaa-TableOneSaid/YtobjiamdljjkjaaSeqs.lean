/- A slice of slices of bytes, as it came in. -/
import Derived.Test.YtobjiamdljjkjaaSeg
import Derived.Test.YtobjiamdljjkjaaOpen
import Derived.Test.YtobjiamdljjkjaaByt
import Derived.Deep.Slices
namespace Go.Proofs.Ytobjiamdljjkjaa.Sq
set_option linter.unusedVariables false
set_option linter.unusedSimpArgs false
open Go.ChangeShapes Go.WideShapes Go.ChangeAt Go.RowKit Lift Ik

/-- Bytes as they lie. -/
structure E where
  a : Option Addr
  c : Nat
  bs : List Nat
abbrev E.v (e : E) : Value := .slice e.a e.bs.length e.c
structure E.Ok (w : World) (B : Nat) (e : E) : Prop where
  lies : Lies w B e.a (e.bs.map vb)
  cap : e.bs.length ≤ e.c
  max : e.c ≤ maxLen
  byte : ∀ x, x ∈ e.bs → x < 256
/-- A slice of slices of bytes. -/
structure Seqs (w : World) (B : Nat) (A : Option Addr) (c : Nat) (L : List E) : Prop where
  lies : Lies w B A (L.map E.v)
  len : L.length ≤ c
  cap : c ≤ maxLen
  ok : ∀ e, e ∈ L → e.Ok w B
section
variable {w w' : World} {B : Nat} {A : Option Addr} {c : Nat} {L : List E}
theorem E.Ok.below {e : E} (h : e.Ok w B) (hb : Below B w w') : e.Ok w' B := ⟨h.lies.below hb, h.cap, h.max, h.byte⟩
theorem Seqs.up {B' : Nat} (h : Seqs w B A c L) (hB : B ≤ B') : Seqs w B' A c L := ⟨h.lies.up hB, h.len, h.cap, fun e he => ⟨(h.ok e he).lies.up hB, (h.ok e he).cap, (h.ok e he).max, (h.ok e he).byte⟩⟩
theorem Seqs.below (h : Seqs w B A c L) (hb : Below B w w') : Seqs w' B A c L := ⟨h.lies.below hb, h.len, h.cap, fun e he => (h.ok e he).below hb⟩
theorem Seqs.place (h : Seqs w B A c L) {i : Nat} {e : E} (he : L[i]? = some e) : ∃ ad : Addr, A = some ad ∧ ad.block < B ∧ w.cell? (ad.add i) = some (.slice e.a e.bs.length e.c) := by
  have hl := (List.getElem?_eq_some_iff.1 he).1
  obtain ⟨ad, ha, hb, hc⟩ := h.lies.place (by rw [List.length_map]; omega)
  exact ⟨ad, ha, hb, hc i _ (by rw [List.getElem?_map, he]; rfl)⟩
end
theorem open_seqs_at {H : Type} {enc : TypeId × Value → H} {W : World} {v : Value} {y : DataW H × List MemPlace} {n : Nat} (h : DataW.trod enc Try.prog W 0 (fun _ => true) true n 85 [v] = some y)
    (hlt : ∀ x, x ∈ y.2 → x.block < W.heap.size) : ∃ (A : Option Addr) (c : Nat) (L : List E), v = .slice A L.length c ∧ Seqs W W.heap.size A c L := by
  have c2 : Try.prog.cellsOf 25 = 1 := by kernel_rfl
  rcases Deep.open_slice Try.underlying85 h with ⟨hcs, _⟩ | ⟨a, len, cap, m, n', Y, Pl, hcs, _, hl, hm, hmm, rfl, hx⟩
  · simp at hcs
    subst hcs
    exact ⟨none, 0, [], rfl, .inl rfl, Nat.le_refl _, by decide, by simp⟩
  · simp at hcs hmm
    subst hcs hmm
    rw [c2] at hx hlt
    have each : ∀ i, i < len → ∃ e : E, W.cell? (a.add i) = some e.v ∧ e.Ok W W.heap.size := by
      intro i hi
      obtain ⟨cs', h1, h2⟩ := hx i (by omega)
      obtain ⟨_, hlen, hcell⟩ := World.cells?_some h1
      match cs', hlen with
      | [v0], _ =>
        obtain ⟨A1, q1, zs1, rfl, hc1, hm1, hl1, hw1⟩ := open_nums_at Try.underlying25 Try.underlying5 (by kernel_rfl) (v := v0) h2 (fun x hx2 => hlt x (List.mem_append_right _ (List.mem_flatMap.2 ⟨i, List.mem_range.2 (by omega), hx2⟩)))
        obtain ⟨bs1, rfl, hz1⟩ := as_nat zs1 fun n hn => (u8_of (hw1 n hn)).1
        rw [List.map_map] at hl1
        rw [List.length_map] at hc1 hcell
        refine ⟨⟨A1, q1, bs1⟩, ?_, hl1, hc1, hm1, fun x hx2 => ?_⟩
        · have := hcell 0 (by decide)
          rw [Lift.add_add] at this
          simpa using this
        · have := (u8_of (hw1 _ (hz1 x hx2))).2; omega
    obtain ⟨f, hf⟩ : ∃ f : Nat → E, ∀ i, i < len → W.cell? (a.add i) = some (f i).v ∧ (f i).Ok W W.heap.size := by
      by_cases h0 : len = 0
      · exact ⟨fun _ => ⟨none, 0, []⟩, fun i hi => by omega⟩
      · haveI : Inhabited E := ⟨⟨none, 0, []⟩⟩
        exact Deep.choose_lt each
    have hL : ((List.range len).map f).length = len := by simp
    refine ⟨some a, m, (List.range len).map f, by rw [hL], ?_, by rw [hL]; exact hl, hm, fun e he => ?_⟩
    · by_cases h0 : len = 0
      · left; subst h0; rfl
      · refine .inr ⟨a, rfl, ?_, fun j u hu => ?_⟩
        · exact hlt (.cell a.block (a.off + 0)) (List.mem_append_left _ (by unfold MemPlace.row; exact List.mem_map.2 ⟨0, by simp; omega, rfl⟩))
        · have hj := (List.getElem?_eq_some_iff.1 hu).1
          rw [List.length_map, hL] at hj
          rw [List.getElem?_map, List.getElem?_map, List.getElem?_range hj] at hu
          cases hu
          exact (hf j hj).1
    · obtain ⟨i, hi, rfl⟩ := List.mem_map.1 he
      exact (hf i (by simpa using hi)).2
set_option maxRecDepth 100000 in
theorem open_seqs {H : Type} {enc : TypeId × Value → H} {W : World} {v : Value} {d : DataW H} {p : List MemPlace} {base : Nat} (hok : Value.okWide Try.prog W .any base 85 v)
    (h : DataW.Trod enc Try.prog W 0 (fun _ => true) true 85 v d p) (hlt : ∀ x, x ∈ p → x.block < W.heap.size) : ∃ (A : Option Addr) (c : Nat) (L : List E), v = .slice A L.length c ∧ Seqs W W.heap.size A c L := by
  obtain ⟨a0, len, cap, rfl⟩ := okWide_slice Try.underlying85 hok
  obtain ⟨fuel, hf⟩ := h
  exact open_seqs_at (n := fuel) (y := (d, p)) (by simpa [Value.cells] using hf) hlt
end Go.Proofs.Ytobjiamdljjkjaa.Sq
