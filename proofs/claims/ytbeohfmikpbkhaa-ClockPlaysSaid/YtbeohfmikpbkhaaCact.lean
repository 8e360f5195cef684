/- The calls of a row of butterylaw14, as they lie in memory: a slice of structs of four fields. -/
import Derived.Test.YtbeohfmikpbkhaaOpen
import Derived.Test.YtbeohfmikpbkhaaCoL
import Derived.Deep.Slices
import Derived.Deep.Strs
namespace Go.Proofs.Ytbeohfmikpbkhaa.Ck
set_option linter.unusedVariables false
set_option linter.unusedSimpArgs false
open Go.ChangeShapes Go.WideShapes Go.ChangeAt Go.RowKit Lift Ik

structure Ac where
  way : Int
  file : Int
  off : Int
  ba : Option Addr
  bc : Nat
  b : List Nat
def Ac.cells (d : Ac) : List Value := [.int .i64 d.way, .int .i64 d.file, .int .i64 d.off, .slice d.ba d.b.length d.bc]
abbrev Ac.v (d : Ac) : Value := .agg #[.int .i64 d.way, .int .i64 d.file, .int .i64 d.off, .slice d.ba d.b.length d.bc]
def cellsA (L : List Ac) : List Value := L.flatMap Ac.cells
theorem cellsA_length (L : List Ac) : (cellsA L).length = L.length * 4 := by
  induction L with
  | nil => rfl
  | cons d L ih => simp only [cellsA, List.flatMap_cons, List.length_append, List.length_cons] at ih ⊢; rw [ih]; simp [Ac.cells]; omega
theorem cellsA_at {L : List Ac} {i : Nat} {d : Ac} (h : L[i]? = some d) (j : Nat) (hj : j < 4) : (cellsA L)[i * 4 + j]? = d.cells[j]? := by
  induction L generalizing i with
  | nil => simp at h
  | cons e L ih =>
    have hc : cellsA (e :: L) = e.cells ++ cellsA L := rfl
    rw [hc]
    cases i with
    | zero =>
      simp at h; subst h
      rw [List.getElem?_append_left (by simp [Ac.cells]; omega)]; simp
    | succ i =>
      simp at h
      rw [List.getElem?_append_right (by simp [Ac.cells]; omega), ← ih h]
      congr 1
      simp [Ac.cells]; omega
structure Ac.Ok (w : World) (B : Nat) (d : Ac) : Prop where
  w0 : wf64 d.way
  w1 : wf64 d.file
  w2 : wf64 d.off
  bl : Lies w B d.ba (d.b.map vb)
  bc : d.b.length ≤ d.bc
  bm : d.bc ≤ maxLen
  b8 : ∀ x, x ∈ d.b → x < 256
  bn : d.ba = none → d.b.length = 0 ∧ d.bc = 0
structure Acts (w : World) (B : Nat) (A : Option Addr) (c : Nat) (L : List Ac) : Prop where
  lies : Lies w B A (cellsA L)
  len : L.length ≤ c
  cap : c ≤ maxLen
  ok : ∀ g, g ∈ L → g.Ok w B
theorem Ac.Ok.below {w w' : World} {B : Nat} {d : Ac} (h : d.Ok w B) (hb : Below B w w') : d.Ok w' B := ⟨h.w0, h.w1, h.w2, h.bl.below hb, h.bc, h.bm, h.b8, h.bn⟩
theorem Acts.below {w w' : World} {B c : Nat} {A : Option Addr} {L : List Ac} (h : Acts w B A c L) (hb : Below B w w') : Acts w' B A c L := ⟨h.lies.below hb, h.len, h.cap, fun d hd => (h.ok d hd).below hb⟩
/-- The cells of one call, as a walk spells them. -/
theorem Acts.place {w : World} {B c : Nat} {A : Option Addr} {L : List Ac} (h : Acts w B A c L) {i : Nat} {d : Ac} (hd : L[i]? = some d) :
    ∃ ad p : Addr, A = some ad ∧ p.block < B ∧ ad.add (i * 4) = p ∧ w.cell? p = some (.int .i64 d.way) ∧ w.cell? ⟨p.block, p.off + 1, none⟩ = some (.int .i64 d.file) ∧ w.cell? ⟨p.block, p.off + 2, none⟩ = some (.int .i64 d.off) ∧
      w.cell? ⟨p.block, p.off + 3, none⟩ = some (.slice d.ba d.b.length d.bc) := by
  have hl := (List.getElem?_eq_some_iff.1 hd).1
  obtain ⟨ad, ha, hb, hc⟩ := h.lies.place (by rw [cellsA_length]; omega)
  have e : ∀ j : Nat, j ≠ 0 → (⟨(ad.add (i * 4)).block, (ad.add (i * 4)).off + j, none⟩ : Addr) = ad.add (i * 4 + j) := by
    intro j hj
    have hne : ¬ i * 4 + j = 0 := by omega
    unfold Addr.add
    rw [if_neg hne]
    split <;> simp <;> omega
  refine ⟨ad, _, ha, by rw [add_block]; exact hb, rfl, hc _ _ (by have := cellsA_at hd 0 (by omega); simpa [Ac.cells] using this), ?_, ?_, ?_⟩
  · rw [e 1 (by decide)]; exact hc _ _ (by have := cellsA_at hd 1 (by omega); simpa [Ac.cells] using this)
  · rw [e 2 (by decide)]; exact hc _ _ (by have := cellsA_at hd 2 (by omega); simpa [Ac.cells] using this)
  · rw [e 3 (by decide)]; exact hc _ _ (by have := cellsA_at hd 3 (by omega); simpa [Ac.cells] using this)
/-- The cells of a call, wherever nothing old has changed; the call, loaded whole. -/
structure Reads (w : World) (p : Addr) (d : Ac) : Prop where
  c0 : w.cell? p = some (.int .i64 d.way)
  c1 : w.cell? ⟨p.block, p.off + 1, none⟩ = some (.int .i64 d.file)
  c2 : w.cell? ⟨p.block, p.off + 2, none⟩ = some (.int .i64 d.off)
  c3 : w.cell? ⟨p.block, p.off + 3, none⟩ = some (.slice d.ba d.b.length d.bc)
theorem Reads.load {w : World} {p : Addr} {d : Ac} (h : Reads w p d) : Sem.run Try.prog (loadVar 30 p) w = .ok d.v w := by
  have hl := run_loadCells_list (P := Try.prog) w p d.cells (fun j v hj => by
    rcases j with _ | _ | _ | _ | j
    · simp [Ac.cells] at hj; subst hj; exact h.c0
    · simp [Ac.cells] at hj; subst hj; exact h.c1
    · simp [Ac.cells] at hj; subst hj; exact h.c2
    · simp [Ac.cells] at hj; subst hj; exact h.c3
    · simp [Ac.cells] at hj)
  have hagg : Sem.run Try.prog (isAgg 30) w = .ok true w := by
    unfold isAgg
    rw [Sem.run_bind, run_underlying Try.underlying30 w]
    simp
  obtain ⟨i, hi, hs⟩ : ∃ i, Try.prog.info? 30 = some i ∧ i.size = 4 := by
    have : (Try.prog.info? 30).map (·.size) = some 4 := by kernel_rfl
    cases hq : Try.prog.info? 30 with
    | none => rw [hq] at this; cases this
    | some i => rw [hq] at this; exact ⟨i, rfl, by simpa using this⟩
  have hl3 : (loadCells p 4).run Try.prog w = .ok #[.int .i64 d.way, .int .i64 d.file, .int .i64 d.off, .slice d.ba d.b.length d.bc] w := hl
  simp [loadVar, Sem.run_bind, hagg, sizeOf, typeInfo, hi, hs, hl3]
theorem Acts.reads {w : World} {B c : Nat} {A : Option Addr} {L : List Ac} (h : Acts w B A c L) {i : Nat} {d : Ac} (hd : L[i]? = some d) : ∃ ad p : Addr, A = some ad ∧ p.block < B ∧ ad.add (i * 4) = p ∧ ∀ w', Below B w w' → Reads w' p d := by
  obtain ⟨ad, p, h1, h2, h3, k0, k1, k2, k3⟩ := h.place hd
  exact ⟨ad, p, h1, h2, h3, fun w' hb => ⟨(hb.cell h2).trans k0, (hb.cell (p := ⟨p.block, p.off + 1, none⟩) h2).trans k1, (hb.cell (p := ⟨p.block, p.off + 2, none⟩) h2).trans k2, (hb.cell (p := ⟨p.block, p.off + 3, none⟩) h2).trans k3⟩⟩
/-- A slice that is nil has no room. -/
theorem nil_at {H : Type} {enc : TypeId × Value → H} {P : Program} {W : World} {t e : TypeId} {v : Value} {y : DataW H × List MemPlace} {n : Nat} (ht : P.underlying t = some (.slice e))
    (h : DataW.trod enc P W 0 (fun _ => true) true n t [v] = some y) {A : Option Addr} {l c : Nat} (hv : v = .slice A l c) : A = none → l = 0 ∧ c = 0 := by
  rintro rfl
  subst hv
  rcases Deep.open_slice ht h with ⟨hcs, _⟩ | ⟨a, len, cap, m, n', E, Pl, hcs, _⟩
  · simp at hcs; exact hcs
  · simp at hcs
set_option maxRecDepth 100000 in
set_option maxHeartbeats 800000 in
theorem open_acts_at {H : Type} {enc : TypeId × Value → H} {W : World} {v : Value} {y : DataW H × List MemPlace} {n : Nat} (h : DataW.trod enc Try.prog W 0 (fun _ => true) true n 22 [v] = some y)
    (hlt : ∀ x, x ∈ y.2 → x.block < W.heap.size) : ∃ (A : Option Addr) (c : Nat) (L : List Ac), v = .slice A L.length c ∧ Acts W W.heap.size A c L := by
  have h7 : Try.prog.cellsOf 30 = 4 := by kernel_rfl
  have c1 : Try.prog.cellsOf 3 = 1 := by kernel_rfl
  have c2 : Try.prog.cellsOf 28 = 1 := by kernel_rfl
  rcases Deep.open_slice Try.underlying22 h with ⟨hcs, _⟩ | ⟨a, len, cap, m, n', E, Pl, hcs, _, hl, hm, hmm, rfl, hx⟩
  · simp at hcs
    subst hcs
    exact ⟨none, 0, [], rfl, .inl rfl, Nat.le_refl _, by decide, fun _ h => by simp at h⟩
  · simp at hcs hmm
    subst hcs hmm
    rw [h7] at hx hlt
    have each : ∀ i, i < len → ∃ d : Ac, (∀ j, j < 4 → W.cell? (a.add (i * 4 + j)) = d.cells[j]?) ∧ d.Ok W W.heap.size := by
      intro i hi
      obtain ⟨cs', h1, h2⟩ := hx i (by omega)
      obtain ⟨_, hlen, hcell⟩ := World.cells?_some h1
      obtain ⟨xs, n2, _, hy, _, hxl, hf⟩ := DataW.trod_struct Try.underlying30 h2
      match cs', hlen, xs, hxl with
      | [v0, v1, v2, v3], _, [y0, y1, y2, y3], _ =>
        have hpl : ∀ x, x ∈ (Pl i) → x.block < W.heap.size := fun x hx2 => hlt x (List.mem_append_right _ (List.mem_flatMap.2 ⟨i, List.mem_range.2 (by omega), hx2⟩))
        have hpe : Pl i = y0.2 ++ (y1.2 ++ (y2.2 ++ y3.2)) := by
          have := congrArg Prod.snd hy
          simpa using this
        rw [hpe] at hpl
        have t0 := hf 0 _ rfl
        have t1 := hf 1 _ rfl
        have t2 := hf 2 _ rfl
        have t3 := hf 3 _ rfl
        obtain ⟨k0, rfl, wk0⟩ := open_int_at (k := .i64) (n := n2) (y := y0) Try.underlying3 (v := v0) (by simpa [c1] using t0)
        obtain ⟨k1, rfl, wk1⟩ := open_int_at (k := .i64) (n := n2) (y := y1) Try.underlying3 (v := v1) (by simpa [c1] using t1)
        obtain ⟨k2, rfl, wk2⟩ := open_int_at (k := .i64) (n := n2) (y := y2) Try.underlying3 (v := v2) (by simpa [c1] using t2)
        have t3' : DataW.trod enc Try.prog W 0 (fun _ => true) true n2 28 [v3] = some y3 := by simpa [c2] using t3
        obtain ⟨A1, q1, zs1, hv3, hc1, hm1, hl1, hw1⟩ := open_nums_at Try.underlying28 Try.underlying5 (by kernel_rfl) (n := n2) (y := y3) (v := v3) t3' (fun x hx2 => hpl x (by simp [hx2]))
        have hnil := nil_at Try.underlying28 t3' hv3
        subst hv3
        obtain ⟨bs1, rfl, hz1⟩ := as_nat zs1 fun n hn => (u8_of (hw1 n hn)).1
        rw [List.map_map] at hl1
        rw [List.length_map] at hc1 hcell hnil
        refine ⟨⟨k0, k1, k2, A1, q1, bs1⟩, fun j hj => ?_, ⟨wk0, wk1, wk2, hl1, hc1, hm1, fun b hb => ?_, hnil⟩⟩
        · have := hcell j hj
          rw [Deep.add_add] at this
          rw [this]
          simp [Ac.cells]
        · have := (u8_of (hw1 _ (hz1 b hb))).2; omega
    obtain ⟨f, hf⟩ : ∃ f : Nat → Ac, ∀ i, i < len → (∀ j, j < 4 → W.cell? (a.add (i * 4 + j)) = (f i).cells[j]?) ∧ (f i).Ok W W.heap.size := by
      by_cases h0 : len = 0
      · exact ⟨fun _ => ⟨0, 0, 0, none, 0, []⟩, fun i hi => by omega⟩
      · haveI : Inhabited Ac := ⟨⟨0, 0, 0, none, 0, []⟩⟩
        exact Deep.choose_lt each
    have hL : ((List.range len).map f).length = len := by simp
    refine ⟨some a, m, (List.range len).map f, by rw [hL], ?_, by rw [hL]; exact hl, hm, fun d hd => ?_⟩
    · by_cases h0 : len = 0
      · left; subst h0; rfl
      · refine .inr ⟨a, rfl, ?_, fun j u hu => ?_⟩
        · exact hlt (.cell a.block (a.off + 0)) (List.mem_append_left _ (by unfold MemPlace.row; exact List.mem_map.2 ⟨0, by simp; omega, rfl⟩))
        · have hj := (List.getElem?_eq_some_iff.1 hu).1
          rw [cellsA_length, hL] at hj
          have hd : ((List.range len).map f)[j / 4]? = some (f (j / 4)) := by
            rw [List.getElem?_map, List.getElem?_range (by omega)]; rfl
          have h1 := cellsA_at hd (j % 4) (Nat.mod_lt _ (by decide))
          rw [show j / 4 * 4 + j % 4 = j by omega, hu] at h1
          have h2 := (hf (j / 4) (by omega)).1 (j % 4) (Nat.mod_lt _ (by decide))
          rw [show j / 4 * 4 + j % 4 = j by omega] at h2
          rw [h2, ← h1]
    · obtain ⟨i, hi, rfl⟩ := List.mem_map.1 hd
      exact (hf i (by simpa using hi)).2
set_option maxRecDepth 100000 in
theorem open_acts {H : Type} {enc : TypeId × Value → H} {W : World} {v : Value} {d : DataW H} {p : List MemPlace} {base : Nat} (hok : Value.okWide Try.prog W .any base 22 v)
    (h : DataW.Trod enc Try.prog W 0 (fun _ => true) true 22 v d p) (hlt : ∀ x, x ∈ p → x.block < W.heap.size) :
    ∃ (A : Option Addr) (c : Nat) (L : List Ac), v = .slice A L.length c ∧ Acts W W.heap.size A c L := by
  obtain ⟨a0, len, cap, rfl⟩ := okWide_slice Try.underlying22 hok
  obtain ⟨fuel, hf⟩ := h
  exact open_acts_at (n := fuel) (y := (d, p)) (by simpa [Value.cells] using hf) hlt
end Go.Proofs.Ytbeohfmikpbkhaa.Ck
