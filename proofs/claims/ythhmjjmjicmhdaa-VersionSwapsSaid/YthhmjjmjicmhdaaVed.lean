/- Edits in a slice, as they lie; a slice of edits as a parameter; what a version keeps where a version's box is written. -/
import Derived.Test.YthhmjjmjicmhdaaVlw
import Derived.Deep.Slices
import Derived.Deep.Strs
namespace Go.Proofs.Ythhmjjmjicmhdaa.Ve
set_option linter.unusedVariables false
set_option linter.unusedSimpArgs false
open Go.ChangeShapes Go.WideShapes Go.ChangeAt Go.RowKit Lift Ik Ed
def cellsE (L : List X) : List Value := L.flatMap X.cells
theorem cellsE_length (L : List X) : (cellsE L).length = L.length * 5 := by
  induction L with
  | nil => rfl
  | cons d L ih => simp only [cellsE, List.flatMap_cons, List.length_append, List.length_cons] at ih ⊢; rw [ih]; simp; omega
theorem cellsE_at {L : List X} {i : Nat} {d : X} (h : L[i]? = some d) (j : Nat) (hj : j < 5) : (cellsE L)[i * 5 + j]? = d.cells[j]? := by
  induction L generalizing i with
  | nil => simp at h
  | cons e L ih =>
    have hc : cellsE (e :: L) = e.cells ++ cellsE L := rfl
    rw [hc]
    cases i with
    | zero =>
      simp at h; subst h
      rw [List.getElem?_append_left (by simp; omega)]; simp
    | succ i =>
      simp at h
      rw [List.getElem?_append_right (by simp; omega), ← ih h]
      congr 1
      simp; omega
/-- A slice of edits. -/
structure Eds (w : World) (B : Nat) (A : Option Addr) (c : Nat) (L : List X) : Prop where
  lies : Lies w B A (cellsE L)
  len : L.length ≤ c
  cap : c ≤ maxLen
  ok : ∀ x, x ∈ L → x.Ok w B
section
variable {w w' : World} {B : Nat} {A : Option Addr} {c : Nat} {L : List X}
theorem Eds.below (h : Eds w B A c L) (hb : Below B w w') : Eds w' B A c L := ⟨h.lies.below hb, h.len, h.cap, fun d hd => (h.ok d hd).below hb⟩
theorem Eds.up {B' : Nat} (h : Eds w B A c L) (hB : B ≤ B') : Eds w B' A c L := ⟨h.lies.up hB, h.len, h.cap, fun d hd => (h.ok d hd).up hB⟩
theorem Eds.zero (w : World) (B : Nat) : Eds w B none 0 [] := ⟨.inl rfl, Nat.le_refl _, by decide, fun _ h => by simp at h⟩
/-- The cells of one edit, as a walk spells them; the edit, loaded whole. -/
theorem Eds.place (h : Eds w B A c L) {i : Nat} {x : X} (hd : L[i]? = some x) :
    ∃ ad p : Addr, A = some ad ∧ p.block < B ∧ ad.add (i * 5) = p ∧ w.cell? p = some (.slice x.addA x.add.length x.addC) ∧ w.cell? ⟨p.block, p.off + 1, none⟩ = some (.slice x.dropA x.drop.length x.dropC) ∧ w.cell? ⟨p.block, p.off + 2, none⟩ = some (.int .i64 x.next) ∧ w.cell? ⟨p.block, p.off + 3, none⟩ = some (.int .i64 x.log) ∧ w.cell? ⟨p.block, p.off + 4, none⟩ = some (.int .u64 (x.seq : Int)) := by
  have hl := (List.getElem?_eq_some_iff.1 hd).1
  obtain ⟨ad, ha, hb, hc⟩ := h.lies.place (by rw [cellsE_length]; omega)
  have e : ∀ j : Nat, j ≠ 0 → (⟨(ad.add (i * 5)).block, (ad.add (i * 5)).off + j, none⟩ : Addr) = ad.add (i * 5 + j) := by
    intro j hj
    have hne : ¬ i * 5 + j = 0 := by omega
    unfold Addr.add
    rw [if_neg hne]
    split <;> simp <;> omega
  refine ⟨ad, _, ha, by rw [add_block]; exact hb, rfl, hc _ _ (by have := cellsE_at hd 0 (by omega); simpa using this), ?_, ?_, ?_, ?_⟩
  · rw [e 1 (by decide)]; exact hc _ _ (by have := cellsE_at hd 1 (by omega); simpa using this)
  · rw [e 2 (by decide)]; exact hc _ _ (by have := cellsE_at hd 2 (by omega); simpa using this)
  · rw [e 3 (by decide)]; exact hc _ _ (by have := cellsE_at hd 3 (by omega); simpa using this)
  · rw [e 4 (by decide)]; exact hc _ _ (by have := cellsE_at hd 4 (by omega); simpa using this)
theorem load_edit {p : Addr} {x : X} (h0 : w.cell? p = some (.slice x.addA x.add.length x.addC)) (h1 : w.cell? ⟨p.block, p.off + 1, none⟩ = some (.slice x.dropA x.drop.length x.dropC)) (h2 : w.cell? ⟨p.block, p.off + 2, none⟩ = some (.int .i64 x.next)) (h3 : w.cell? ⟨p.block, p.off + 3, none⟩ = some (.int .i64 x.log)) (h4 : w.cell? ⟨p.block, p.off + 4, none⟩ = some (.int .u64 (x.seq : Int))) :
    Sem.run Try.prog (loadVar 26 p) w = .ok x.v w := by
  have hl := run_loadCells_list (P := Try.prog) w p x.cells (fun j v hj => by
    rcases j with _ | _ | _ | _ | _ | j
    · simp at hj; subst hj; exact h0
    · simp at hj; subst hj; exact h1
    · simp at hj; subst hj; exact h2
    · simp at hj; subst hj; exact h3
    · simp at hj; subst hj; exact h4
    · simp at hj)
  have hagg : Sem.run Try.prog (isAgg 26) w = .ok true w := by
    unfold isAgg
    rw [Sem.run_bind, run_underlying Try.underlying26 w]
    simp
  obtain ⟨i, hi, hs⟩ : ∃ i, Try.prog.info? 26 = some i ∧ i.size = 5 := by
    have : (Try.prog.info? 26).map (·.size) = some 5 := by kernel_rfl
    cases hq : Try.prog.info? 26 with
    | none => rw [hq] at this; cases this
    | some i => rw [hq] at this; exact ⟨i, rfl, by simpa using this⟩
  have hl3 : (loadCells p 5).run Try.prog w = .ok #[.slice x.addA x.add.length x.addC, .slice x.dropA x.drop.length x.dropC, .int .i64 x.next, .int .i64 x.log, .int .u64 (x.seq : Int)] w := hl
  simp [loadVar, Sem.run_bind, hagg, sizeOf, typeInfo, hi, hs, hl3]
end
set_option maxRecDepth 100000 in
set_option maxHeartbeats 1600000 in
theorem open_edits_at {H : Type} {enc : TypeId × Value → H} {W : World} {v : Value} {y : DataW H × List MemPlace} {n : Nat} (h : DataW.trod enc Try.prog W 0 (fun _ => true) true n 54 [v] = some y)
    (hlt : ∀ x, x ∈ y.2 → x.block < W.heap.size) : ∃ (A : Option Addr) (c : Nat) (L : List X), v = .slice A L.length c ∧ Eds W W.heap.size A c L := by
  have h7 : Try.prog.cellsOf 26 = 5 := by kernel_rfl
  have c1 : Try.prog.cellsOf 3 = 1 := by kernel_rfl
  have c2 : Try.prog.cellsOf 23 = 1 := by kernel_rfl
  have c3 : Try.prog.cellsOf 24 = 1 := by kernel_rfl
  have c4 : Try.prog.cellsOf 22 = 1 := by kernel_rfl
  rcases Deep.open_slice Try.underlying54 h with ⟨hcs, _⟩ | ⟨a, len, cap, m, n', E, Pl, hcs, _, hl, hm, hmm, rfl, hx⟩
  · simp at hcs
    subst hcs
    exact ⟨none, 0, [], rfl, Eds.zero _ _⟩
  · simp at hcs hmm
    subst hcs hmm
    rw [h7] at hx hlt
    have each : ∀ i, i < len → ∃ d : X, (∀ j, j < 5 → W.cell? (a.add (i * 5 + j)) = d.cells[j]?) ∧ d.Ok W W.heap.size := by
      intro i hi
      obtain ⟨cs', h1, h2⟩ := hx i (by omega)
      obtain ⟨_, hlen, hcell⟩ := World.cells?_some h1
      obtain ⟨xs, n2, _, hy, _, hxl, hf⟩ := DataW.trod_struct Try.underlying26 h2
      match cs', hlen, xs, hxl with
      | [v0, v1, v2, v3, v4], _, [y0, y1, y2, y3, y4], _ =>
        have hpl : ∀ x, x ∈ (Pl i) → x.block < W.heap.size := fun x hx2 => hlt x (List.mem_append_right _ (List.mem_flatMap.2 ⟨i, List.mem_range.2 (by omega), hx2⟩))
        have hpe : Pl i = y0.2 ++ (y1.2 ++ (y2.2 ++ (y3.2 ++ y4.2))) := by
          have := congrArg Prod.snd hy
          simpa using this
        rw [hpe] at hpl
        have t0 := hf 0 _ rfl
        have t1 := hf 1 _ rfl
        have t2 := hf 2 _ rfl
        have t3 := hf 3 _ rfl
        have t4 := hf 4 _ rfl
        obtain ⟨A0, q0, L0, rfl, hr0⟩ := open_runs_at (n := n2) (y := y0) (v := v0) (by simpa [c4] using t0) (fun x hx2 => hpl x (by simp [hx2]))
        obtain ⟨A1, q1, zs1, rfl, hc1, hm1, hl1, hw1⟩ := open_nums_at Try.underlying23 Try.underlying3 (by kernel_rfl) (n := n2) (y := y1) (v := v1) (by simpa [c2] using t1) (fun x hx2 => hpl x (by simp [hx2]))
        obtain ⟨k2, rfl, wk2⟩ := open_int_at (k := .i64) (n := n2) (y := y2) Try.underlying3 (v := v2) (by simpa [c1] using t2)
        obtain ⟨k3, rfl, wk3⟩ := open_int_at (k := .i64) (n := n2) (y := y3) Try.underlying3 (v := v3) (by simpa [c1] using t3)
        obtain ⟨k4, rfl, wk4⟩ := open_int_at (k := .u64) (n := n2) (y := y4) Try.underlying24 (v := v4) (by simpa [c3] using t4)
        obtain ⟨s, rfl⟩ := Int.eq_ofNat_of_zero_le (u64_of wk4).1
        have bs := (u64_of wk4).2
        refine ⟨⟨A0, q0, L0, A1, q1, zs1, k2, k3, s⟩, fun j hj => ?_, ⟨hr0, hl1, hc1, hm1, hw1, wk2, wk3, by show s < 18446744073709551616; omega⟩⟩
        have := hcell j hj
        rw [Deep.add_add] at this
        rw [this]
    obtain ⟨f, hf⟩ : ∃ f : Nat → X, ∀ i, i < len → (∀ j, j < 5 → W.cell? (a.add (i * 5 + j)) = (f i).cells[j]?) ∧ (f i).Ok W W.heap.size := by
      by_cases h0 : len = 0
      · exact ⟨fun _ => zeroX, fun i hi => by omega⟩
      · haveI : Inhabited X := ⟨zeroX⟩
        exact Deep.choose_lt each
    have hL : ((List.range len).map f).length = len := by simp
    refine ⟨some a, m, (List.range len).map f, by rw [hL], ?_, by rw [hL]; exact hl, hm, fun d hd => ?_⟩
    · by_cases h0 : len = 0
      · left; subst h0; rfl
      · refine .inr ⟨a, rfl, ?_, fun j u hu => ?_⟩
        · exact hlt (.cell a.block (a.off + 0)) (List.mem_append_left _ (by unfold MemPlace.row; exact List.mem_map.2 ⟨0, by simp; omega, rfl⟩))
        · have hj := (List.getElem?_eq_some_iff.1 hu).1
          rw [cellsE_length, hL] at hj
          have hd : ((List.range len).map f)[j / 5]? = some (f (j / 5)) := by
            rw [List.getElem?_map, List.getElem?_range (by omega)]; rfl
          have h1 := cellsE_at hd (j % 5) (Nat.mod_lt _ (by decide))
          rw [show j / 5 * 5 + j % 5 = j by omega, hu] at h1
          have h2 := (hf (j / 5) (by omega)).1 (j % 5) (Nat.mod_lt _ (by decide))
          rw [show j / 5 * 5 + j % 5 = j by omega] at h2
          rw [h2, ← h1]
    · obtain ⟨i, hi, rfl⟩ := List.mem_map.1 hd
      exact (hf i (by simpa using hi)).2
set_option maxRecDepth 100000 in
/-- A parameter that is a slice of edits. -/
theorem open_edits {H : Type} {enc : TypeId × Value → H} {W : World} {v : Value} {d : DataW H} {p : List MemPlace} {base : Nat} (hok : Value.okWide Try.prog W .any base 54 v)
    (h : DataW.Trod enc Try.prog W 0 (fun _ => true) true 54 v d p) (hlt : ∀ x, x ∈ p → x.block < W.heap.size) : ∃ (A : Option Addr) (c : Nat) (L : List X), v = .slice A L.length c ∧ Eds W W.heap.size A c L := by
  obtain ⟨a0, len, cap, rfl⟩ := okWide_slice Try.underlying54 hok
  obtain ⟨fuel, hf⟩ := h
  exact open_edits_at (n := fuel) (y := (d, p)) (by simpa [Value.cells] using hf) hlt
/-! ### A version's box is written -/
section
variable {w w' : World} {g : Nat} {us : List Value}
/-- A box of a version has no room for a run, and no bytes. -/
structure Vbox (w : World) (g : Nat) : Prop where
  box : ∃ us, Box w g 44 us ∧ us.length = 4 ∧ ∀ u, u ∈ us → ∀ c : Nat, u ≠ vb c
theorem vbox_of {y : Y} (h : Box w g 44 y.cells) : Vbox w g := ⟨_, h, rfl, fun u hu c => by
  simp at hu
  rcases hu with rfl | rfl | rfl | rfl <;> simp⟩
theorem runs_off (hv : Vbox w g) {B c : Nat} {A : Option Addr} {L : List D} (h : Runs w B A c L) : L = [] ∨ ∃ ad, A = some ad ∧ ad.block ≠ g := by
  obtain ⟨us, hb, hl, _⟩ := hv.box
  cases L with
  | nil => exact .inl rfl
  | cons d L =>
    right
    obtain ⟨ad, p, ha, -, hp, _, _, _, _, _, q5⟩ := h.place (i := 0) (d := d) rfl
    refine ⟨ad, ha, fun e => ?_⟩
    have e2 : p.block = g := by rw [← hp, add_block]; exact e
    rw [e2, hb.cell] at q5
    have := (List.getElem?_eq_some_iff.1 q5).1
    omega
theorem lies_keep (hv : Vbox w g) {B : Nat} {A : Option Addr} {b : List Nat} (h : LiesP w (· < B) A (b.map vb)) (hk : Keep (· = g) w w') (hB : B ≤ w.heap.size) : LiesP w' (· < B) A (b.map vb) := by
  obtain ⟨us, hb, hl, hu⟩ := hv.box
  rcases h with h | ⟨ad, ha, hlt, hc⟩
  · exact .inl h
  · cases b with
    | nil => exact .inl rfl
    | cons c b =>
      have hne : ad.block ≠ g := by
        intro e
        have h0 := hc 0 (vb c) rfl
        have e0 : ad.add 0 = ad := by unfold Addr.add; simp
        rw [e0] at h0
        obtain ⟨blk, off, spot⟩ := ad
        simp only at e
        subst e
        cases spot with
        | none =>
          rw [hb.cell] at h0
          exact hu _ (List.mem_of_getElem? h0) c rfl
        | some s =>
          unfold Lift.Box at hb
          simp [World.cell?, hb] at h0
      exact .inr ⟨ad, ha, hlt, fun j u hj => (World.cell?_of_block (w := w) (by rw [add_block]; exact hk.block _ (Nat.lt_of_lt_of_le hlt hB) hne)).trans (hc j u hj)⟩
theorem runs_poke (hv : Vbox w g) {B c : Nat} {A : Option Addr} {L : List D} (h : Runs w B A c L) (hk : Keep (· = g) w w') (hB : B ≤ w.heap.size) : Runs w' B A c L := by
  refine ⟨?_, h.len, h.cap, fun d hd => ?_⟩
  · rcases runs_off hv h with rfl | ⟨ad, rfl, hne⟩
    · exact .inl rfl
    · rcases h.lies with h1 | ⟨ad', e, hlt, hc⟩
      · exact .inl h1
      · injection e with e
        subst e
        exact .inr ⟨ad, rfl, hlt, fun j u hj => (World.cell?_of_block (w := w) (by rw [add_block]; exact hk.block _ (Nat.lt_of_lt_of_le hlt hB) hne)).trans (hc j u hj)⟩
  · have h2 := h.ok d hd
    exact ⟨h2.w0, h2.w1, h2.w2, lies_keep hv h2.fl hk hB, h2.fc, h2.fm, h2.f8, lies_keep hv h2.ll hk hB, h2.lc, h2.lm, h2.l8, h2.sq⟩
theorem Y.Ok.poke {y : Y} (h : y.Ok w w.heap.size) (hv : Vbox w g) (hk : Keep (· = g) w w') : y.Ok w' w'.heap.size := ⟨(runs_poke hv h.runs hk (Nat.le_refl _)).up hk.size, h.wn, h.wl, h.sq⟩
end
end Go.Proofs.Ythhmjjmjicmhdaa.Ve
