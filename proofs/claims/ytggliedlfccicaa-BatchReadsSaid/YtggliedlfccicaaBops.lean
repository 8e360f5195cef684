/- Operations of a batch, as they lie in memory: a slice of structs with two slices each. -/
import Derived.Test.YtggliedlfccicaaSeg
import Derived.Test.YtggliedlfccicaaOpen
import Derived.Test.YtggliedlfccicaaLow
import Derived.Deep.Slices
import Derived.Deep.Strs
namespace Go.Proofs.Ytggliedlfccicaa.Bt
set_option linter.unusedVariables false
set_option linter.unusedSimpArgs false
open Go.ChangeShapes Go.WideShapes Go.ChangeAt Go.RowKit Lift Ik

/-- An operation as it lies: its kind, and address, capacity and bytes of its key and its value. -/
structure D where
  kind : Int
  ka : Option Addr
  kc : Nat
  key : List Nat
  va : Option Addr
  vc : Nat
  val : List Nat
abbrev D.v (d : D) : Value := .agg #[.int .i64 d.kind, .slice d.ka d.key.length d.kc, .slice d.va d.val.length d.vc]
def D.cells (d : D) : List Value := [.int .i64 d.kind, .slice d.ka d.key.length d.kc, .slice d.va d.val.length d.vc]
def cellsL (L : List D) : List Value := L.flatMap D.cells
theorem cellsL_length (L : List D) : (cellsL L).length = L.length * 3 := by
  induction L with
  | nil => rfl
  | cons d L ih => simp only [cellsL, List.flatMap_cons, List.length_append, List.length_cons] at ih ⊢; rw [ih]; simp [D.cells]; omega
theorem cellsL_append (L M : List D) : cellsL (L ++ M) = cellsL L ++ cellsL M := by simp [cellsL]
theorem cellsL_at {L : List D} {i : Nat} {d : D} (h : L[i]? = some d) (j : Nat) (hj : j < 3) : (cellsL L)[i * 3 + j]? = d.cells[j]? := by
  induction L generalizing i with
  | nil => simp at h
  | cons e L ih =>
    have hc : cellsL (e :: L) = e.cells ++ cellsL L := rfl
    rw [hc]
    cases i with
    | zero =>
      simp at h; subst h
      rw [List.getElem?_append_left (by simp [D.cells]; omega)]; simp
    | succ i =>
      simp at h
      rw [List.getElem?_append_right (by simp [D.cells]; omega), ← ih h]
      congr 1
      simp [D.cells]; omega
structure D.Ok (w : World) (R : Nat → Prop) (d : D) : Prop where
  kl : LiesP w R d.ka (d.key.map vb)
  kc : d.key.length ≤ d.kc
  km : d.kc ≤ maxLen
  k8 : ∀ c, c ∈ d.key → c < 256
  vl : LiesP w R d.va (d.val.map vb)
  vc : d.val.length ≤ d.vc
  vm : d.vc ≤ maxLen
  v8 : ∀ c, c ∈ d.val → c < 256
  lo : -9223372036854775808 ≤ d.kind
  hi : d.kind ≤ 9223372036854775807
theorem D.Ok.later {w w' : World} {R R' : Nat → Prop} {d : D} (h : d.Ok w R) (hk : ∀ k, R k → w'.heap[k]? = w.heap[k]?) (hR : ∀ k, R k → R' k) : d.Ok w' R' :=
  ⟨h.kl.later hk hR, h.kc, h.km, h.k8, h.vl.later hk hR, h.vc, h.vm, h.v8, h.lo, h.hi⟩
/-- A slice of operations. -/
structure Ops (w : World) (B : Nat) (A : Option Addr) (c : Nat) (L : List D) : Prop where
  lies : Lies w B A (cellsL L)
  len : L.length ≤ c
  cap : c ≤ maxLen
  ok : ∀ d, d ∈ L → d.Ok w (· < B)
section
variable {w w' : World} {B : Nat} {A : Option Addr} {c : Nat} {L : List D}
theorem Ops.below (h : Ops w B A c L) (hb : Below B w w') : Ops w' B A c L := ⟨h.lies.below hb, h.len, h.cap, fun d hd => (h.ok d hd).later hb.block fun _ h => h⟩
theorem Ops.up {B' : Nat} (h : Ops w B A c L) (hB : B ≤ B') : Ops w B' A c L := ⟨h.lies.up hB, h.len, h.cap, fun d hd => (h.ok d hd).later (fun _ _ => rfl) fun _ h => Nat.lt_of_lt_of_le h hB⟩
theorem Ops.next (h : Ops w w.heap.size A c L) (hb : Below w.heap.size w w') : Ops w' w'.heap.size A c L := (h.below hb).up hb.size
theorem Ops.zero (w : World) (B : Nat) : Ops w B none 0 [] := ⟨.inl rfl, Nat.le_refl _, by decide, fun _ h => by simp at h⟩
/-- The cells of one operation, as a walk spells them; the operation, loaded whole. -/
theorem Ops.place (h : Ops w B A c L) {i : Nat} {d : D} (hd : L[i]? = some d) :
    ∃ ad p : Addr, A = some ad ∧ ad.block < B ∧ ad.add (i * 3) = p ∧ p.block = ad.block ∧ w.cell? p = some (.int .i64 d.kind) ∧ w.cell? ⟨p.block, p.off + 1, none⟩ = some (.slice d.ka d.key.length d.kc) ∧
      w.cell? ⟨p.block, p.off + 2, none⟩ = some (.slice d.va d.val.length d.vc) := by
  have hl := (List.getElem?_eq_some_iff.1 hd).1
  obtain ⟨ad, ha, hb, hc⟩ := h.lies.place (by rw [cellsL_length]; omega)
  have e : ∀ j : Nat, j ≠ 0 → (⟨(ad.add (i * 3)).block, (ad.add (i * 3)).off + j, none⟩ : Addr) = ad.add (i * 3 + j) := by
    intro j hj
    have hne : ¬ i * 3 + j = 0 := by omega
    unfold Addr.add
    rw [if_neg hne]
    split <;> simp <;> omega
  refine ⟨ad, _, ha, hb, rfl, add_block _ _, hc _ _ (by have := cellsL_at hd 0 (by omega); simpa [D.cells] using this), ?_, ?_⟩
  · rw [e 1 (by decide)]; exact hc _ _ (by have := cellsL_at hd 1 (by omega); simpa [D.cells] using this)
  · rw [e 2 (by decide)]; exact hc _ _ (by have := cellsL_at hd 2 (by omega); simpa [D.cells] using this)
theorem load_op {p : Addr} {d : D} (h0 : w.cell? p = some (.int .i64 d.kind)) (h1 : w.cell? ⟨p.block, p.off + 1, none⟩ = some (.slice d.ka d.key.length d.kc)) (h2 : w.cell? ⟨p.block, p.off + 2, none⟩ = some (.slice d.va d.val.length d.vc)) :
    Sem.run Try.prog (loadVar 46 p) w = .ok d.v w := by
  have hl := run_loadCells_list (P := Try.prog) w p d.cells (fun j v hj => by
    rcases j with _ | _ | _ | j
    · simp [D.cells] at hj; subst hj; exact h0
    · simp [D.cells] at hj; subst hj; exact h1
    · simp [D.cells] at hj; subst hj; exact h2
    · simp [D.cells] at hj)
  have hagg : Sem.run Try.prog (isAgg 46) w = .ok true w := by
    unfold isAgg
    rw [Sem.run_bind, run_underlying Try.underlying46 w]
    simp
  obtain ⟨i, hi, hs⟩ : ∃ i, Try.prog.info? 46 = some i ∧ i.size = 3 := by
    have : (Try.prog.info? 46).map (·.size) = some 3 := by kernel_rfl
    cases hq : Try.prog.info? 46 with
    | none => rw [hq] at this; cases this
    | some i => rw [hq] at this; exact ⟨i, rfl, by simpa using this⟩
  have hl3 : (loadCells p 3).run Try.prog w = .ok #[.int .i64 d.kind, .slice d.ka d.key.length d.kc, .slice d.va d.val.length d.vc] w := hl
  simp [loadVar, Sem.run_bind, hagg, sizeOf, typeInfo, hi, hs, hl3]
end

theorem cellsL_one {L : List D} : ∀ u, u ∈ cellsL L → u.oneCell' = true := by
  intro u hu
  obtain ⟨d, _, h⟩ := List.mem_flatMap.1 hu
  simp [D.cells] at h
  rcases h with rfl | rfl | rfl <;> rfl
/-- append(l, more...) of operations, onto a slice of the call's own. -/
theorem append_ops {w : World} {base B c : Nat} {v : Value} {A : Option Addr} {L M : List D} (hown : w.ownsRow base 46 3 v L.length (cellsL L)) (hl : Lies w B A (cellsL M)) (hn : L.length + M.length ≤ 1000) (hbase : base ≤ w.heap.size) :
    ∃ v' w', Sem.run Try.prog (Builtin.append_ #[23, 23] 23 #[v, .slice A M.length c]) w = .ok v' w' ∧ w'.ownsRow base 46 3 v' (L ++ M).length (cellsL (L ++ M)) ∧ Below base w w' ∧ w.heap.size ≤ w'.heap.size := by
  obtain ⟨v', w', h1, h2, h3, h4⟩ := run_append_lies (P := Try.prog) (m := M.length) (c := c) 23 23 46 (.agg #[.int .i64 0, .slice none 0 0, .slice none 0 0]) 3 56 Try.underlying23 (by kernel_rfl) rfl (by decide)
    cellsL_one hown hl (cellsL_length M) (by unfold maxLen; omega) (by omega) hbase
  exact ⟨v', w', h1, by rw [List.length_append, cellsL_append]; exact h2, h3, h4⟩

theorem open_ops_at {H : Type} {enc : TypeId × Value → H} {W : World} {v : Value} {y : DataW H × List MemPlace} {n : Nat} (h : DataW.trod enc Try.prog W 0 (fun _ => true) true n 23 [v] = some y)
    (hlt : ∀ x, x ∈ y.2 → x.block < W.heap.size) : ∃ (A : Option Addr) (c : Nat) (L : List D), v = .slice A L.length c ∧ Ops W W.heap.size A c L := by
  have h3 : Try.prog.cellsOf 46 = 3 := by kernel_rfl
  have c1 : Try.prog.cellsOf 3 = 1 := by kernel_rfl
  have c2 : Try.prog.cellsOf 28 = 1 := by kernel_rfl
  rcases Deep.open_slice Try.underlying23 h with ⟨hcs, _⟩ | ⟨a, len, cap, m, n', E, Pl, hcs, _, hl, hm, hmm, rfl, hx⟩
  · simp at hcs
    subst hcs
    exact ⟨none, 0, [], rfl, Ops.zero _ _⟩
  · simp at hcs hmm
    subst hcs hmm
    rw [h3] at hx hlt
    have each : ∀ i, i < len → ∃ d : D, (∀ j, j < 3 → W.cell? (a.add (i * 3 + j)) = d.cells[j]?) ∧ d.Ok W (· < W.heap.size) := by
      intro i hi
      obtain ⟨cs', h1, h2⟩ := hx i (by omega)
      obtain ⟨_, hlen, hcell⟩ := World.cells?_some h1
      obtain ⟨y0, y1, y2, n2, hy, _, t0, t1, t2⟩ := Deep.trod_struct3 Try.underlying46 h2
      match cs', hlen with
      | [v0, v1, v2], _ =>
        have hpl : ∀ x, x ∈ y0.2 ++ (y1.2 ++ y2.2) → x.block < W.heap.size := fun x hx2 => hlt x (List.mem_append_right _ (List.mem_flatMap.2 ⟨i, List.mem_range.2 (by omega), by
          have := congrArg Prod.snd hy; simp only at this; rw [this]; exact hx2⟩))
        obtain ⟨k, rfl, wk⟩ := open_int_at (k := .i64) (n := n2) (y := y0) Try.underlying3 (v := v0) (by simpa [c1] using t0)
        obtain ⟨A1, q1, zs1, rfl, hc1, hm1, hl1, hw1⟩ := open_nums_at Try.underlying28 Try.underlying5 (by kernel_rfl) (n := n2) (y := y1) (v := v1) (by simpa [c2] using t1) (fun x hx2 => hpl x (by simp [hx2]))
        obtain ⟨A2, q2, zs2, rfl, hc2, hm2, hl2, hw2⟩ := open_nums_at Try.underlying28 Try.underlying5 (by kernel_rfl) (n := n2) (y := y2) (v := v2) (by simpa [c2] using t2) (fun x hx2 => hpl x (by simp [hx2]))
        obtain ⟨bs1, rfl, hz1⟩ := as_nat zs1 fun n hn => (u8_of (hw1 n hn)).1
        obtain ⟨bs2, rfl, hz2⟩ := as_nat zs2 fun n hn => (u8_of (hw2 n hn)).1
        rw [List.map_map] at hl1 hl2
        rw [List.length_map] at hc1 hc2 hcell
        have b1 := i64_of wk
        refine ⟨⟨k, A1, q1, bs1, A2, q2, bs2⟩, fun j hj => ?_, ⟨hl1.p fun _ h => h, hc1, hm1, fun b hb => ?_, hl2.p fun _ h => h, hc2, hm2, fun b hb => ?_, b1.1, b1.2⟩⟩
        · have := hcell j hj
          rw [Deep.add_add] at this
          rw [this]
          simp [D.cells]
        · have := (u8_of (hw1 _ (hz1 b hb))).2; omega
        · have := (u8_of (hw2 _ (hz2 b hb))).2; omega
    obtain ⟨f, hf⟩ : ∃ f : Nat → D, ∀ i, i < len → (∀ j, j < 3 → W.cell? (a.add (i * 3 + j)) = (f i).cells[j]?) ∧ (f i).Ok W (· < W.heap.size) := by
      by_cases h0 : len = 0
      · exact ⟨fun _ => ⟨0, none, 0, [], none, 0, []⟩, fun i hi => by omega⟩
      · haveI : Inhabited D := ⟨⟨0, none, 0, [], none, 0, []⟩⟩
        exact Deep.choose_lt each
    have hL : ((List.range len).map f).length = len := by simp
    refine ⟨some a, m, (List.range len).map f, by rw [hL], ?_, by rw [hL]; exact hl, hm, fun d hd => ?_⟩
    · by_cases h0 : len = 0
      · left; subst h0; rfl
      · refine .inr ⟨a, rfl, ?_, fun j u hu => ?_⟩
        · exact hlt (.cell a.block (a.off + 0)) (List.mem_append_left _ (by unfold MemPlace.row; exact List.mem_map.2 ⟨0, by simp; omega, rfl⟩))
        · have hj := (List.getElem?_eq_some_iff.1 hu).1
          rw [cellsL_length, hL] at hj
          have hd : ((List.range len).map f)[j / 3]? = some (f (j / 3)) := by
            rw [List.getElem?_map, List.getElem?_range (by omega)]; rfl
          have h1 := cellsL_at hd (j % 3) (Nat.mod_lt _ (by decide))
          rw [show j / 3 * 3 + j % 3 = j by omega, hu] at h1
          have h2 := (hf (j / 3) (by omega)).1 (j % 3) (Nat.mod_lt _ (by decide))
          rw [show j / 3 * 3 + j % 3 = j by omega] at h2
          rw [h2, ← h1]
    · obtain ⟨i, hi, rfl⟩ := List.mem_map.1 hd
      exact (hf i (by simpa using hi)).2

/-- A parameter that is a slice of operations. -/
theorem open_ops {H : Type} {enc : TypeId × Value → H} {W : World} {v : Value} {d : DataW H} {p : List MemPlace} {base : Nat} (hok : Value.okWide Try.prog W .any base 23 v)
    (h : DataW.Trod enc Try.prog W 0 (fun _ => true) true 23 v d p) (hlt : ∀ x, x ∈ p → x.block < W.heap.size) :
    ∃ (A : Option Addr) (c : Nat) (L : List D), v = .slice A L.length c ∧ Ops W W.heap.size A c L := by
  obtain ⟨a0, len, cap, rfl⟩ := okWide_slice Try.underlying23 hok
  obtain ⟨fuel, hf⟩ := h
  exact open_ops_at (n := fuel) (y := (d, p)) (by simpa [Value.cells] using hf) hlt
/-- A parameter that is a batch. -/
theorem open_batch {H : Type} {enc : TypeId × Value → H} {W : World} {v : Value} {d : DataW H} {p : List MemPlace} {base : Nat} (hok : Value.okWide Try.prog W .any base 25 v)
    (h : DataW.Trod enc Try.prog W 0 (fun _ => true) true 25 v d p) (hlt : ∀ x, x ∈ p → x.block < W.heap.size) :
    ∃ (s : Nat) (A : Option Addr) (c : Nat) (L : List D), v = .agg #[.int .u64 (s : Int), .slice A L.length c] ∧ s < 18446744073709551616 ∧ Ops W W.heap.size A c L := by
  obtain ⟨v0, v1, y0, y1, n, rfl, rfl, rfl, h0, h1⟩ := Joins.open_agg2 Try.underlying25 (by kernel_rfl) (by kernel_rfl) hok h
  obtain ⟨s, rfl, ws⟩ := open_int_at Try.underlying22 h0
  obtain ⟨A, c, L, rfl, hL⟩ := open_ops_at h1 (fun x hx => hlt x (by simp [hx]))
  obtain ⟨m, rfl⟩ := Int.eq_ofNat_of_zero_le (u64_of ws).1
  have bm := (u64_of ws).2
  exact ⟨m, A, c, L, rfl, by omega, hL⟩
end Go.Proofs.Ytggliedlfccicaa.Bt
