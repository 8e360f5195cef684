/- Entries and keys as they lie in memory: structs of four cells, of three; slices of them. -/
import Derived.Test.YtobjiamdljjkjaaSm
import Derived.Test.YtobjiamdljjkjaaSeg
import Derived.Test.YtobjiamdljjkjaaKopen
import Derived.Test.YtobjiamdljjkjaaByt
import Derived.Test.YtobjiamdljjkjaaOwn
import Derived.Deep.Slices
import Derived.Deep.Strs
namespace Go.Proofs.Ytobjiamdljjkjaa.Sk
set_option linter.unusedVariables false
set_option linter.unusedSimpArgs false
open Go.ChangeShapes Go.WideShapes Go.ChangeAt Go.RowKit Lift Ik

/-- An entry as it lies. -/
structure D where
  ka : Option Addr
  kc : Nat
  k : K
  va : Option Addr
  vc : Nat
  val : List Nat
def D.t (d : D) : T := ⟨d.k, d.val⟩
abbrev D.v (d : D) : Value := .agg #[.slice d.ka d.k.key.length d.kc, .int .u64 (d.k.seq : Int), .int .i64 d.k.kind, .slice d.va d.val.length d.vc]
def D.cells (d : D) : List Value := [.slice d.ka d.k.key.length d.kc, .int .u64 (d.k.seq : Int), .int .i64 d.k.kind, .slice d.va d.val.length d.vc]
def cellsL (L : List D) : List Value := L.flatMap D.cells
structure D.Ok (w : World) (R : Nat → Prop) (d : D) : Prop where
  kl : LiesP w R d.ka (d.k.key.map vb)
  kc : d.k.key.length ≤ d.kc
  km : d.kc ≤ maxLen
  ok : d.k.ok
  vl : LiesP w R d.va (d.val.map vb)
  vc : d.val.length ≤ d.vc
  vm : d.vc ≤ maxLen
  v8 : ∀ c, c ∈ d.val → c < 256
theorem D.Ok.later {w w' : World} {R R' : Nat → Prop} {d : D} (h : d.Ok w R) (hk : ∀ k, R k → w'.heap[k]? = w.heap[k]?) (hR : ∀ k, R k → R' k) : d.Ok w' R' :=
  ⟨h.kl.later hk hR, h.kc, h.km, h.ok, h.vl.later hk hR, h.vc, h.vm, h.v8⟩
theorem D.Ok.at' {w : World} {R : Nat → Prop} {B : Nat} {d : D} (h : d.Ok w R) (hR : ∀ k, R k → k < B) : At w B d.ka d.kc d.k := ⟨h.kl.lies hR, h.kc, h.km, h.ok⟩
theorem D.Ok.mono {w : World} {R R' : Nat → Prop} {d : D} (h : d.Ok w R) (hR : ∀ k, R k → R' k) : d.Ok w R' := h.later (fun _ _ => rfl) hR
theorem D.Ok.next {w w' : World} {d : D} (h : d.Ok w (· < w.heap.size)) (hb : Below w.heap.size w w') : d.Ok w' (· < w'.heap.size) := h.later hb.block fun k hk => Nat.lt_of_lt_of_le hk hb.size
theorem D.Ok.below {w w' : World} {B : Nat} {d : D} (h : d.Ok w (· < B)) (hb : Below B w w') : d.Ok w' (· < B) := h.later hb.block fun k hk => hk
/-- An entry in a box. -/
abbrev Bx (w : World) (g : Nat) (d : D) : Prop := Lift.Box w g 48 d.cells
theorem Bx.new (w : World) (d : D) : Bx (w.alloc (.cells #[.slice d.ka d.k.key.length d.kc, .int .u64 (d.k.seq : Int), .int .i64 d.k.kind, .slice d.va d.val.length d.vc] 48)) w.heap.size d := Lift.Box.new w 48 d.cells
theorem Bx.facts {w : World} {g : Nat} {d : D} (h : Bx w g d) : w.cell? ⟨g, 0, none⟩ = some (.slice d.ka d.k.key.length d.kc) ∧ w.cell? ⟨g, 1, none⟩ = some (.int .u64 (d.k.seq : Int)) ∧ w.cell? ⟨g, 2, none⟩ = some (.int .i64 d.k.kind) ∧ w.cell? ⟨g, 3, none⟩ = some (.slice d.va d.val.length d.vc) ∧
    w.frozen? ⟨g, 0, none⟩ = false ∧ w.frozen? ⟨g, 1, none⟩ = false ∧ w.frozen? ⟨g, 2, none⟩ = false ∧ w.frozen? ⟨g, 3, none⟩ = false := ⟨h.cell 0, h.cell 1, h.cell 2, h.cell 3, h.free 0, h.free 1, h.free 2, h.free 3⟩

theorem cellsL_length (L : List D) : (cellsL L).length = L.length * 4 := by
  induction L with
  | nil => rfl
  | cons d L ih => simp only [cellsL, List.flatMap_cons, List.length_append, List.length_cons] at ih ⊢; rw [ih]; simp [D.cells]; omega
theorem cellsL_append (L M : List D) : cellsL (L ++ M) = cellsL L ++ cellsL M := by simp [cellsL]
theorem cellsL_at {L : List D} {i : Nat} {d : D} (h : L[i]? = some d) (j : Nat) (hj : j < 4) : (cellsL L)[i * 4 + j]? = d.cells[j]? := by
  induction L generalizing i with
  | nil => simp at h
  | cons e L ih =>
    have hc : cellsL (e :: L) = e.cells ++ cellsL L := rfl
    rw [hc]
    cases i with
    | zero =>
      simp at h; subst h
      rw [List.getElem?_append_left (by simp [D.cells]; omega)]; simp
    | succ i =>
      simp at h
      rw [List.getElem?_append_right (by simp [D.cells]; omega), ← ih h]
      congr 1
      simp [D.cells]; omega
theorem cellsL_one {L : List D} : ∀ u, u ∈ cellsL L → u.oneCell' = true := by
  intro u hu
  obtain ⟨d, _, h⟩ := List.mem_flatMap.1 hu
  simp [D.cells] at h
  rcases h with rfl | rfl | rfl | rfl <;> rfl
/-- A slice of them. -/
structure Ents (w : World) (R : Nat → Prop) (A : Option Addr) (c : Nat) (L : List D) : Prop where
  lies : LiesP w R A (cellsL L)
  len : L.length ≤ c
  cap : c ≤ maxLen
  ok : ∀ d, d ∈ L → d.Ok w R
section
variable {w w' : World} {R R' : Nat → Prop} {A : Option Addr} {c : Nat} {L : List D}
theorem Ents.later (h : Ents w R A c L) (hk : ∀ k, R k → w'.heap[k]? = w.heap[k]?) (hR : ∀ k, R k → R' k) : Ents w' R' A c L := ⟨h.lies.later hk hR, h.len, h.cap, fun d hd => (h.ok d hd).later hk hR⟩
theorem Ents.mono (h : Ents w R A c L) (hR : ∀ k, R k → R' k) : Ents w R' A c L := h.later (fun _ _ => rfl) hR
theorem Ents.below {B : Nat} (h : Ents w (· < B) A c L) (hb : Below B w w') : Ents w' (· < B) A c L := h.later hb.block fun _ hk => hk
theorem Ents.next (h : Ents w (· < w.heap.size) A c L) (hb : Below w.heap.size w w') : Ents w' (· < w'.heap.size) A c L := h.later hb.block fun k hk => Nat.lt_of_lt_of_le hk hb.size
theorem Ents.zero (w : World) (R : Nat → Prop) : Ents w R none 0 [] := ⟨.inl rfl, Nat.le_refl _, by decide, fun _ h => by simp at h⟩
/-- The cells of one, as a walk spells them; one, loaded whole. -/
theorem Ents.place (h : Ents w R A c L) {i : Nat} {d : D} (hd : L[i]? = some d) :
    ∃ ad p : Addr, A = some ad ∧ R p.block ∧ ad.add (i * 4) = p ∧ w.cell? p = some (.slice d.ka d.k.key.length d.kc) ∧ w.cell? ⟨p.block, p.off + 1, none⟩ = some (.int .u64 (d.k.seq : Int)) ∧ w.cell? ⟨p.block, p.off + 2, none⟩ = some (.int .i64 d.k.kind) ∧ w.cell? ⟨p.block, p.off + 3, none⟩ = some (.slice d.va d.val.length d.vc) := by
  have hl := (List.getElem?_eq_some_iff.1 hd).1
  have hne : ¬ cellsL L = [] := fun e => by have := cellsL_length L; rw [e] at this; simp at this; omega
  obtain ⟨ad, ha, hb, hc⟩ := h.lies.resolve_left hne
  have e : ∀ j : Nat, j ≠ 0 → (⟨(ad.add (i * 4)).block, (ad.add (i * 4)).off + j, none⟩ : Addr) = ad.add (i * 4 + j) := by
    intro j hj
    have hne : ¬ i * 4 + j = 0 := by omega
    unfold Addr.add
    rw [if_neg hne]
    split <;> simp <;> omega
  refine ⟨ad, _, ha, by rw [add_block]; exact hb, rfl, hc _ _ (by have := cellsL_at hd 0 (by omega); simpa [D.cells] using this), ?_, ?_, ?_⟩
  · rw [e 1 (by decide)]; exact hc _ _ (by have := cellsL_at hd 1 (by omega); simpa [D.cells] using this)
  · rw [e 2 (by decide)]; exact hc _ _ (by have := cellsL_at hd 2 (by omega); simpa [D.cells] using this)
  · rw [e 3 (by decide)]; exact hc _ _ (by have := cellsL_at hd 3 (by omega); simpa [D.cells] using this)
theorem D.load {p : Addr} {d : D} (h0 : w.cell? p = some (.slice d.ka d.k.key.length d.kc)) (h1 : w.cell? ⟨p.block, p.off + 1, none⟩ = some (.int .u64 (d.k.seq : Int))) (h2 : w.cell? ⟨p.block, p.off + 2, none⟩ = some (.int .i64 d.k.kind)) (h3 : w.cell? ⟨p.block, p.off + 3, none⟩ = some (.slice d.va d.val.length d.vc)) : Sem.run Try.prog (loadVar 48 p) w = .ok d.v w := by
  have hl := run_loadCells_list (P := Try.prog) w p d.cells (fun j v hj => by
    rcases j with _ | _ | _ | _ | j
    · simp [D.cells] at hj; subst hj; exact h0
    · simp [D.cells] at hj; subst hj; exact h1
    · simp [D.cells] at hj; subst hj; exact h2
    · simp [D.cells] at hj; subst hj; exact h3
    · simp [D.cells] at hj)
  have hagg : Sem.run Try.prog (isAgg 48) w = .ok true w := by
    unfold isAgg
    rw [Sem.run_bind, run_underlying Try.underlying48 w]
    simp
  obtain ⟨i, hi, hs⟩ : ∃ i, Try.prog.info? 48 = some i ∧ i.size = 4 := by
    have : (Try.prog.info? 48).map (·.size) = some 4 := by kernel_rfl
    cases hq : Try.prog.info? 48 with
    | none => rw [hq] at this; cases this
    | some i => rw [hq] at this; exact ⟨i, rfl, by simpa using this⟩
  have hl3 : (loadCells p 4).run Try.prog w = .ok #[.slice d.ka d.k.key.length d.kc, .int .u64 (d.k.seq : Int), .int .i64 d.k.kind, .slice d.va d.val.length d.vc] w := hl
  simp [loadVar, Sem.run_bind, hagg, sizeOf, typeInfo, hi, hs, hl3]
end

/-- A key as it lies. -/
structure KD where
  ka : Option Addr
  kc : Nat
  k : K
abbrev KD.v (d : KD) : Value := key d.ka d.kc d.k
def KD.cells (d : KD) : List Value := [.slice d.ka d.k.key.length d.kc, .int .u64 (d.k.seq : Int), .int .i64 d.k.kind]
def cellsK (L : List KD) : List Value := L.flatMap KD.cells
structure KD.Ok (w : World) (R : Nat → Prop) (d : KD) : Prop where
  kl : LiesP w R d.ka (d.k.key.map vb)
  kc : d.k.key.length ≤ d.kc
  km : d.kc ≤ maxLen
  ok : d.k.ok
theorem KD.Ok.later {w w' : World} {R R' : Nat → Prop} {d : KD} (h : d.Ok w R) (hk : ∀ k, R k → w'.heap[k]? = w.heap[k]?) (hR : ∀ k, R k → R' k) : d.Ok w' R' :=
  ⟨h.kl.later hk hR, h.kc, h.km, h.ok⟩
theorem KD.Ok.at' {w : World} {R : Nat → Prop} {B : Nat} {d : KD} (h : d.Ok w R) (hR : ∀ k, R k → k < B) : At w B d.ka d.kc d.k := ⟨h.kl.lies hR, h.kc, h.km, h.ok⟩
theorem cellsK_length (L : List KD) : (cellsK L).length = L.length * 3 := by
  induction L with
  | nil => rfl
  | cons d L ih => simp only [cellsK, List.flatMap_cons, List.length_append, List.length_cons] at ih ⊢; rw [ih]; simp [KD.cells]; omega
theorem cellsK_append (L M : List KD) : cellsK (L ++ M) = cellsK L ++ cellsK M := by simp [cellsK]
theorem cellsK_at {L : List KD} {i : Nat} {d : KD} (h : L[i]? = some d) (j : Nat) (hj : j < 3) : (cellsK L)[i * 3 + j]? = d.cells[j]? := by
  induction L generalizing i with
  | nil => simp at h
  | cons e L ih =>
    have hc : cellsK (e :: L) = e.cells ++ cellsK L := rfl
    rw [hc]
    cases i with
    | zero =>
      simp at h; subst h
      rw [List.getElem?_append_left (by simp [KD.cells]; omega)]; simp
    | succ i =>
      simp at h
      rw [List.getElem?_append_right (by simp [KD.cells]; omega), ← ih h]
      congr 1
      simp [KD.cells]; omega
theorem cellsK_one {L : List KD} : ∀ u, u ∈ cellsK L → u.oneCell' = true := by
  intro u hu
  obtain ⟨d, _, h⟩ := List.mem_flatMap.1 hu
  simp [KD.cells] at h
  rcases h with rfl | rfl | rfl <;> rfl
/-- A slice of them. -/
structure Keys (w : World) (R : Nat → Prop) (A : Option Addr) (c : Nat) (L : List KD) : Prop where
  lies : LiesP w R A (cellsK L)
  len : L.length ≤ c
  cap : c ≤ maxLen
  ok : ∀ d, d ∈ L → d.Ok w R
section
variable {w w' : World} {R R' : Nat → Prop} {A : Option Addr} {c : Nat} {L : List KD}
theorem Keys.later (h : Keys w R A c L) (hk : ∀ k, R k → w'.heap[k]? = w.heap[k]?) (hR : ∀ k, R k → R' k) : Keys w' R' A c L := ⟨h.lies.later hk hR, h.len, h.cap, fun d hd => (h.ok d hd).later hk hR⟩
theorem Keys.mono (h : Keys w R A c L) (hR : ∀ k, R k → R' k) : Keys w R' A c L := h.later (fun _ _ => rfl) hR
theorem Keys.below {B : Nat} (h : Keys w (· < B) A c L) (hb : Below B w w') : Keys w' (· < B) A c L := h.later hb.block fun _ hk => hk
theorem Keys.next (h : Keys w (· < w.heap.size) A c L) (hb : Below w.heap.size w w') : Keys w' (· < w'.heap.size) A c L := h.later hb.block fun k hk => Nat.lt_of_lt_of_le hk hb.size
theorem Keys.zero (w : World) (R : Nat → Prop) : Keys w R none 0 [] := ⟨.inl rfl, Nat.le_refl _, by decide, fun _ h => by simp at h⟩
/-- The cells of one, as a walk spells them; one, loaded whole. -/
theorem Keys.place (h : Keys w R A c L) {i : Nat} {d : KD} (hd : L[i]? = some d) :
    ∃ ad p : Addr, A = some ad ∧ R p.block ∧ ad.add (i * 3) = p ∧ w.cell? p = some (.slice d.ka d.k.key.length d.kc) ∧ w.cell? ⟨p.block, p.off + 1, none⟩ = some (.int .u64 (d.k.seq : Int)) ∧ w.cell? ⟨p.block, p.off + 2, none⟩ = some (.int .i64 d.k.kind) := by
  have hl := (List.getElem?_eq_some_iff.1 hd).1
  have hne : ¬ cellsK L = [] := fun e => by have := cellsK_length L; rw [e] at this; simp at this; omega
  obtain ⟨ad, ha, hb, hc⟩ := h.lies.resolve_left hne
  have e : ∀ j : Nat, j ≠ 0 → (⟨(ad.add (i * 3)).block, (ad.add (i * 3)).off + j, none⟩ : Addr) = ad.add (i * 3 + j) := by
    intro j hj
    have hne : ¬ i * 3 + j = 0 := by omega
    unfold Addr.add
    rw [if_neg hne]
    split <;> simp <;> omega
  refine ⟨ad, _, ha, by rw [add_block]; exact hb, rfl, hc _ _ (by have := cellsK_at hd 0 (by omega); simpa [KD.cells] using this), ?_, ?_⟩
  · rw [e 1 (by decide)]; exact hc _ _ (by have := cellsK_at hd 1 (by omega); simpa [KD.cells] using this)
  · rw [e 2 (by decide)]; exact hc _ _ (by have := cellsK_at hd 2 (by omega); simpa [KD.cells] using this)
theorem KD.load {p : Addr} {d : KD} (h0 : w.cell? p = some (.slice d.ka d.k.key.length d.kc)) (h1 : w.cell? ⟨p.block, p.off + 1, none⟩ = some (.int .u64 (d.k.seq : Int))) (h2 : w.cell? ⟨p.block, p.off + 2, none⟩ = some (.int .i64 d.k.kind)) : Sem.run Try.prog (loadVar 38 p) w = .ok d.v w := by
  have hl := run_loadCells_list (P := Try.prog) w p d.cells (fun j v hj => by
    rcases j with _ | _ | _ | j
    · simp [KD.cells] at hj; subst hj; exact h0
    · simp [KD.cells] at hj; subst hj; exact h1
    · simp [KD.cells] at hj; subst hj; exact h2
    · simp [KD.cells] at hj)
  have hagg : Sem.run Try.prog (isAgg 38) w = .ok true w := by
    unfold isAgg
    rw [Sem.run_bind, run_underlying Try.underlying38 w]
    simp
  obtain ⟨i, hi, hs⟩ : ∃ i, Try.prog.info? 38 = some i ∧ i.size = 3 := by
    have : (Try.prog.info? 38).map (·.size) = some 3 := by kernel_rfl
    cases hq : Try.prog.info? 38 with
    | none => rw [hq] at this; cases this
    | some i => rw [hq] at this; exact ⟨i, rfl, by simpa using this⟩
  have hl3 : (loadCells p 3).run Try.prog w = .ok #[.slice d.ka d.k.key.length d.kc, .int .u64 (d.k.seq : Int), .int .i64 d.k.kind] w := hl
  simp [loadVar, Sem.run_bind, hagg, sizeOf, typeInfo, hi, hs, hl3]
end

set_option maxRecDepth 100000 in
theorem open_ents_at {H : Type} {enc : TypeId × Value → H} {W : World} {v : Value} {y : DataW H × List MemPlace} {n : Nat} (h : DataW.trod enc Try.prog W 0 (fun _ => true) true n 22 [v] = some y)
    (hlt : ∀ x, x ∈ y.2 → x.block < W.heap.size) : ∃ (A : Option Addr) (c : Nat) (L : List D), v = .slice A L.length c ∧ Ents W (· < W.heap.size) A c L := by
  have h3 : Try.prog.cellsOf 48 = 4 := by kernel_rfl
  have c0 : Try.prog.cellsOf 38 = 3 := by kernel_rfl
  have c1 : Try.prog.cellsOf 3 = 1 := by kernel_rfl
  have c2 : Try.prog.cellsOf 25 = 1 := by kernel_rfl
  have c3 : Try.prog.cellsOf 36 = 1 := by kernel_rfl
  rcases Deep.open_slice Try.underlying22 h with ⟨hcs, _⟩ | ⟨a, len, cap, m, n', E, Pl, hcs, _, hl, hm, hmm, rfl, hx⟩
  · simp at hcs
    subst hcs
    exact ⟨none, 0, [], rfl, Ents.zero _ _⟩
  · simp at hcs hmm
    subst hcs hmm
    rw [h3] at hx hlt
    have each : ∀ i, i < len → ∃ d : D, (∀ j, j < 4 → W.cell? (a.add (i * 4 + j)) = d.cells[j]?) ∧ d.Ok W (· < W.heap.size) := by
      intro i hi
      obtain ⟨cs', h1, h2⟩ := hx i (by omega)
      obtain ⟨_, hlen, hcell⟩ := World.cells?_some h1
      obtain ⟨xs, n1, _, hy, _, hxl, hf⟩ := DataW.trod_struct Try.underlying48 h2
      match cs', hlen, xs, hxl with
      | [v0, v1, v2, v3], _, [yk, y3], _ =>
        have hpl : ∀ x, x ∈ yk.2 ++ y3.2 → x.block < W.heap.size := fun x hx2 => hlt x (List.mem_append_right _ (List.mem_flatMap.2 ⟨i, List.mem_range.2 (by omega), by
          have := congrArg Prod.snd hy; simp only at this; rw [this]; simpa using hx2⟩))
        have tk := hf 0 _ rfl
        have t3 := hf 1 _ rfl
        have tk' : DataW.trod enc Try.prog W 0 (fun _ => true) true n1 38 [v0, v1, v2] = some yk := by simpa [c0] using tk
        obtain ⟨y0, y1, y2, n2, hyk, _, t0, t1, t2⟩ := Deep.trod_struct3 Try.underlying38 tk'
        have hpk : ∀ x, x ∈ y0.2 → x.block < W.heap.size := fun x hx2 => hpl x (List.mem_append_left _ (by have := congrArg Prod.snd hyk; simp only at this; rw [this]; simp [hx2]))
        obtain ⟨A2, q2, zs2, rfl, hc2, hm2, hl2, hw2⟩ := open_nums_at Try.underlying25 Try.underlying5 (by kernel_rfl) (n := n1) (y := y3) (v := v3) (by simpa [c2] using t3) (fun x hx2 => hpl x (by simp [hx2]))
        obtain ⟨bs2, rfl, hz2⟩ := as_nat zs2 fun n hn => (u8_of (hw2 n hn)).1
        rw [List.map_map] at hl2
        rw [List.length_map] at hc2 hcell
        obtain ⟨A1, q1, zs1, rfl, hc1, hm1, hl1, hw1⟩ := open_nums_at Try.underlying25 Try.underlying5 (by kernel_rfl) (n := n2) (y := y0) (v := v0) (by simpa [c2] using t0) hpk
        obtain ⟨s, rfl, ws⟩ := open_int_at (k := .u64) (n := n2) (y := y1) Try.underlying36 (v := v1) (by simpa [c3] using t1)
        obtain ⟨kk, rfl, wk⟩ := open_int_at (k := .i64) (n := n2) (y := y2) Try.underlying3 (v := v2) (by simpa [c1] using t2)
        obtain ⟨bs1, rfl, hz1⟩ := as_nat zs1 fun n hn => (u8_of (hw1 n hn)).1
        rw [List.map_map] at hl1
        rw [List.length_map] at hc1 hcell
        have b1 := i64_of wk
        obtain ⟨s, rfl⟩ := Int.eq_ofNat_of_zero_le (u64_of ws).1
        have bm := (u64_of ws).2
        have hk8 : ∀ b, b ∈ bs1 → b < 256 := fun b hb => by have := (u8_of (hw1 _ (hz1 b hb))).2; omega
        refine ⟨⟨A1, q1, ⟨bs1, s, kk⟩, A2, q2, bs2⟩, fun j hj => ?_, ⟨hl1.p fun _ h => h, hc1, hm1, ⟨hk8, by simp only; omega, b1.1, b1.2⟩, hl2.p fun _ h => h, hc2, hm2, fun b hb => ?_⟩⟩
        · have := hcell j hj
          rw [Deep.add_add] at this
          rw [this]
          simp [D.cells]
        · have := (u8_of (hw2 _ (hz2 b hb))).2; omega
    obtain ⟨f, hf⟩ : ∃ f : Nat → D, ∀ i, i < len → (∀ j, j < 4 → W.cell? (a.add (i * 4 + j)) = (f i).cells[j]?) ∧ (f i).Ok W (· < W.heap.size) := by
      by_cases h0 : len = 0
      · exact ⟨fun _ => ⟨none, 0, ⟨[], 0, 0⟩, none, 0, []⟩, fun i hi => by omega⟩
      · haveI : Inhabited D := ⟨⟨none, 0, ⟨[], 0, 0⟩, none, 0, []⟩⟩
        exact Deep.choose_lt each
    have hL : ((List.range len).map f).length = len := by simp
    refine ⟨some a, m, (List.range len).map f, by rw [hL], ?_, by rw [hL]; exact hl, hm, fun d hd => ?_⟩
    · by_cases h0 : len = 0
      · left; subst h0; rfl
      · refine .inr ⟨a, rfl, ?_, fun j u hu => ?_⟩
        · exact hlt (.cell a.block (a.off + 0)) (List.mem_append_left _ (by unfold MemPlace.row; exact List.mem_map.2 ⟨0, by simp; omega, rfl⟩))
        · have hj := (List.getElem?_eq_some_iff.1 hu).1
          rw [cellsL_length, hL] at hj
          have hd : ((List.range len).map f)[j / 4]? = some (f (j / 4)) := by
            rw [List.getElem?_map, List.getElem?_range (by omega)]; rfl
          have h1 := cellsL_at hd (j % 4) (Nat.mod_lt _ (by decide))
          rw [show j / 4 * 4 + j % 4 = j by omega, hu] at h1
          have h2 := (hf (j / 4) (by omega)).1 (j % 4) (Nat.mod_lt _ (by decide))
          rw [show j / 4 * 4 + j % 4 = j by omega] at h2
          rw [h2, ← h1]
    · obtain ⟨i, hi, rfl⟩ := List.mem_map.1 hd
      exact (hf i (by simpa using hi)).2
set_option maxRecDepth 100000 in
/-- A parameter that is such a slice. -/
theorem open_ents {H : Type} {enc : TypeId × Value → H} {W : World} {v : Value} {d : DataW H} {p : List MemPlace} {base : Nat} (hok : Value.okWide Try.prog W .any base 22 v)
    (h : DataW.Trod enc Try.prog W 0 (fun _ => true) true 22 v d p) (hlt : ∀ x, x ∈ p → x.block < W.heap.size) :
    ∃ (A : Option Addr) (c : Nat) (L : List D), v = .slice A L.length c ∧ Ents W (· < W.heap.size) A c L := by
  obtain ⟨a0, len, cap, rfl⟩ := okWide_slice Try.underlying22 hok
  obtain ⟨fuel, hf⟩ := h
  exact open_ents_at (n := fuel) (y := (d, p)) (by simpa [Value.cells] using hf) hlt

end Go.Proofs.Ytobjiamdljjkjaa.Sk
