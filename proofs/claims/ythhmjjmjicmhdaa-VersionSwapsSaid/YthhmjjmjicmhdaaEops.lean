/- Runs and edits, as they lie in memory. -/
import Derived.Test.YthhmjjmjicmhdaaEm
import Derived.Test.YthhmjjmjicmhdaaSeg
import Derived.Test.YthhmjjmjicmhdaaOpen
import Derived.Test.YthhmjjmjicmhdaaLow
import Derived.Deep.Slices
import Derived.Deep.Strs
namespace Go.Proofs.Ythhmjjmjicmhdaa.Ed
set_option linter.unusedVariables false
set_option linter.unusedSimpArgs false
open Go.ChangeShapes Go.WideShapes Go.ChangeAt Go.RowKit Lift Ik

/-- A run as it lies. -/
structure D where
  file : Int
  bytes : Int
  count : Int
  firstA : Option Addr
  firstC : Nat
  first : List Nat
  lastA : Option Addr
  lastC : Nat
  last : List Nat
  seq : Nat
def D.ru (d : D) : Ru := ⟨d.file, d.bytes, d.count, d.first, d.last, d.seq⟩
def D.cells (d : D) : List Value := [.int .i64 d.file, .int .i64 d.bytes, .int .i64 d.count, .slice d.firstA d.first.length d.firstC, .slice d.lastA d.last.length d.lastC, .int .u64 (d.seq : Int)]
abbrev D.v (d : D) : Value := .agg #[.int .i64 d.file, .int .i64 d.bytes, .int .i64 d.count, .slice d.firstA d.first.length d.firstC, .slice d.lastA d.last.length d.lastC, .int .u64 (d.seq : Int)]
def cellsL (L : List D) : List Value := L.flatMap D.cells
theorem cellsL_length (L : List D) : (cellsL L).length = L.length * 6 := by
  induction L with
  | nil => rfl
  | cons d L ih => simp only [cellsL, List.flatMap_cons, List.length_append, List.length_cons] at ih ⊢; rw [ih]; simp [D.cells]; omega
theorem cellsL_append (L M : List D) : cellsL (L ++ M) = cellsL L ++ cellsL M := by simp [cellsL]
theorem cellsL_at {L : List D} {i : Nat} {d : D} (h : L[i]? = some d) (j : Nat) (hj : j < 6) : (cellsL L)[i * 6 + j]? = d.cells[j]? := by
  induction L generalizing i with
  | nil => simp at h
  | cons e L ih =>
    have hc : cellsL (e :: L) = e.cells ++ cellsL L := rfl
    rw [hc]
    cases i with
    | zero =>
      simp at h; subst h
      rw [List.getElem?_append_left (by simp [D.cells]; omega)]; simp
    | succ i =>
      simp at h
      rw [List.getElem?_append_right (by simp [D.cells]; omega), ← ih h]
      congr 1
      simp [D.cells]; omega
structure D.Ok (w : World) (R : Nat → Prop) (d : D) : Prop where
  w0 : (Lit.int .i64 d.file).wf = true
  w1 : (Lit.int .i64 d.bytes).wf = true
  w2 : (Lit.int .i64 d.count).wf = true
  fl : LiesP w R d.firstA (d.first.map vb)
  fc : d.first.length ≤ d.firstC
  fm : d.firstC ≤ maxLen
  f8 : ∀ c, c ∈ d.first → c < 256
  ll : LiesP w R d.lastA (d.last.map vb)
  lc : d.last.length ≤ d.lastC
  lm : d.lastC ≤ maxLen
  l8 : ∀ c, c ∈ d.last → c < 256
  sq : d.seq < 18446744073709551616
theorem D.Ok.later {w w' : World} {R R' : Nat → Prop} {d : D} (h : d.Ok w R) (hk : ∀ k, R k → w'.heap[k]? = w.heap[k]?) (hR : ∀ k, R k → R' k) : d.Ok w' R' :=
  ⟨h.w0, h.w1, h.w2, h.fl.later hk hR, h.fc, h.fm, h.f8, h.ll.later hk hR, h.lc, h.lm, h.l8, h.sq⟩
/-- A slice of runs. -/
structure Runs (w : World) (B : Nat) (A : Option Addr) (c : Nat) (L : List D) : Prop where
  lies : Lies w B A (cellsL L)
  len : L.length ≤ c
  cap : c ≤ maxLen
  ok : ∀ d, d ∈ L → d.Ok w (· < B)
section
variable {w w' : World} {B : Nat} {A : Option Addr} {c : Nat} {L : List D}
theorem Runs.below (h : Runs w B A c L) (hb : Below B w w') : Runs w' B A c L := ⟨h.lies.below hb, h.len, h.cap, fun d hd => (h.ok d hd).later hb.block fun _ h => h⟩
theorem Runs.up {B' : Nat} (h : Runs w B A c L) (hB : B ≤ B') : Runs w B' A c L := ⟨h.lies.up hB, h.len, h.cap, fun d hd => (h.ok d hd).later (fun _ _ => rfl) fun _ h => Nat.lt_of_lt_of_le h hB⟩
theorem Runs.next (h : Runs w w.heap.size A c L) (hb : Below w.heap.size w w') : Runs w' w'.heap.size A c L := (h.below hb).up hb.size
theorem Runs.zero (w : World) (B : Nat) : Runs w B none 0 [] := ⟨.inl rfl, Nat.le_refl _, by decide, fun _ h => by simp at h⟩
/-- The cells of one run, as a walk spells them; the run, loaded whole. -/
theorem Runs.place (h : Runs w B A c L) {i : Nat} {d : D} (hd : L[i]? = some d) :
    ∃ ad p : Addr, A = some ad ∧ p.block < B ∧ ad.add (i * 6) = p ∧ w.cell? p = some (.int .i64 d.file) ∧ w.cell? ⟨p.block, p.off + 1, none⟩ = some (.int .i64 d.bytes) ∧ w.cell? ⟨p.block, p.off + 2, none⟩ = some (.int .i64 d.count) ∧ w.cell? ⟨p.block, p.off + 3, none⟩ = some (.slice d.firstA d.first.length d.firstC) ∧ w.cell? ⟨p.block, p.off + 4, none⟩ = some (.slice d.lastA d.last.length d.lastC) ∧ w.cell? ⟨p.block, p.off + 5, none⟩ = some (.int .u64 (d.seq : Int)) := by
  have hl := (List.getElem?_eq_some_iff.1 hd).1
  obtain ⟨ad, ha, hb, hc⟩ := h.lies.place (by rw [cellsL_length]; omega)
  have e : ∀ j : Nat, j ≠ 0 → (⟨(ad.add (i * 6)).block, (ad.add (i * 6)).off + j, none⟩ : Addr) = ad.add (i * 6 + j) := by
    intro j hj
    have hne : ¬ i * 6 + j = 0 := by omega
    unfold Addr.add
    rw [if_neg hne]
    split <;> simp <;> omega
  refine ⟨ad, _, ha, by rw [add_block]; exact hb, rfl, hc _ _ (by have := cellsL_at hd 0 (by omega); simpa [D.cells] using this), ?_, ?_, ?_, ?_, ?_⟩
  · rw [e 1 (by decide)]; exact hc _ _ (by have := cellsL_at hd 1 (by omega); simpa [D.cells] using this)
  · rw [e 2 (by decide)]; exact hc _ _ (by have := cellsL_at hd 2 (by omega); simpa [D.cells] using this)
  · rw [e 3 (by decide)]; exact hc _ _ (by have := cellsL_at hd 3 (by omega); simpa [D.cells] using this)
  · rw [e 4 (by decide)]; exact hc _ _ (by have := cellsL_at hd 4 (by omega); simpa [D.cells] using this)
  · rw [e 5 (by decide)]; exact hc _ _ (by have := cellsL_at hd 5 (by omega); simpa [D.cells] using this)
theorem load_run {p : Addr} {d : D} (h0 : w.cell? p = some (.int .i64 d.file)) (h1 : w.cell? ⟨p.block, p.off + 1, none⟩ = some (.int .i64 d.bytes)) (h2 : w.cell? ⟨p.block, p.off + 2, none⟩ = some (.int .i64 d.count)) (h3 : w.cell? ⟨p.block, p.off + 3, none⟩ = some (.slice d.firstA d.first.length d.firstC)) (h4 : w.cell? ⟨p.block, p.off + 4, none⟩ = some (.slice d.lastA d.last.length d.lastC)) (h5 : w.cell? ⟨p.block, p.off + 5, none⟩ = some (.int .u64 (d.seq : Int))) :
    Sem.run Try.prog (loadVar 41 p) w = .ok d.v w := by
  have hl := run_loadCells_list (P := Try.prog) w p d.cells (fun j v hj => by
    rcases j with _ | _ | _ | _ | _ | _ | j
    · simp [D.cells] at hj; subst hj; exact h0
    · simp [D.cells] at hj; subst hj; exact h1
    · simp [D.cells] at hj; subst hj; exact h2
    · simp [D.cells] at hj; subst hj; exact h3
    · simp [D.cells] at hj; subst hj; exact h4
    · simp [D.cells] at hj; subst hj; exact h5
    · simp [D.cells] at hj)
  have hagg : Sem.run Try.prog (isAgg 41) w = .ok true w := by
    unfold isAgg
    rw [Sem.run_bind, run_underlying Try.underlying41 w]
    simp
  obtain ⟨i, hi, hs⟩ : ∃ i, Try.prog.info? 41 = some i ∧ i.size = 6 := by
    have : (Try.prog.info? 41).map (·.size) = some 6 := by kernel_rfl
    cases hq : Try.prog.info? 41 with
    | none => rw [hq] at this; cases this
    | some i => rw [hq] at this; exact ⟨i, rfl, by simpa using this⟩
  have hl3 : (loadCells p 6).run Try.prog w = .ok #[.int .i64 d.file, .int .i64 d.bytes, .int .i64 d.count, .slice d.firstA d.first.length d.firstC, .slice d.lastA d.last.length d.lastC, .int .u64 (d.seq : Int)] w := hl
  simp [loadVar, Sem.run_bind, hagg, sizeOf, typeInfo, hi, hs, hl3]
end
theorem cellsL_one {L : List D} : ∀ u, u ∈ cellsL L → u.oneCell' = true := by
  intro u hu
  obtain ⟨d, _, h⟩ := List.mem_flatMap.1 hu
  simp [D.cells] at h
  rcases h with rfl | rfl | rfl | rfl | rfl | rfl <;> rfl
/-- append(l, more...) of runs, onto a slice of the call's own. -/
theorem append_runs {w : World} {base B c : Nat} {v : Value} {A : Option Addr} {L M : List D} (hown : w.ownsRow base 41 6 v L.length (cellsL L)) (hl : Lies w B A (cellsL M)) (hn : L.length + M.length ≤ 1000) (hbase : base ≤ w.heap.size) :
    ∃ v' w', Sem.run Try.prog (Builtin.append_ #[22, 22] 22 #[v, .slice A M.length c]) w = .ok v' w' ∧ w'.ownsRow base 41 6 v' (L ++ M).length (cellsL (L ++ M)) ∧ Below base w w' ∧ w.heap.size ≤ w'.heap.size := by
  obtain ⟨v', w', h1, h2, h3, h4⟩ := run_append_lies (P := Try.prog) (m := M.length) (c := c) 22 22 41 (.agg #[.int .i64 0, .int .i64 0, .int .i64 0, .slice none 0 0, .slice none 0 0, .int .u64 0]) 6 80 Try.underlying22 (by kernel_rfl) rfl (by decide)
    cellsL_one hown hl (cellsL_length M) (by unfold maxLen; omega) (by omega) hbase
  exact ⟨v', w', h1, by rw [List.length_append, cellsL_append]; exact h2, h3, h4⟩

set_option maxRecDepth 100000 in
set_option maxHeartbeats 1600000 in
theorem open_runs_at {H : Type} {enc : TypeId × Value → H} {W : World} {v : Value} {y : DataW H × List MemPlace} {n : Nat} (h : DataW.trod enc Try.prog W 0 (fun _ => true) true n 22 [v] = some y)
    (hlt : ∀ x, x ∈ y.2 → x.block < W.heap.size) : ∃ (A : Option Addr) (c : Nat) (L : List D), v = .slice A L.length c ∧ Runs W W.heap.size A c L := by
  have h7 : Try.prog.cellsOf 41 = 6 := by kernel_rfl
  have c1 : Try.prog.cellsOf 3 = 1 := by kernel_rfl
  have c2 : Try.prog.cellsOf 29 = 1 := by kernel_rfl
  have c3 : Try.prog.cellsOf 24 = 1 := by kernel_rfl
  rcases Deep.open_slice Try.underlying22 h with ⟨hcs, _⟩ | ⟨a, len, cap, m, n', E, Pl, hcs, _, hl, hm, hmm, rfl, hx⟩
  · simp at hcs
    subst hcs
    exact ⟨none, 0, [], rfl, Runs.zero _ _⟩
  · simp at hcs hmm
    subst hcs hmm
    rw [h7] at hx hlt
    have each : ∀ i, i < len → ∃ d : D, (∀ j, j < 6 → W.cell? (a.add (i * 6 + j)) = d.cells[j]?) ∧ d.Ok W (· < W.heap.size) := by
      intro i hi
      obtain ⟨cs', h1, h2⟩ := hx i (by omega)
      obtain ⟨_, hlen, hcell⟩ := World.cells?_some h1
      obtain ⟨xs, n2, _, hy, _, hxl, hf⟩ := DataW.trod_struct Try.underlying41 h2
      match cs', hlen, xs, hxl with
      | [v0, v1, v2, v3, v4, v5], _, [y0, y1, y2, y3, y4, y5], _ =>
        have hpl : ∀ x, x ∈ (Pl i) → x.block < W.heap.size := fun x hx2 => hlt x (List.mem_append_right _ (List.mem_flatMap.2 ⟨i, List.mem_range.2 (by omega), hx2⟩))
        have hpe : Pl i = y0.2 ++ (y1.2 ++ (y2.2 ++ (y3.2 ++ (y4.2 ++ y5.2)))) := by
          have := congrArg Prod.snd hy
          simpa using this
        rw [hpe] at hpl
        have t0 := hf 0 _ rfl
        have t1 := hf 1 _ rfl
        have t2 := hf 2 _ rfl
        have t3 := hf 3 _ rfl
        have t4 := hf 4 _ rfl
        have t5 := hf 5 _ rfl
        obtain ⟨k0, rfl, wk0⟩ := open_int_at (k := .i64) (n := n2) (y := y0) Try.underlying3 (v := v0) (by simpa [c1] using t0)
        obtain ⟨k1, rfl, wk1⟩ := open_int_at (k := .i64) (n := n2) (y := y1) Try.underlying3 (v := v1) (by simpa [c1] using t1)
        obtain ⟨k2, rfl, wk2⟩ := open_int_at (k := .i64) (n := n2) (y := y2) Try.underlying3 (v := v2) (by simpa [c1] using t2)
        obtain ⟨A1, q1, zs1, rfl, hc1, hm1, hl1, hw1⟩ := open_nums_at Try.underlying29 Try.underlying5 (by kernel_rfl) (n := n2) (y := y3) (v := v3) (by simpa [c2] using t3) (fun x hx2 => hpl x (by simp [hx2]))
        obtain ⟨A2, q2, zs2, rfl, hc2, hm2, hl2, hw2⟩ := open_nums_at Try.underlying29 Try.underlying5 (by kernel_rfl) (n := n2) (y := y4) (v := v4) (by simpa [c2] using t4) (fun x hx2 => hpl x (by simp [hx2]))
        obtain ⟨k5, rfl, wk5⟩ := open_int_at (k := .u64) (n := n2) (y := y5) Try.underlying24 (v := v5) (by simpa [c3] using t5)
        obtain ⟨bs1, rfl, hz1⟩ := as_nat zs1 fun n hn => (u8_of (hw1 n hn)).1
        obtain ⟨bs2, rfl, hz2⟩ := as_nat zs2 fun n hn => (u8_of (hw2 n hn)).1
        rw [List.map_map] at hl1 hl2
        rw [List.length_map] at hc1 hc2 hcell
        obtain ⟨s, rfl⟩ := Int.eq_ofNat_of_zero_le (u64_of wk5).1
        have bs := (u64_of wk5).2
        refine ⟨⟨k0, k1, k2, A1, q1, bs1, A2, q2, bs2, s⟩, fun j hj => ?_, ⟨wk0, wk1, wk2, hl1.p fun _ h => h, hc1, hm1, fun b hb => ?_, hl2.p fun _ h => h, hc2, hm2, fun b hb => ?_, (by show s < 18446744073709551616; omega)⟩⟩
        · have := hcell j hj
          rw [Deep.add_add] at this
          rw [this]
          simp [D.cells]
        · have := (u8_of (hw1 _ (hz1 b hb))).2; omega
        · have := (u8_of (hw2 _ (hz2 b hb))).2; omega
    obtain ⟨f, hf⟩ : ∃ f : Nat → D, ∀ i, i < len → (∀ j, j < 6 → W.cell? (a.add (i * 6 + j)) = (f i).cells[j]?) ∧ (f i).Ok W (· < W.heap.size) := by
      by_cases h0 : len = 0
      · exact ⟨fun _ => ⟨0, 0, 0, none, 0, [], none, 0, [], 0⟩, fun i hi => by omega⟩
      · haveI : Inhabited D := ⟨⟨0, 0, 0, none, 0, [], none, 0, [], 0⟩⟩
        exact Deep.choose_lt each
    have hL : ((List.range len).map f).length = len := by simp
    refine ⟨some a, m, (List.range len).map f, by rw [hL], ?_, by rw [hL]; exact hl, hm, fun d hd => ?_⟩
    · by_cases h0 : len = 0
      · left; subst h0; rfl
      · refine .inr ⟨a, rfl, ?_, fun j u hu => ?_⟩
        · exact hlt (.cell a.block (a.off + 0)) (List.mem_append_left _ (by unfold MemPlace.row; exact List.mem_map.2 ⟨0, by simp; omega, rfl⟩))
        · have hj := (List.getElem?_eq_some_iff.1 hu).1
          rw [cellsL_length, hL] at hj
          have hd : ((List.range len).map f)[j / 6]? = some (f (j / 6)) := by
            rw [List.getElem?_map, List.getElem?_range (by omega)]; rfl
          have h1 := cellsL_at hd (j % 6) (Nat.mod_lt _ (by decide))
          rw [show j / 6 * 6 + j % 6 = j by omega, hu] at h1
          have h2 := (hf (j / 6) (by omega)).1 (j % 6) (Nat.mod_lt _ (by decide))
          rw [show j / 6 * 6 + j % 6 = j by omega] at h2
          rw [h2, ← h1]
    · obtain ⟨i, hi, rfl⟩ := List.mem_map.1 hd
      exact (hf i (by simpa using hi)).2
/-- An edit as it lies: its slices' addresses and capacities, the runs, the numbers. -/
structure X where
  addA : Option Addr
  addC : Nat
  add : List D
  dropA : Option Addr
  dropC : Nat
  drop : List Int
  next : Int
  log : Int
  seq : Nat
def X.e (x : X) : E := ⟨x.add.map D.ru, x.drop, x.next, x.log, x.seq⟩
abbrev X.v (x : X) : Value := .agg #[.slice x.addA x.add.length x.addC, .slice x.dropA x.drop.length x.dropC, .int .i64 x.next, .int .i64 x.log, .int .u64 (x.seq : Int)]
structure X.Ok (w : World) (B : Nat) (x : X) : Prop where
  add : Runs w B x.addA x.addC x.add
  dl : Lies w B x.dropA (x.drop.map (Value.int .i64))
  dc : x.drop.length ≤ x.dropC
  dm : x.dropC ≤ maxLen
  dw : ∀ n, n ∈ x.drop → (Lit.int .i64 n).wf = true
  wn : (Lit.int .i64 x.next).wf = true
  wl : (Lit.int .i64 x.log).wf = true
  sq : x.seq < 18446744073709551616
theorem X.Ok.below {w w' : World} {B : Nat} {x : X} (h : x.Ok w B) (hb : Below B w w') : x.Ok w' B := ⟨h.add.below hb, h.dl.below hb, h.dc, h.dm, h.dw, h.wn, h.wl, h.sq⟩
theorem X.Ok.up {w : World} {B B' : Nat} {x : X} (h : x.Ok w B) (hB : B ≤ B') : x.Ok w B' := ⟨h.add.up hB, h.dl.up hB, h.dc, h.dm, h.dw, h.wn, h.wl, h.sq⟩
set_option maxRecDepth 100000 in
/-- A parameter that is an edit. -/
theorem open_edit {H : Type} {enc : TypeId × Value → H} {W : World} {v : Value} {d : DataW H} {p : List MemPlace} {base : Nat} (hok : Value.okWide Try.prog W .any base 26 v)
    (h : DataW.Trod enc Try.prog W 0 (fun _ => true) true 26 v d p) (hlt : ∀ x, x ∈ p → x.block < W.heap.size) : ∃ x : X, v = x.v ∧ x.Ok W W.heap.size := by
  obtain ⟨cs, rfl, hsz⟩ := okWide_struct Try.underlying26 hok
  have h5 : Try.prog.cellsOf 26 = 5 := by kernel_rfl
  have c1 : Try.prog.cellsOf 3 = 1 := by kernel_rfl
  have c2 : Try.prog.cellsOf 23 = 1 := by kernel_rfl
  have c3 : Try.prog.cellsOf 24 = 1 := by kernel_rfl
  have c4 : Try.prog.cellsOf 22 = 1 := by kernel_rfl
  rw [h5] at hsz
  obtain ⟨fuel, hf⟩ := h
  obtain ⟨xs, n2, _, hy, _, hxl, hg⟩ := DataW.trod_struct Try.underlying26 hf
  obtain ⟨L, rfl⟩ : ∃ L : List Value, cs = L.toArray := ⟨cs.toList, by simp⟩
  have hL : L.length = 5 := by simpa using hsz
  match L, hL, xs, hxl with
  | [v0, v1, v2, v3, v4], _, [y0, y1, y2, y3, y4], _ =>
    have hpe : p = y0.2 ++ (y1.2 ++ (y2.2 ++ (y3.2 ++ y4.2))) := by
      have := congrArg Prod.snd hy
      simpa using this
    rw [hpe] at hlt
    have t0 := hg 0 _ rfl
    have t1 := hg 1 _ rfl
    have t2 := hg 2 _ rfl
    have t3 := hg 3 _ rfl
    have t4 := hg 4 _ rfl
    obtain ⟨A0, q0, L0, rfl, hr0⟩ := open_runs_at (n := n2) (y := y0) (v := v0) (by simpa [Value.cells, c4] using t0) (fun x hx2 => hlt x (by simp [hx2]))
    obtain ⟨A1, q1, zs1, rfl, hc1, hm1, hl1, hw1⟩ := open_nums_at Try.underlying23 Try.underlying3 (by kernel_rfl) (n := n2) (y := y1) (v := v1) (by simpa [Value.cells, c2] using t1) (fun x hx2 => hlt x (by simp [hx2]))
    obtain ⟨k2, rfl, wk2⟩ := open_int_at (k := .i64) (n := n2) (y := y2) Try.underlying3 (v := v2) (by simpa [Value.cells, c1] using t2)
    obtain ⟨k3, rfl, wk3⟩ := open_int_at (k := .i64) (n := n2) (y := y3) Try.underlying3 (v := v3) (by simpa [Value.cells, c1] using t3)
    obtain ⟨k4, rfl, wk4⟩ := open_int_at (k := .u64) (n := n2) (y := y4) Try.underlying24 (v := v4) (by simpa [Value.cells, c3] using t4)
    obtain ⟨s, rfl⟩ := Int.eq_ofNat_of_zero_le (u64_of wk4).1
    have bs := (u64_of wk4).2
    exact ⟨⟨A0, q0, L0, A1, q1, zs1, k2, k3, s⟩, rfl, ⟨hr0, hl1, hc1, hm1, hw1, wk2, wk3, by show s < 18446744073709551616; omega⟩⟩
end Go.Proofs.Ythhmjjmjicmhdaa.Ed
