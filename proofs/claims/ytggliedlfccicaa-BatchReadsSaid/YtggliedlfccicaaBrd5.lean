/- The reader of package batch: a whole batch, and what Read answers. -/
import Derived.Test.YtggliedlfccicaaBrd4
namespace Go.Proofs.Ytggliedlfccicaa.Bt
set_option linter.unusedVariables false
set_option linter.unusedSimpArgs false
open Go.RowKit Lift Ik Vn

theorem cellsL_set {L : List D} {j : Nat} (d : D) (h : j < L.length) :
    (((cellsL L).set (j * 3) (.int .i64 d.kind)).set (j * 3 + 1) (.slice d.ka d.key.length d.kc)).set (j * 3 + 2) (.slice d.va d.val.length d.vc) = cellsL (L.set j d) := by
  induction L generalizing j with
  | nil => simp at h
  | cons e L ih =>
    have hc : cellsL (e :: L) = e.cells ++ cellsL L := rfl
    cases j with
    | zero =>
      rw [hc]
      show _ = d.cells ++ cellsL L
      simp [D.cells]
    | succ j =>
      have hl : e.cells.length = 3 := rfl
      rw [hc, List.set_append_right _ _ (by omega), List.set_append_right _ _ (by omega), List.set_append_right _ _ (by omega)]
      rw [show (j + 1) * 3 - e.cells.length = j * 3 by omega, show (j + 1) * 3 + 1 - e.cells.length = j * 3 + 1 by omega, show (j + 1) * 3 + 2 - e.cells.length = j * 3 + 2 by omega, ih (by simpa using h)]
      rfl
abbrev zV : Value := .agg #[.int .i64 0, .slice none 0 0, .slice none 0 0]
theorem zeros_ops (n : Nat) : (madeCells zV.cells (n * 3)).toList = cellsL (List.replicate n zD) := by
  apply List.ext_getElem?
  intro j
  by_cases hj : j < n * 3
  · have hr : (List.replicate n zD)[j / 3]? = some zD := by rw [List.getElem?_replicate]; rw [if_pos (by omega)]
    have h1 := cellsL_at hr (j % 3) (Nat.mod_lt _ (by decide))
    rw [show j / 3 * 3 + j % 3 = j by omega] at h1
    rw [h1]
    have h2 : (madeCells zV.cells (n * 3)).toList[j]? = some (zV.cells[j % 3]!) := by
      unfold madeCells
      rw [Array.toList_map, Array.toList_range, List.getElem?_map, List.getElem?_range hj]
      rfl
    rw [h2]
    have h3 : j % 3 = 0 ∨ j % 3 = 1 ∨ j % 3 = 2 := by omega
    rcases h3 with h3 | h3 | h3 <;> rw [h3] <;> rfl
  · rw [List.getElem?_eq_none, List.getElem?_eq_none]
    · rw [cellsL_length]; simp; omega
    · simp [madeCells]; omega
theorem make_ops (n : Nat) (h : n ≤ 1000) (W : World) : Sem.run Try.prog (Instr.makeSlice 23 (.int .u64 (n : Int)) (.int .u64 (n : Int))) W =
    .ok (.slice (some ⟨W.heap.size, 0, none⟩) n n) (W.alloc (.cells (cellsL (List.replicate n zD)).toArray 46)) := by
  obtain ⟨i, hi, hz, hs, hb⟩ := info_parts (P := Try.prog) (e := 46) (z := zV) (size := 3) (bytes := 56) (by kernel_rfl)
  have h := run_make (P := Try.prog) W 23 46 i zV Try.underlying23 hi hz .u64 .u64 (n : Int) (n : Int) (by omega) (by omega) (by rw [hb]; omega) (by omega)
  rw [hs, Int.toNat_natCast] at h
  rw [h, ← zeros_ops, Array.toArray_toList]

/-- What a batch is told as: the error, Seq, the operations, the place behind them. -/
def batchL (bs : List Nat) : Nat × Nat × List O × Nat :=
  if (headL bs).1 ≠ 0 then ((headL bs).1, 0, [], 0)
  else if (opsL (headN bs) bs 12 []).1 ≠ 0 then ((opsL (headN bs) bs 12 []).1, 0, [], 0)
  else (0, headS bs, (opsL (headN bs) bs 12 []).2.1, (opsL (headN bs) bs 12 []).2.2)
theorem read_batch (bs : List Nat) : readB bs = if (batchL bs).1 ≠ 0 then ((batchL bs).1, 0, []) else if (batchL bs).2.2.2 ≠ bs.length then (2, 0, []) else (0, (batchL bs).2.1, (batchL bs).2.2.1) := by
  unfold readB batchL headL
  by_cases h1 : bs.length < 12
  · simp [h1]
  · by_cases h2 : headN bs < 1 ∨ 100 < headN bs ∨ fits (headS bs) (headN bs) = false
    · simp only [if_neg h1, if_pos h2]
      simp
    · simp only [if_neg h1, if_neg h2]
      by_cases h3 : (opsL (headN bs) bs 12 []).1 ≠ 0
      · simp [h3]
      · simp [h3]
theorem opL_three (l : List Nat) : (opL l).1 = 0 ∨ (opL l).1 = 2 ∨ (opL l).1 = 4 := by
  cases l with
  | nil => simp [opL]
  | cons c r =>
    have h1 := field_three r 1 256
    have h2 := field_three (r.drop (fieldL r 1 256).2.2) 0 4096
    simp only [opL]
    split
    · simp
    · split
      · rcases h1 with h | h | h
        · contradiction
        · exact .inr (.inl h.1)
        · exact .inr (.inr h.1)
      · split
        · simp
        · split
          · rcases h2 with h | h | h
            · contradiction
            · exact .inr (.inl h.1)
            · exact .inr (.inr h.1)
          · simp
theorem opL_ok {l : List Nat} (h : (opL l).1 ≠ 0) : (opL l).2.1 = noO := by
  cases l with
  | nil => rfl
  | cons c r =>
    simp only [opL] at h ⊢
    split
    · rfl
    · rename_i h1
      rw [if_neg h1] at h
      split
      · rfl
      · rename_i h2
        rw [if_neg h2] at h
        split
        · rename_i h3; rw [if_pos h3] at h; simp at h
        · rename_i h3
          rw [if_neg h3] at h
          split
          · rfl
          · rename_i h4; rw [if_neg h4] at h; simp at h

/-- The two cells of a batch laid into the box of the result. -/
theorem batch_end {w W : World} {g : Nat} {us : List Value} (u0 u1 : Value) (hk : Keep (· = g) w W) (hu : us.length = 2) (hb : Box W w.heap.size 25 us) :
    ∀ W', W' = (W.setCell ⟨w.heap.size, 0, none⟩ u0).setCell ⟨w.heap.size, 1, none⟩ u1 → Keep (· = g) w W' ∧ Box W' w.heap.size 25 [u0, u1] ∧ Keep (· = w.heap.size) W W' := by
  rintro W' rfl
  have h1 : Keep (· = w.heap.size) W ((W.setCell ⟨w.heap.size, 0, none⟩ u0).setCell ⟨w.heap.size, 1, none⟩ u1) :=
    ((Keep.refl (· = w.heap.size) W).setCell (p := ⟨w.heap.size, 0, none⟩) (.inr rfl) _).setCell (p := ⟨w.heap.size, 1, none⟩) (.inr rfl) _
  refine ⟨hk.trans h1 fun i hi he => by omega, ?_, h1⟩
  match us, hu with
  | [u0', u1'], _ => exact (hb.set 0 _).set 1 _

set_option maxRecDepth 100000 in
set_option maxHeartbeats 400000 in
theorem batch_short (g : Nat) (A : Option Addr) (n c : Nat) (w : World) (h : Rd w g A n c 0) (hn : n < 12) :
    Calls Try.prog (28) #[.pointer (some ⟨g, 0, none⟩)] w fun e w' => e = .returned (.tuple #[.agg #[.int .u64 0, .slice none 0 0], .int .i64 4]) ∧ Below w.heap.size w w' := by
  have hb0 := Joins.below_alloc1 w (.cells #[.int .u64 0, .slice none 0 0] 25)
  have b0 := Box.new w 25 [.int .u64 0, .slice none 0 0]
  have hp := head_short g A n c (w.alloc (.cells #[.int .u64 0, .slice none 0 0] 25)) (h.below hb0 h.lt) hn
  clear h
  go_enter Try.func28, Try.ntmps28
  go_wp2_with fail
  refine hp.mono ?_
  rintro e W1 ⟨rfl, hb1⟩
  have hb2 := hb0.trans (hb1.mono hb0.size)
  have b1 := b0.below hb1 (by simp)
  obtain ⟨p0, p1, f0, f1⟩ := b1.facts2
  have HB := Lib.hid hb2
  have B1 := Lib.hid b1
  clear hb0 b0 hp hb1 hb2 b1
  go_wp2_with fail
  obtain ⟨hkx, hbx, _⟩ := batch_end (g := w.heap.size + 1) (.int .u64 0) (.slice none 0 0) (below_keep HB.out) rfl B1.out _ rfl
  refine bodyPost_ret (results_box rfl Try.underlying25 (by kernel_rfl) _ rfl hbx) rfl ?_
  exact ⟨rfl, hkx.below (Nat.le_refl _) fun k hk => by omega⟩

theorem set_replicate (pre : List D) (d : D) (m : Nat) : (pre ++ List.replicate (m + 1) zD).set pre.length d = (pre ++ [d]) ++ List.replicate m zD := by
  rw [List.set_append_right _ _ (Nat.le_refl _), Nat.sub_self, List.replicate_succ]
  simp
theorem ops_step {n p : Nat} {bs : List Nat} {acc : List O} {fuel : Nat} (h : opsL n bs 12 [] = opsL (fuel + 1) bs p acc) : opsL n bs 12 [] = if (opL (bs.drop p)).1 ≠ 0 then ((opL (bs.drop p)).1, [], 0) else opsL fuel bs (p + (opL (bs.drop p)).2.2) (acc ++ [(opL (bs.drop p)).2.1]) := h
/-- A slice of operations in blocks of a kind. -/
structure OpsP (w : World) (R : Nat → Prop) (A : Option Addr) (c : Nat) (L : List D) : Prop where
  lies : LiesP w R A (cellsL L)
  len : L.length ≤ c
  cap : c ≤ maxLen
  ok : ∀ d, d ∈ L → d.Ok w R
theorem OpsP.later {w w' : World} {R R' : Nat → Prop} {A : Option Addr} {c : Nat} {L : List D} (h : OpsP w R A c L) (hk : ∀ k, R k → w'.heap[k]? = w.heap[k]?) (hR : ∀ k, R k → R' k) : OpsP w' R' A c L :=
  ⟨h.lies.later hk hR, h.len, h.cap, fun d hd => (h.ok d hd).later hk hR⟩
theorem OpsP.ops {w : World} {R : Nat → Prop} {A : Option Addr} {c B : Nat} {L : List D} (h : OpsP w R A c L) (hR : ∀ k, R k → k < B) : Ops w B A c L :=
  ⟨h.lies.lies hR, h.len, h.cap, fun d hd => (h.ok d hd).later (fun _ _ => rfl) hR⟩
theorem OpsP.zero (w : World) (R : Nat → Prop) : OpsP w R none 0 [] := ⟨.inl rfl, Nat.le_refl _, by decide, fun _ h => by simp at h⟩
theorem liesP_block {w : World} {g : Nat} {R : Nat → Prop} {cs : Array Value} {T : TypeId} {fr : Nat × Nat} (h : w.heap[g]? = some (.cells cs T fr)) (hR : R g) : LiesP w R (some ⟨g, 0, none⟩) cs.toList := by
  rcases lies_block h (Nat.lt_succ_self g) with h0 | ⟨ad, ha, _, hc⟩
  · exact .inl h0
  · cases ha; exact .inr ⟨_, rfl, hR, hc⟩
/-- What a batch is told as. -/
def Batched (w : World) (g : Nat) (ad : Addr) (c : Nat) (bs : List Nat) (e : Ending) (w' : World) : Prop :=
  ∃ (A2 : Option Addr) (c2 : Nat) (L : List D) (q : Nat), e = .returned (.tuple #[.agg #[.int .u64 ((batchL bs).2.1 : Int), .slice A2 L.length c2], .int .i64 ((batchL bs).1 : Int)]) ∧ opsO L = (batchL bs).2.2.1 ∧ OpsP w' (fun k => w.heap.size ≤ k ∧ k < w'.heap.size) A2 c2 L ∧
    Keep (· = g) w w' ∧ Rdr w' g ad c bs q ∧ ((batchL bs).1 = 0 → q = (batchL bs).2.2.2)
theorem batched_bad {w w' : World} {g c q er : Nat} {ad : Addr} {bs : List Nat} (h : batchL bs = (er, 0, [], 0)) (h0 : er ≠ 0) (hk : Keep (· = g) w w') (hr : Rdr w' g ad c bs q) :
    Batched w g ad c bs (.returned (.tuple #[.agg #[.int .u64 0, .slice none 0 0], .int .i64 (er : Int)])) w' :=
  ⟨none, 0, [], q, by rw [h]; rfl, by rw [h]; rfl, OpsP.zero _ _, hk, hr, fun h1 => by rw [h] at h1; exact absurd h1 h0⟩

set_option maxRecDepth 100000 in
set_option maxHeartbeats 800000 in
theorem batch_rd (g : Nat) (ad : Addr) (c : Nat) (bs : List Nat) (w : World) (h : Rdr w g ad c bs 0) (h12 : 12 ≤ bs.length) :
    Calls Try.prog (28) #[.pointer (some ⟨g, 0, none⟩)] w (Batched w g ad c bs) := by
  have hb0 := Joins.below_alloc1 w (.cells #[.int .u64 0, .slice none 0 0] 25)
  have b0 := Box.new w 25 [.int .u64 0, .slice none 0 0]
  have hz0 : (w.alloc (.cells #[.int .u64 0, .slice none 0 0] 25)).heap.size = w.heap.size + 1 := by simp
  have hglt := h.rd.lt
  have hp := head_rd g ad c bs (w.alloc (.cells #[.int .u64 0, .slice none 0 0] 25)) (h.below hb0 hglt) h12
  have hk0 : Keep (· = g) w (w.alloc (.cells #[.int .u64 0, .slice none 0 0] 25)) := below_keep hb0
  have H8 := Lib.hid h.byte
  clear h
  go_enter Try.func28, Try.ntmps28
  go_wp2_with fail
  generalize w.alloc (.cells #[.int .u64 0, .slice none 0 0] 25) = w0 at hb0 b0 hz0 hp hk0 ⊢
  refine hp.mono ?_
  rintro e W1 ⟨rfl, hk1, hr1⟩
  have b1 := b0.keep hk1 (by omega)
  have hz1 : w.heap.size < W1.heap.size := by have := hk1.size; omega
  have K1 := Lib.hid (hk0.trans hk1 fun _ _ h => h)
  have R1 := Lib.hid hr1
  have B1 := Lib.hid b1
  have HZ1 := Lib.hid hz1
  have HLT := Lib.hid hglt
  obtain ⟨p0, p1, f0, f1⟩ := b1.facts2
  clear hb0 b0 hz0 hp hk0 hk1 hr1 b1 hz1 hglt
  by_cases hh : headN bs < 1 ∨ 100 < headN bs ∨ fits (headS bs) (headN bs) = false
  · have e1 : headL bs = (2, 0, 0) := by unfold headL; rw [if_neg (by omega), if_pos hh]
    have E := Lib.hid (show batchL bs = (2, 0, [], 0) by unfold batchL; rw [e1]; rfl)
    rw [e1]
    clear hh e1
    go_wp2_with fail
    obtain ⟨hkx, hbx, hk3⟩ := batch_end (g := g) (.int .u64 0) (.slice none 0 0) K1.out rfl B1.out _ rfl
    refine bodyPost_ret (results_box rfl Try.underlying25 (by kernel_rfl) _ rfl hbx) rfl ?_
    exact batched_bad E.out (by decide) hkx (R1.out.below (hk3.below (B := w.heap.size) (Nat.le_of_lt HZ1.out) fun k hk => by omega) HLT.out)
  · have e1 : headL bs = (0, headS bs, headN bs) := by unfold headL; rw [if_neg (by omega), if_neg hh]
    have e2 : batchL bs = if (opsL (headN bs) bs 12 []).1 ≠ 0 then ((opsL (headN bs) bs 12 []).1, 0, [], 0) else (0, headS bs, (opsL (headN bs) bs 12 []).2.1, (opsL (headN bs) bs 12 []).2.2) := by
      unfold batchL; rw [e1]; rfl
    rw [e1]
    have hn : 1 ≤ headN bs ∧ headN bs ≤ 100 := by omega
    generalize headN bs = n at e2 hn ⊢
    generalize headS bs = s at e2 ⊢
    have E2 := Lib.hid e2
    have hmk := fun W => make_ops n (by omega) W
    clear hh e1 e2
    go_wp2_with fail
    have hbA := Joins.below_alloc1 W1 (.cells (cellsL (List.replicate n zD)).toArray 46)
    have bG := Box.new W1 46 (cellsL (List.replicate n zD))
    have hzG : (W1.alloc (.cells (cellsL (List.replicate n zD)).toArray 46)).heap.size = W1.heap.size + 1 := by simp
    have b1 := B1.out.below hbA HZ1.out
    have r1 := R1.out.below hbA (Nat.lt_trans HLT.out HZ1.out)
    have k1 := K1.out.trans (below_keep (S := (· = g)) hbA) fun _ _ h => h
    generalize W1.alloc (.cells (cellsL (List.replicate n zD)).toArray 46) = W2 at hbA bG hzG b1 r1 k1 ⊢
    have B2 := Lib.hid b1
    have BG := Lib.hid bG
    have R2 := Lib.hid r1
    have K2 := Lib.hid k1
    have HZ2 := Lib.hid hzG
    clear hbA bG hzG b1 r1 k1 p0 p1 f0 f1 hmk
    go_loopw [23] (fun i wr => ∃ (j q : Nat) (pre : List D), i = .int .i64 j ∧ pre.length = j ∧ j ≤ n ∧ Hid (Box wr W1.heap.size 46 (cellsL (pre ++ List.replicate (n - j) zD))) ∧ Hid (∀ d, d ∈ pre → d.Ok wr (fun k => W1.heap.size < k ∧ k < wr.heap.size)) ∧ Hid (Keep (· = g) w wr) ∧ Hid (Rdr wr g ad c bs q) ∧
        Hid (Box wr w.heap.size 25 [.int .u64 0, .slice none 0 0]) ∧ Hid (opsL n bs 12 [] = opsL (n - j) bs q (opsO pre))) (fun i _ => n + 1 - (intOf i).toNat)
    case atStart => exact ⟨0, 12, [], rfl, rfl, by omega, BG, Lib.hid (fun d hd => by simp at hd), K2, R2, B2, Lib.hid rfl⟩
    case round =>
      obtain ⟨j, q, pre, rfl, hpl, hj, bg, hok, hk, hr, hb, he⟩ := hrel
      by_cases hlt : j < n
      · have hop := Lib.hid (op_rd g ad c q bs wr hr.out)
        have HPL := Lib.hid hpl
        clear hpl
        go_wp2_with fail
        refine hop.out.mono ?_
        rintro e W3 ⟨d, q3, rfl, hdo, hdk, hk3, hr3, hq3⟩
        have hbg := bg.out.lt
        have bg3 := bg.out.keep hk3 (by have := HLT.out; have := HZ1.out; omega)
        have b3 := hb.out.keep hk3 (by have := HLT.out; omega)
        have k3 := hk.out.trans hk3 fun _ _ h => h
        have hcl : (cellsL (pre ++ List.replicate (n - j) zD)).length = n * 3 := by rw [cellsL_length, List.length_append, List.length_replicate, HPL.out]; congr 1; omega
        obtain ⟨c0, hc0⟩ : ∃ u, W3.cell? ⟨W1.heap.size, j * 3, none⟩ = some u := ⟨_, (bg3.cell _).trans (List.getElem?_eq_getElem (by rw [hcl]; omega))⟩
        obtain ⟨c1, hc1⟩ : ∃ u, W3.cell? ⟨W1.heap.size, j * 3 + 1, none⟩ = some u := ⟨_, (bg3.cell _).trans (List.getElem?_eq_getElem (by rw [hcl]; omega))⟩
        obtain ⟨c2, hc2⟩ : ∃ u, W3.cell? ⟨W1.heap.size, j * 3 + 2, none⟩ = some u := ⟨_, (bg3.cell _).trans (List.getElem?_eq_getElem (by rw [hcl]; omega))⟩
        have z0 := bg3.free (j * 3)
        have z1 := bg3.free (j * 3 + 1)
        have z2 := bg3.free (j * 3 + 2)
        have hne : w.heap.size ≠ W1.heap.size := by have := HZ1.out; omega
        have hgne : g < W1.heap.size := Nat.lt_trans HLT.out HZ1.out
        have hst : Keep (· = W1.heap.size) W3 (((W3.setCell ⟨W1.heap.size, j * 3, none⟩ (.int .i64 d.kind)).setCell ⟨W1.heap.size, j * 3 + 1, none⟩ (.slice d.ka d.key.length d.kc)).setCell ⟨W1.heap.size, j * 3 + 2, none⟩ (.slice d.va d.val.length d.vc)) :=
          (((Keep.refl (· = W1.heap.size) W3).setCell (p := ⟨W1.heap.size, j * 3, none⟩) (.inr rfl) _).setCell (p := ⟨W1.heap.size, j * 3 + 1, none⟩) (.inr rfl) _).setCell (p := ⟨W1.heap.size, j * 3 + 2, none⟩) (.inr rfl) _
        have b4 := b3.keep hst hne
        have bg4 := ((bg3.set (j * 3) (.int .i64 d.kind)).set (j * 3 + 1) (.slice d.ka d.key.length d.kc)).set (j * 3 + 2) (.slice d.va d.val.length d.vc)
        rw [cellsL_set d (by rw [List.length_append, List.length_replicate, HPL.out]; omega), show n - j = (n - (j + 1)) + 1 by omega, ← HPL.out, set_replicate, HPL.out] at bg4
        have k4 := k3.trans hst fun i hi he => by have := HZ1.out; omega
        have r4 := hr3.below (hst.below (B := W1.heap.size) (Nat.le_of_lt bg3.lt) fun k hk => by omega) hgne
        have ok4 : ∀ x, x ∈ pre ++ [d] → x.Ok (((W3.setCell ⟨W1.heap.size, j * 3, none⟩ (.int .i64 d.kind)).setCell ⟨W1.heap.size, j * 3 + 1, none⟩ (.slice d.ka d.key.length d.kc)).setCell ⟨W1.heap.size, j * 3 + 2, none⟩ (.slice d.va d.val.length d.vc))
            (fun k => W1.heap.size < k ∧ k < (((W3.setCell ⟨W1.heap.size, j * 3, none⟩ (.int .i64 d.kind)).setCell ⟨W1.heap.size, j * 3 + 1, none⟩ (.slice d.ka d.key.length d.kc)).setCell ⟨W1.heap.size, j * 3 + 2, none⟩ (.slice d.va d.val.length d.vc)).heap.size) := by
          intro x hx
          rcases List.mem_append.1 hx with h1 | h1
          · refine (hok.out x h1).later (fun k hk2 => (hst.block k (Nat.lt_of_lt_of_le hk2.2 hk3.size) (by omega)).trans (hk3.block k hk2.2 (by omega))) fun k hk2 => ⟨hk2.1, Nat.lt_of_lt_of_le hk2.2 (Nat.le_trans hk3.size hst.size)⟩
          · simp at h1
            subst h1
            exact hdk.later (fun k hk2 => hst.block k hk2.2 (by omega)) fun k hk2 => ⟨by omega, Nat.lt_of_lt_of_le hk2.2 hst.size⟩
        have HE := Lib.hid (show (opL (bs.drop q)).1 = 0 → opsL n bs 12 [] = opsL (n - (j + 1)) bs q3 (opsO (pre ++ [d])) from fun h0 => by
          rw [he.out, show n - j = (n - (j + 1)) + 1 by omega]
          show (if (opL (bs.drop q)).1 ≠ 0 then ((opL (bs.drop q)).1, [], 0) else opsL (n - (j + 1)) bs (q + (opL (bs.drop q)).2.2) (opsO pre ++ [(opL (bs.drop q)).2.1])) = _
          rw [if_neg (by simpa using h0), hq3 h0, ← hdo]
          simp [opsO])
        have B4 := Lib.hid b4
        have BG4 := Lib.hid bg4
        have K4 := Lib.hid k4
        have R4 := Lib.hid r4
        have OK4 := Lib.hid ok4
        obtain ⟨p0, p1, f0, f1⟩ := b3.facts2
        obtain ⟨p0', p1', f0', f1'⟩ := b4.facts2
        clear hbg bg3 b3 k3 hcl hst b4 bg4 k4 r4 ok4 hdk hk3 hr3 hq3 hne hgne hok hk hr hb bg
        rcases opL_three (bs.drop q) with hoe | hoe | hoe
        · have HE2 := Lib.hid (HE.out hoe)
          rw [hoe]
          clear hoe HE he hdo
          go_wp2_with fail
          go_roundw
          case rel => exact ⟨j + 1, q3, pre ++ [d], by go_num, by rw [List.length_append, HPL.out]; rfl, by omega, BG4, OK4, K4, R4, B4, HE2⟩
          case measure => simp [intOf]; omega
        · have E3 := Lib.hid (show batchL bs = (2, 0, [], 0) by
            have : opsL n bs 12 [] = (2, [], 0) := by
              rw [he.out, show n - j = (n - (j + 1)) + 1 by omega]
              show (if (opL (bs.drop q)).1 ≠ 0 then ((opL (bs.drop q)).1, [], 0) else _) = _
              rw [hoe]; rfl
            rw [E2.out, this]; rfl)
          rw [hoe]
          clear hoe
          go_wp2_with fail
          obtain ⟨hkx, hbx, hk5⟩ := batch_end (g := g) (.int .u64 0) (.slice none 0 0) K4.out rfl B4.out _ rfl
          refine bodyPost_ret (results_box rfl Try.underlying25 (by kernel_rfl) _ rfl hbx) rfl ?_
          exact batched_bad E3.out (by decide) hkx (R4.out.below (hk5.below (B := w.heap.size) (Nat.le_of_lt B4.out.lt) fun k hk => by omega) HLT.out)
        · have E3 := Lib.hid (show batchL bs = (4, 0, [], 0) by
            have : opsL n bs 12 [] = (4, [], 0) := by
              rw [he.out, show n - j = (n - (j + 1)) + 1 by omega]
              show (if (opL (bs.drop q)).1 ≠ 0 then ((opL (bs.drop q)).1, [], 0) else _) = _
              rw [hoe]; rfl
            rw [E2.out, this]; rfl)
          rw [hoe]
          clear hoe
          go_wp2_with fail
          obtain ⟨hkx, hbx, hk5⟩ := batch_end (g := g) (.int .u64 0) (.slice none 0 0) K4.out rfl B4.out _ rfl
          refine bodyPost_ret (results_box rfl Try.underlying25 (by kernel_rfl) _ rfl hbx) rfl ?_
          exact batched_bad E3.out (by decide) hkx (R4.out.below (hk5.below (B := w.heap.size) (Nat.le_of_lt B4.out.lt) fun k hk => by omega) HLT.out)
      · obtain rfl : j = n := by omega
        have HPL := Lib.hid hpl
        have E3 := Lib.hid (show batchL bs = (0, s, opsO pre, q) by rw [E2.out, he.out, Nat.sub_self]; rfl)
        obtain ⟨p0, p1, f0, f1⟩ := hb.out.facts2
        clear hpl
        go_wp2_with fail
        obtain ⟨hkx, hbx, hk5⟩ := batch_end (g := g) (.int .u64 s) (.slice (some ⟨W1.heap.size, 0, none⟩) j j) hk.out rfl hb.out _ rfl
        refine bodyPost_ret (results_box rfl Try.underlying25 (by kernel_rfl) _ rfl hbx) rfl ?_
        have hg5 := bg.out.keep hk5 (by have := HZ1.out; omega)
        rw [Nat.sub_self, List.replicate_zero, List.append_nil] at hg5
        have hsz5 := hk5.size
        refine ⟨some ⟨W1.heap.size, 0, none⟩, j, pre, q, by rw [E3.out, HPL.out]; rfl, by rw [E3.out], ⟨liesP_block hg5 ⟨Nat.le_of_lt HZ1.out, hg5.lt⟩, by rw [HPL.out]; exact Nat.le_refl _, by unfold maxLen; omega, fun d hd => (hok.out d hd).later (fun k hk2 => hk5.block k hk2.2 (by have := HZ1.out; omega)) fun k hk2 => ⟨by have := HZ1.out; omega, Nat.lt_of_lt_of_le hk2.2 hsz5⟩⟩, hkx,
          hr.out.below (hk5.below (B := w.heap.size) (Nat.le_of_lt hb.out.lt) fun k hk => by omega) HLT.out, fun _ => by rw [E3.out]⟩
end Go.Proofs.Ytggliedlfccicaa.Bt
