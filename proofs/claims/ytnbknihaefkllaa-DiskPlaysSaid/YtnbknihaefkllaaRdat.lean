/- The document's own disk, as it lies in memory. -/
import Derived.Test.YtnbknihaefkllaaDrename
import Derived.Test.YtnbknihaefkllaaDnamed
namespace Go.Proofs.Ytnbknihaefkllaa.Rk
set_option linter.unusedVariables false
set_option linter.unusedSimpArgs false
open Go.RowKit Go.Maps Lift Ik Dk

/-- A file of the document's disk, as it lies. -/
structure D where
  nm : ByteArray
  a : Option Addr
  c : Nat
  bs : List Nat
  syn : Nat
def D.m (d : D) : FM := ⟨d.nm, d.bs, d.syn⟩
def D.cells (d : D) : List Value := [.string d.nm, .slice d.a d.bs.length d.c, .int .i64 (d.syn : Int)]
def cellsL (L : List D) : List Value := L.flatMap D.cells
theorem cellsL_length (L : List D) : (cellsL L).length = L.length * 3 := by
  induction L with
  | nil => rfl
  | cons d L ih => simp only [cellsL, List.flatMap_cons, List.length_append, List.length_cons] at ih ⊢; rw [ih]; simp [D.cells]; omega
theorem cellsL_append (L M : List D) : cellsL (L ++ M) = cellsL L ++ cellsL M := by simp [cellsL]
theorem cellsL_at {L : List D} {i : Nat} {d : D} (h : L[i]? = some d) (j : Nat) (hj : j < 3) : (cellsL L)[i * 3 + j]? = d.cells[j]? := by
  induction L generalizing i with
  | nil => simp at h
  | cons e L ih =>
    have hc : cellsL (e :: L) = e.cells ++ cellsL L := rfl
    rw [hc]
    cases i with
    | zero =>
      simp at h; subst h
      rw [List.getElem?_append_left (by simp [D.cells]; omega)]; simp
    | succ i =>
      simp at h
      rw [List.getElem?_append_right (by simp [D.cells]; omega), ← ih h]
      congr 1
      simp [D.cells]; omega
theorem cellsL_one {L : List D} : ∀ u, u ∈ cellsL L → u.oneCell' = true := by
  intro u hu
  obtain ⟨d, _, h⟩ := List.mem_flatMap.1 hu
  simp [D.cells] at h
  rcases h with rfl | rfl | rfl <;> rfl
abbrev Ty.disk : TypeId := 47
abbrev Ty.file : TypeId := 78
/-- A file's bytes, in blocks S of bytes. -/
structure D.Ok (w : World) (S : Nat → Prop) (d : D) : Prop where
  lies : LiesP w (fun k => S k ∧ ∃ cs fr, w.heap[k]? = some (.cells cs 5 fr)) d.a (d.bs.map vb)
  cap : d.bs.length ≤ d.c
  max : d.c ≤ maxLen
  byte : ∀ x, x ∈ d.bs → x < 256
  len : d.bs.length ≤ 16777216
  syn : d.syn ≤ d.bs.length
  nm : d.nm.size ≤ 40
abbrev before (a b : FM) : Prop := (kl a.nm).before (kl b.nm) = true
/-- The document's disk in memory: its struct in block g, all of it in the blocks S. -/
structure Lay (w : World) (g : Nat) (S : Nat → Prop) (rm : Int) (m : MS) (L : List D) (A F : Option Addr) (c cf : Nat) : Prop where
  box : Box w g Ty.disk [.int .i64 rm, .slice A L.length c, .slice F m.armed.length cf, .int .i64 (m.failed : Int)]
  sg : S g
  own : w.ownsRow 0 Ty.file 3 (.slice A L.length c) L.length (cellsL L)
  so : ∀ k, (Value.slice A L.length c).ownBlock = some k → S k
  ok : ∀ d, d ∈ L → d.Ok w S
  told : m.fs = L.map D.m
  armed : Armed w S F m.armed
  capf : m.armed.length ≤ cf
  capm : cf ≤ maxLen
  wf : ∀ x, x ∈ m.armed → (Lit.int .i64 x).wf = true
  lt : ∀ k, S k → k < w.heap.size
  room : m.room = rm.toNat
  rwf : (Lit.int .i64 rm).wf = true
  many : L.length ≤ 1000
  sorted : m.fs.Pairwise before
def At (w : World) (g : Nat) (S : Nat → Prop) (rm : Int) (m : MS) : Prop := ∃ L A F c cf, Lay w g S rm m L A F c cf
section
variable {w w' : World} {g : Nat} {S S' T : Nat → Prop} {rm : Int} {m : MS} {L : List D} {A F : Option Addr} {c cf : Nat}
theorem D.Ok.keep {d : D} (h : d.Ok w S) (hk : Keep T w w') (hT : ∀ k, T k → S k → ¬ ∃ cs fr, w.heap[k]? = some (.cells cs 5 fr)) (hS : ∀ k, S k → S' k) : d.Ok w' S' := by
  have hb : ∀ k, (S k ∧ ∃ cs fr, w.heap[k]? = some (.cells cs 5 fr)) → w'.heap[k]? = w.heap[k]? := by
    rintro k ⟨hs, cs, fr, hh⟩
    exact hk.block k (Array.getElem?_eq_some_iff.1 hh).1 fun ht => hT k ht hs ⟨cs, fr, hh⟩
  exact ⟨h.lies.later hb fun k hk1 => ⟨hS k hk1.1, hk1.2.elim fun cs h1 => h1.elim fun fr h2 => ⟨cs, fr, (hb k hk1).trans h2⟩⟩, h.cap, h.max, h.byte, h.len, h.syn, h.nm⟩
theorem Lay.keep (h : Lay w g S rm m L A F c cf) (hk : Keep T w w') (hT : ∀ k, S k → ¬ T k) : Lay w' g S rm m L A F c cf :=
  ⟨h.box.keep hk (hT g h.sg), h.sg, own_keep h.own hk fun k hk1 => hT k (h.so k hk1), h.so, fun d hd => (h.ok d hd).keep hk (fun k ht hs => absurd ht (hT k hs)) fun _ => id, h.told,
    h.armed.keep hk (fun k ht hs => absurd ht (hT k hs)) fun _ => id, h.capf, h.capm, h.wf, fun k hs => Nat.lt_of_lt_of_le (h.lt k hs) hk.size, h.room, h.rwf, h.many, h.sorted⟩
theorem At.keep (h : At w g S rm m) (hk : Keep T w w') (hT : ∀ k, S k → ¬ T k) : At w' g S rm m := by
  obtain ⟨L, A, F, c, cf, h⟩ := h
  exact ⟨L, A, F, c, cf, h.keep hk hT⟩
theorem At.below (h : At w g S rm m) (hk : Below w.heap.size w w') : At w' g S rm m := h.keep (T := fun _ => False) (below_keep hk) fun _ _ => id
theorem At.lt (h : At w g S rm m) (k : Nat) (hk : S k) : k < w.heap.size := by
  obtain ⟨L, A, F, c, cf, h⟩ := h
  exact h.lt k hk
theorem Lay.toAt (h : Lay w g S rm m L A F c cf) : At w g S rm m := ⟨_, _, _, _, _, h⟩
theorem Lay.facts (h : Lay w g S rm m L A F c cf) : w.cell? ⟨g, 0, none⟩ = some (.int .i64 rm) ∧ w.cell? ⟨g, 1, none⟩ = some (.slice A L.length c) ∧ w.cell? ⟨g, 2, none⟩ = some (.slice F m.armed.length cf) ∧ w.cell? ⟨g, 3, none⟩ = some (.int .i64 (m.failed : Int)) ∧
    w.frozen? ⟨g, 1, none⟩ = false ∧ w.frozen? ⟨g, 2, none⟩ = false ∧ w.frozen? ⟨g, 3, none⟩ = false :=
  ⟨h.box.cell 0, h.box.cell 1, h.box.cell 2, h.box.cell 3, h.box.free 1, h.box.free 2, h.box.free 3⟩
/-- The struct's last two cells are written. -/
theorem Lay.turn (h : Lay w g S rm m L A F c cf) (hk : Keep (· = g) w w') (l : List Int) (n cf' : Nat) (F' : Option Addr)
    (hb : Box w' g Ty.disk [.int .i64 rm, .slice A L.length c, .slice F' l.length cf', .int .i64 (n : Int)]) (ha : Armed w' S F' l) (hc : l.length ≤ cf') (hm : cf' ≤ maxLen) (hw : ∀ x, x ∈ l → (Lit.int .i64 x).wf = true) :
    Lay w' g S rm { m with armed := l, failed := n } L A F' c cf' :=
  ⟨hb, h.sg, own_keep h.own hk fun k hk1 e => own_apart h.own h.box (by decide) (by rw [← e]; exact hk1), h.so, fun d hd => (h.ok d hd).keep hk (fun k ht _ hh => by
      obtain ⟨cs, fr, hh⟩ := hh
      rw [ht] at hh
      exact typed h.box hh (by decide)) fun _ => id, h.told, ha, hc, hm, hw, fun k hs => Nat.lt_of_lt_of_le (h.lt k hs) hk.size, h.room, h.rwf, h.many, h.sorted⟩
theorem Lay.drew (h : Lay w g S rm m L A F c cf) (n : Nat) : Lay (w.drewN n) g S rm m L A F c cf := h.keep (T := fun _ => False) (below_keep (Joins.below_draws w.heap.size w n)) fun _ _ => id
/-- The cells of one file, as a walk spells them. -/
theorem Lay.place (h : Lay w g S rm m L A F c cf) {i : Nat} {d : D} (hd : L[i]? = some d) :
    ∃ gl, A = some ⟨gl, 0, none⟩ ∧ w.cell? ⟨gl, i * 3, none⟩ = some (.string d.nm) ∧ w.cell? ⟨gl, i * 3 + 1, none⟩ = some (.slice d.a d.bs.length d.c) ∧ w.cell? ⟨gl, i * 3 + 2, none⟩ = some (.int .i64 (d.syn : Int)) ∧
      w.frozen? ⟨gl, i * 3 + 1, none⟩ = false ∧ w.frozen? ⟨gl, i * 3 + 2, none⟩ = false := by
  have hl := (List.getElem?_eq_some_iff.1 hd).1
  rcases h.own.2 with ⟨_, h0⟩ | ⟨gl, cap, cur, hv, _, hh, _⟩
  · omega
  · injection hv with hA
    subst hA
    have hc := h.own.cells (g := gl) rfl
    have e : ∀ j, (⟨gl, 0, none⟩ : Addr).add j = ⟨gl, j, none⟩ := fun j => by unfold Addr.add; split <;> simp_all
    refine ⟨gl, rfl, ?_, ?_, ?_, frozen_of_row w gl _ _ _ hh, frozen_of_row w gl _ _ _ hh⟩
    · have := hc (i * 3) (.string d.nm) (by have := cellsL_at hd 0 (by omega); simpa [D.cells] using this)
      rw [e] at this; exact this
    · have := hc (i * 3 + 1) (.slice d.a d.bs.length d.c) (by have := cellsL_at hd 1 (by omega); simpa [D.cells] using this)
      rw [e] at this; exact this
    · have := hc (i * 3 + 2) (.int .i64 (d.syn : Int)) (by have := cellsL_at hd 2 (by omega); simpa [D.cells] using this)
      rw [e] at this; exact this
end
end Go.Proofs.Ytnbknihaefkllaa.Rk
