/- The document's cache in memory: slots of five cells; what the calls that only read answer. -/
import Derived.Test.YtbeohfmikpbkhaaOwn
import Derived.Test.YtbeohfmikpbkhaaCm3
import Derived.ArgAppend
import Derived.Deep.RegionHeld3
import Derived.Deep.QuietTactic
import Derived.BigQuiet
import Derived.LoopTactic
import Derived.Lib.SliceRun
namespace Go.Proofs.Ytbeohfmikpbkhaa.Ck
set_option linter.unusedVariables false
set_option linter.unusedSimpArgs false
open Go.RowKit Lift Ik
abbrev Ty.rcache : TypeId := 50
abbrev Ty.slot : TypeId := 59
abbrev vi (n : Int) : Value := .int .i64 n
/-- A slot as it lies. -/
structure D where
  ba : Option Addr
  bc : Nat
  s : S
def D.cells (d : D) : List Value := [.int .i64 d.s.file, .int .i64 d.s.off, .slice d.ba d.s.b.length d.bc, .int .i64 (d.s.pins : Int), .bool d.s.mark]
def cellsL (L : List D) : List Value := L.flatMap D.cells
theorem cellsL_length (L : List D) : (cellsL L).length = L.length * 5 := by
  induction L with
  | nil => rfl
  | cons d L ih => simp only [cellsL, List.flatMap_cons, List.length_append, List.length_cons] at ih ⊢; rw [ih]; simp [D.cells]; omega
theorem cellsL_append (L M : List D) : cellsL (L ++ M) = cellsL L ++ cellsL M := by simp [cellsL]
theorem cellsL_at {L : List D} {i : Nat} {d : D} (h : L[i]? = some d) (j : Nat) (hj : j < 5) : (cellsL L)[i * 5 + j]? = d.cells[j]? := by
  induction L generalizing i with
  | nil => simp at h
  | cons e L ih =>
    have hc : cellsL (e :: L) = e.cells ++ cellsL L := rfl
    rw [hc]
    cases i with
    | zero =>
      simp at h; subst h
      rw [List.getElem?_append_left (by simp [D.cells]; omega)]; simp
    | succ i =>
      simp at h
      rw [List.getElem?_append_right (by simp [D.cells]; omega), ← ih h]
      congr 1
      simp [D.cells]; omega
theorem cellsL_one {L : List D} : ∀ u, u ∈ cellsL L → u.oneCell' = true := by
  intro u hu
  obtain ⟨d, _, h⟩ := List.mem_flatMap.1 hu
  simp [D.cells] at h
  rcases h with rfl | rfl | rfl | rfl | rfl <;> rfl
structure D.Ok (w : World) (R : Nat → Prop) (d : D) : Prop where
  bl : LiesP w R d.ba (d.s.b.map vb)
  bc : d.s.b.length ≤ d.bc
  bm : d.bc ≤ maxLen
  v8 : ∀ c, c ∈ d.s.b → c < 256
  few : d.s.b.length ≤ 100
  pins : d.s.pins ≤ 1000
theorem D.Ok.later {w w' : World} {R R' : Nat → Prop} {d : D} (h : d.Ok w R) (hk : ∀ k, R k → w'.heap[k]? = w.heap[k]?) (hR : ∀ k, R k → R' k) : d.Ok w' R' :=
  ⟨h.bl.later hk hR, h.bc, h.bm, h.v8, h.few, h.pins⟩
/-- The document's cache in block g, all of it in the blocks Z; its slots in the row A. -/
structure RLay (w : World) (g : Nat) (Z : Nat → Prop) (room hand : Nat) (L : List D) (A : Option Addr) (c : Nat) : Prop where
  box : Lift.Box w g Ty.rcache [vi room, .slice A L.length c, vi hand]
  own : w.ownsRow 0 Ty.slot 5 (.slice A L.length c) L.length (cellsL L)
  ok : ∀ d, d ∈ L → d.Ok w (fun k => Z k ∧ k ≠ g ∧ ∀ ad, A = some ad → k ≠ ad.block)
  sg : Z g
  sa : ∀ ad, A = some ad → Z ad.block
  lt : ∀ k, Z k → k < w.heap.size
  many : L.length ≤ 1000
  roomy : room ≤ 4611686018427387904
  at_ : hand ≤ 1000
def RC (w : World) (g : Nat) (Z : Nat → Prop) (room : Nat) (c : R) : Prop := ∃ L A cp, RLay w g Z room c.2 L A cp ∧ L.map (·.s) = c.1
section
variable {w w' : World} {g room hand c : Nat} {Z : Nat → Prop} {L : List D} {A : Option Addr}
theorem RLay.same (h : RLay w g Z room hand L A c) (hk : ∀ k, Z k → w'.heap[k]? = w.heap[k]?) (hs : w.heap.size ≤ w'.heap.size) : RLay w' g Z room hand L A c := by
  refine ⟨h.box.at_block (hk g h.sg), ⟨h.own.1, ?_⟩, fun d hd => (h.ok d hd).later (fun k hk2 => hk k hk2.1) fun _ h => h, h.sg, h.sa, fun k h1 => Nat.lt_of_lt_of_le (h.lt k h1) hs, h.many, h.roomy, h.at_⟩
  rcases h.own.2 with h0 | ⟨g', cap, cur, hv, hB, hh, r⟩
  · exact .inl h0
  · refine .inr ⟨g', cap, cur, hv, hB, ?_, r⟩
    injection hv with hv
    subst hv
    exact (hk g' (h.sa _ rfl)).trans hh
theorem RC.same {r : R} (h : RC w g Z room r) (hk : ∀ k, Z k → w'.heap[k]? = w.heap[k]?) (hs : w.heap.size ≤ w'.heap.size) : RC w' g Z room r := by
  obtain ⟨L, A, cp, h, e⟩ := h
  exact ⟨L, A, cp, h.same hk hs, e⟩
theorem RC.lt {r : R} (h : RC w g Z room r) (k : Nat) (hk : Z k) : k < w.heap.size := by
  obtain ⟨L, A, cp, h, e⟩ := h
  exact h.lt k hk
theorem RC.below {r : R} (h : RC w g Z room r) (hb : Below w.heap.size w w') : RC w' g Z room r := h.same (fun k hk => hb.block k (h.lt k hk)) hb.size
theorem RC.keep {r : R} {X : Nat → Prop} (h : RC w g Z room r) (hk : Keep X w w') (hX : ∀ k, Z k → ¬ X k) : RC w' g Z room r := h.same (fun k hs => hk.block k (h.lt k hs) (hX k hs)) hk.size
theorem RLay.facts (h : RLay w g Z room hand L A c) : w.cell? ⟨g, 0, none⟩ = some (.int .i64 (room : Int)) ∧ w.cell? ⟨g, 1, none⟩ = some (.slice A L.length c) ∧ w.cell? ⟨g, 2, none⟩ = some (.int .i64 (hand : Int)) :=
  ⟨h.box.cell 0, h.box.cell 1, h.box.cell 2⟩
/-- The cells of one slot, as a walk spells them. -/
theorem RLay.place (h : RLay w g Z room hand L A c) {i : Nat} {d : D} (hd : L[i]? = some d) :
    ∃ b : Nat, A = some ⟨b, 0, none⟩ ∧ w.cell? ⟨b, i * 5, none⟩ = some (.int .i64 d.s.file) ∧ w.cell? ⟨b, i * 5 + 1, none⟩ = some (.int .i64 d.s.off) ∧ w.cell? ⟨b, i * 5 + 2, none⟩ = some (.slice d.ba d.s.b.length d.bc) ∧ w.cell? ⟨b, i * 5 + 3, none⟩ = some (.int .i64 (d.s.pins : Int)) ∧ w.cell? ⟨b, i * 5 + 4, none⟩ = some (.bool d.s.mark) := by
  have hl := (List.getElem?_eq_some_iff.1 hd).1
  have hA : ∃ b, A = some ⟨b, 0, none⟩ := by
    rcases h.own.2 with ⟨h0, _⟩ | ⟨g', cap, cur, hv, _⟩
    · omega
    · injection hv with hv; exact ⟨g', hv⟩
  obtain ⟨b, rfl⟩ := hA
  have hc := h.own.cells (g := b) rfl
  have e : ∀ j : Nat, (⟨b, j, none⟩ : Addr) = (⟨b, 0, none⟩ : Addr).add j := by
    intro j
    rw [Addr.add_lit, Nat.zero_add]
  refine ⟨b, rfl, ?_, ?_, ?_, ?_, ?_⟩
  · rw [e]; exact hc _ _ (by have := cellsL_at hd 0 (by omega); simpa [D.cells] using this)
  · rw [e]; exact hc _ _ (by have := cellsL_at hd 1 (by omega); simpa [D.cells] using this)
  · rw [e]; exact hc _ _ (by have := cellsL_at hd 2 (by omega); simpa [D.cells] using this)
  · rw [e]; exact hc _ _ (by have := cellsL_at hd 3 (by omega); simpa [D.cells] using this)
  · rw [e]; exact hc _ _ (by have := cellsL_at hd 4 (by omega); simpa [D.cells] using this)
theorem sumTake (f : D → Nat) {L : List D} {j : Nat} {d : D} (h : L[j]? = some d) : ((L.take (j + 1)).map f).sum = ((L.take j).map f).sum + f d := by
  rw [List.take_add_one, h]; simp
theorem sumLe (f : D → Nat) (m : Nat) {L : List D} (h : ∀ d, d ∈ L → f d ≤ m) (j : Nat) : ((L.take j).map f).sum ≤ L.length * m := by
  induction L generalizing j with
  | nil => simp
  | cons d L ih =>
    cases j with
    | zero => simp
    | succ j =>
      have h1 := ih (fun e he => h e (List.mem_cons_of_mem _ he)) j
      have h2 := h d (List.mem_cons_self ..)
      simp only [List.take_succ_cons, List.map_cons, List.sum_cons, List.length_cons]
      rw [Nat.add_mul]; omega
set_option maxHeartbeats 800000 in
theorem rused_any {r : R} (h : RC w g Z room r) : Calls Try.prog (27) #[.pointer (some ⟨g, 0, none⟩)] w fun e w' => e = .returned (vi (used r.1 : Nat)) ∧ w = w' := by
  obtain ⟨L, A, c, hl, he⟩ := h
  obtain ⟨f0, f1, f2⟩ := hl.facts
  have hmany := hl.many
  have HS : Hid (∀ i, ((L.take i).map fun d : D => d.s.b.length).sum ≤ 100000) := Lib.hid fun i => Nat.le_trans (sumLe _ 100 (fun d hd => (hl.ok d hd).few) i) (by omega)
  have HE : Hid (used r.1 = (L.map fun d : D => d.s.b.length).sum) := Lib.hid (by rw [← he]; unfold used; rw [List.map_map]; rfl)
  have HF := Lib.hid fun d hd => (hl.ok d hd).few
  have HL := Lib.hid hl
  clear hl he
  go_enter (Try.func27), (Try.ntmps27)
  go_wp2_with fail
  go_loopw [3, 4] (fun s i wr => ∃ j t : Nat, j ≤ L.length ∧ s = .int .i64 (t : Int) ∧ i = .int .i64 (j : Int) ∧ Hid (t = ((L.take j).map fun d : D => d.s.b.length).sum) ∧ wr = w) (fun _ i _ => L.length + 1 - (intOf i).toNat)
  case atStart => exact ⟨0, 0, Nat.zero_le _, rfl, rfl, Lib.hid rfl, rfl⟩
  case round =>
    obtain ⟨j, t, hj, rfl, rfl, ht, rfl⟩ := hrel
    have hs := HS.out j
    have ht2 := ht.out
    have hs2 : t ≤ 100000 := by omega
    clear hs ht2
    by_cases hlt : j < L.length
    · obtain ⟨d, hd⟩ : ∃ d, L[j]? = some d := ⟨_, List.getElem?_eq_getElem hlt⟩
      obtain ⟨b, hA, q0, q1, q2, q3, q4⟩ := HL.out.place hd
      subst hA
      have hfew := HF.out d (List.mem_of_getElem? hd)
      have HX := Lib.hid hd
      clear hd
      go_wp2_with fail
      go_roundw
      case rel => exact ⟨j + 1, t + d.s.b.length, by omega, by go_num, by go_num, Lib.hid (by rw [sumTake _ HX.out, ht.out]), trivial⟩
      case measure => simp [intOf]; omega
    · obtain rfl : j = L.length := by omega
      go_wp2_with fail
      go_ret
      exact ⟨by have := ht.out; rw [List.take_length] at this; rw [HE.out, ← this]; rfl, rfl⟩
end
end Go.Proofs.Ytbeohfmikpbkhaa.Ck
