/- The project's cache in memory: a box, a map, and slots with links both ways. -/
import Derived.Test.YtbeohfmikpbkhaaCo1
import Derived.Test.YtbeohfmikpbkhaaCl10
import Derived.Maps.OwnSet
import Derived.WideKeyPair
namespace Go.Proofs.Ytbeohfmikpbkhaa.Ck
set_option linter.unusedVariables false
set_option linter.unusedSimpArgs false
open Go.RowKit Go.Maps Lift Ik
abbrev Ty.cache : TypeId := 46
abbrev Ty.node : TypeId := 55
abbrev Ty.map : TypeId := 43
abbrev pt (n : Nat) : Value := .pointer (some ⟨n, 0, none⟩)
def ptO : Option Nat → Value
  | some n => pt n
  | none => .pointer none
/-- A slot, where it lies and where its bytes lie. -/
structure E where
  blk : Nat
  ba : Option Addr
  bc : Nat
  s : S
def E.cells (e : E) (p n : Nat) : List Value := [.int .i64 e.s.file, .int .i64 e.s.off, .slice e.ba e.s.b.length e.bc, .int .i64 (e.s.pins : Int), .bool e.s.mark, pt p, pt n]
abbrev wf64 (x : Int) : Prop := (Lit.int .i64 x).wf = true
structure E.Ok (w : World) (Z : Nat → Prop) (e : E) : Prop where
  own : w.ownsRow 0 5 1 (.slice e.ba e.s.b.length e.bc) e.s.b.length (e.s.b.map vb)
  sv : ∀ k, (Value.slice e.ba e.s.b.length e.bc).ownBlock = some k → Z k
  v8 : ∀ c, c ∈ e.s.b → c < 256
  few : e.s.b.length ≤ 100
  pins : e.s.pins ≤ 1000
  wff : wf64 e.s.file
  wfo : wf64 e.s.off
/-- Blocks of which no slot and no bytes lie. -/
def Away (w : World) (T : Nat → Prop) : Prop := ∀ k, T k → k < w.heap.size → (∃ us, Box w k Ty.cache us) ∨ ∃ es clock, w.heap[k]? = some (.map es clock)
section
variable {w w' : World} {g : Nat} {Z Z' T : Nat → Prop} {L : List E} {pv nx : Nat → Nat}
theorem away_node {k : Nat} {us : List Value} (ha : Away w T) (hb : Box w k Ty.node us) : ¬ T k := fun ht => by
  have hb' := hb
  unfold Box at hb'
  rcases ha k ht hb.lt with ⟨vs, h⟩ | ⟨es, clock, h⟩
  · unfold Box at h
    rw [hb'] at h
    injection h with h
    injection h with _ h _
    exact absurd h (by decide)
  · rw [hb'] at h
    cases h
theorem away_own {v : Value} {n : Nat} {xs : List Value} (ha : Away w T) (ho : w.ownsRow 0 5 1 v n xs) {k : Nat} (hv : v.ownBlock = some k) : ¬ T k := fun ht => by
  rcases ho.2 with ⟨h0, _⟩ | ⟨b, cap, cur, hv', _, hh, _⟩
  · rw [h0] at hv; simp [Value.ownBlock] at hv
  · rw [hv'] at hv
    simp [Value.ownBlock] at hv
    subst hv
    rcases ha b ht (Array.getElem?_eq_some_iff.1 hh).1 with ⟨vs, h⟩ | ⟨es, clock, h⟩
    · unfold Box at h
      rw [hh] at h
      injection h with h
      injection h with _ h _
      exact absurd h (by decide)
    · rw [hh] at h
      cases h
theorem away_box {us : List Value} (hb : Box w g Ty.cache us) : Away w (· = g) := fun k hk _ => by subst hk; exact .inl ⟨us, hb⟩
theorem away_map {b n : Nat} {D : DataW Unit} {R : Value → Option (DataW Unit × List MemPlace)} (hm : w.ownsMap Try.prog 51 R b n D) : Away w (· = b) := fun k hk _ => by
  subst hk
  obtain ⟨es, clock, h, _⟩ := hm
  exact .inr ⟨es, clock, h⟩
theorem E.Ok.keep {e : E} (h : e.Ok w Z) (hk : Keep T w w') (ha : Away w T) (hZ : ∀ k, Z k → Z' k) : e.Ok w' Z' :=
  ⟨own_kept h.own hk fun k hv => away_own ha h.own hv, fun k hv => hZ k (h.sv k hv), h.v8, h.few, h.pins, h.wff, h.wfo⟩
theorem E.Ok.set {e : E} {p : Nat} {us : List Value} (h : e.Ok w Z) (hb : Box w p Ty.node us) (i : Nat) (u : Value) : e.Ok (w.setCell ⟨p, i, none⟩ u) Z := by
  refine ⟨own_kept h.own (S := (· = p)) ((Keep.refl (· = p) w).setCell (p := ⟨p, i, none⟩) (.inr rfl) u) fun k hv hkp => ?_, h.sv, h.v8, h.few, h.pins, h.wff, h.wfo⟩
  subst hkp
  exact own_apart h.own hb (by decide) hv
/-- The slots, and what links them. -/
structure Mem (w : World) (Z : Nat → Prop) (L : List E) (pv nx : Nat → Nat) : Prop where
  node : ∀ e, e ∈ L → Box w e.blk Ty.node (e.cells (pv e.blk) (nx e.blk))
  ok : ∀ e, e ∈ L → e.Ok w Z
  zb : ∀ e, e ∈ L → Z e.blk
  nd : (L.map E.blk).Nodup
theorem Mem.keep (h : Mem w Z L pv nx) (hk : Keep T w w') (ha : Away w T) (hZ : ∀ k, Z k → Z' k) : Mem w' Z' L pv nx :=
  ⟨fun e he => (h.node e he).keep hk (away_node ha (h.node e he)), fun e he => (h.ok e he).keep hk ha hZ, fun e he => hZ _ (h.zb e he), h.nd⟩
theorem blk_eq {e e' : E} (hn : (L.map E.blk).Nodup) (he : e ∈ L) (he' : e' ∈ L) (h : e.blk = e'.blk) : e = e' := by
  obtain ⟨i, hi, h1⟩ := List.getElem_of_mem he
  obtain ⟨j, hj, h2⟩ := List.getElem_of_mem he'
  have g1 : L[i]? = some e := by rw [List.getElem?_eq_getElem hi, h1]
  have g2 : L[j]? = some e' := by rw [List.getElem?_eq_getElem hj, h2]
  have := nodup_at hn (i := i) (j := j) (x := e.blk) (by rw [List.getElem?_map, g1]; rfl) (by rw [List.getElem?_map, g2]; exact congrArg some h.symm)
  subst this
  rw [g1] at g2
  exact Option.some.inj g2
/-- A cell of a slot is written: what becomes of all. -/
theorem Mem.put {e : E} {i : Nat} {u : Value} {pv' nx' : Nat → Nat} (h : Mem w Z L pv nx) (he : e ∈ L) (hc : e.cells (pv' e.blk) (nx' e.blk) = (e.cells (pv e.blk) (nx e.blk)).set i u) (ho : ∀ k, k ≠ e.blk → pv' k = pv k ∧ nx' k = nx k) :
    Mem (w.setCell ⟨e.blk, i, none⟩ u) Z L pv' nx' ∧ Keep Z w (w.setCell ⟨e.blk, i, none⟩ u) := by
  have hb := h.node e he
  refine ⟨⟨fun x hx => ?_, fun x hx => (h.ok x hx).set hb i u, h.zb, h.nd⟩, ((Keep.refl (· = e.blk) w).setCell (p := ⟨e.blk, i, none⟩) (.inr rfl) u).mono fun k hk => by rw [hk]; exact h.zb e he⟩
  by_cases hxe : x.blk = e.blk
  · obtain rfl := blk_eq h.nd hx he hxe
    rw [hc]
    exact (h.node x hx).set i u
  · obtain ⟨h1, h2⟩ := ho _ hxe
    rw [h1, h2]
    exact (h.node x hx).setOther hxe u
theorem Mem.next {e : E} (h : Mem w Z L pv nx) (he : e ∈ L) (y : Nat) : Mem (w.setCell ⟨e.blk, 6, none⟩ (pt y)) Z L pv (upd nx e.blk y) ∧ Keep Z w (w.setCell ⟨e.blk, 6, none⟩ (pt y)) :=
  h.put he (by rw [upd_at]; rfl) fun k hk => ⟨rfl, upd_off hk⟩
theorem Mem.prev {e : E} (h : Mem w Z L pv nx) (he : e ∈ L) (y : Nat) : Mem (w.setCell ⟨e.blk, 5, none⟩ (pt y)) Z L (upd pv e.blk y) nx ∧ Keep Z w (w.setCell ⟨e.blk, 5, none⟩ (pt y)) :=
  h.put he (by rw [upd_at]; rfl) fun k hk => ⟨upd_off hk, rfl⟩
/-- Pins or mark of one slot are written. -/
theorem Mem.poke {e e' : E} {i k : Nat} {u : Value} (h : Mem w Z L pv nx) (he : L[i]? = some e) (hb : e'.blk = e.blk ∧ e'.ba = e.ba ∧ e'.bc = e.bc ∧ e'.s.b = e.s.b ∧ e'.s.file = e.s.file ∧ e'.s.off = e.s.off) (hp : e'.s.pins ≤ 1000)
    (hc : e'.cells (pv e.blk) (nx e.blk) = (e.cells (pv e.blk) (nx e.blk)).set k u) : Mem (w.setCell ⟨e.blk, k, none⟩ u) Z (L.set i e') pv nx ∧ Keep Z w (w.setCell ⟨e.blk, k, none⟩ u) := by
  have hm := List.mem_of_getElem? he
  have hbx := h.node e hm
  obtain ⟨b1, b2, b3, b4, b5, b6⟩ := hb
  have hE : (L.set i e').map E.blk = L.map E.blk := by
    rw [List.map_set]
    refine List.ext_getElem? fun j => ?_
    rw [List.getElem?_set]
    split
    · rename_i hj
      subst hj
      rw [List.getElem?_map, he]
      have hil := (List.getElem?_eq_some_iff.1 he).1
      simp [hil, b1]
    · rfl
  have hcase : ∀ x, x ∈ L.set i e' → (x ∈ L ∧ x.blk ≠ e.blk) ∨ x = e' := fun x hx => by
    obtain ⟨j, hj, hjx⟩ := List.getElem_of_mem hx
    by_cases hij : i = j
    · subst hij
      rw [List.getElem_set_self] at hjx
      exact .inr hjx.symm
    · rw [List.getElem_set_ne hij] at hjx
      have hjl : j < L.length := by simpa using hj
      have g1 : L[j]? = some x := by rw [List.getElem?_eq_getElem hjl, hjx]
      refine .inl ⟨List.mem_of_getElem? g1, fun e1 => hij (nodup_at h.nd (x := e.blk) ?_ ?_)⟩
      · rw [List.getElem?_map, he]; rfl
      · rw [List.getElem?_map, g1]; exact congrArg some e1
  refine ⟨⟨fun x hx => ?_, fun x hx => ?_, fun x hx => ?_, by rw [hE]; exact h.nd⟩, ((Keep.refl (· = e.blk) w).setCell (p := ⟨e.blk, k, none⟩) (.inr rfl) u).mono fun j hj => by rw [hj]; exact h.zb e hm⟩
  · rcases hcase x hx with ⟨hx, hne⟩ | rfl
    · exact (h.node x hx).setOther hne u
    · rw [b1, hc]
      exact hbx.set k u
  · rcases hcase x hx with ⟨hx, hne⟩ | rfl
    · exact (h.ok x hx).set hbx k u
    · have ho := (h.ok e hm).set hbx k u
      exact ⟨by rw [b2, b3, b4]; exact ho.own, by rw [b2, b3, b4]; exact ho.sv, by rw [b4]; exact ho.v8, by rw [b4]; exact ho.few, hp, by rw [b5]; exact ho.wff, by rw [b6]; exact ho.wfo⟩
  · rcases hcase x hx with ⟨hx, hne⟩ | rfl
    · exact h.zb x hx
    · rw [b1]; exact h.zb e hm
theorem Mem.sub {L' : List E} (h : Mem w Z L pv nx) (hs : L'.Sublist L) : Mem w Z L' pv nx :=
  ⟨fun e he => h.node e (hs.subset he), fun e he => h.ok e (hs.subset he), fun e he => h.zb e (hs.subset he), h.nd.sublist (hs.map _)⟩
/-- All cells of one slot, and that they may be written. -/
theorem Mem.facts {e : E} (h : Mem w Z L pv nx) (he : e ∈ L) :
    w.cell? ⟨e.blk, 0, none⟩ = some (.int .i64 e.s.file) ∧ w.cell? ⟨e.blk, 1, none⟩ = some (.int .i64 e.s.off) ∧ w.cell? ⟨e.blk, 2, none⟩ = some (.slice e.ba e.s.b.length e.bc) ∧ w.cell? ⟨e.blk, 3, none⟩ = some (.int .i64 (e.s.pins : Int)) ∧ w.cell? ⟨e.blk, 4, none⟩ = some (.bool e.s.mark) ∧
      w.cell? ⟨e.blk, 5, none⟩ = some (pt (pv e.blk)) ∧ w.cell? ⟨e.blk, 6, none⟩ = some (pt (nx e.blk)) ∧ ∀ i, w.frozen? ⟨e.blk, i, none⟩ = false :=
  have hb := h.node e he
  ⟨hb.cell 0, hb.cell 1, hb.cell 2, hb.cell 3, hb.cell 4, hb.cell 5, hb.cell 6, fun i => hb.free i⟩
end
end Go.Proofs.Ytbeohfmikpbkhaa.Ck
