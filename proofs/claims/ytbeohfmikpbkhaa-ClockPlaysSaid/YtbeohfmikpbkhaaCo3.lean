/- The project's cache: what its map tells, and the whole of it in memory. -/
import Derived.Test.YtbeohfmikpbkhaaCo2
namespace Go.Proofs.Ytbeohfmikpbkhaa.Ck
set_option linter.unusedVariables false
set_option linter.unusedSimpArgs false
open Go.RowKit Go.Maps Lift Ik
abbrev kl (f a : Int) : Lit := .string (keyBytes [.int .i64 f, .int .i64 a])
abbrev dat (b : Nat) : DataW Unit := .lit (.int .i64 (b : Int))
/-- How a pointer to a slot reads. -/
def ptrR : Value → Option (DataW Unit × List MemPlace)
  | .pointer none => some (.nil, [])
  | .pointer (some ⟨b, 0, none⟩) => some (dat b, [])
  | _ => none
theorem ptrR_nil {v : Value} {ps : List MemPlace} (h : ptrR v = some (.nil, ps)) : v = .pointer none := by
  unfold ptrR at h
  split at h
  · rfl
  · simp [dat] at h
  · cases h
theorem ptrR_some {v : Value} {b : Nat} {ps : List MemPlace} (h : ptrR v = some (dat b, ps)) : v = pt b := by
  unfold ptrR at h
  split at h
  · simp [dat] at h
  · rename_i b0
    simp [dat] at h
    obtain ⟨h1, _⟩ := h
    obtain rfl : b0 = b := by omega
    rfl
  · cases h
theorem arr : Go.WideMaps.ArrKey Try.prog 51 3 2 := ⟨Try.underlying51, by kernel_rfl, by kernel_rfl, by kernel_rfl⟩
theorem law : Keyed Try.prog 51 := Keyed.of_law arr.law
theorem zeroE (w : World) : (zeroValue 44).run Try.prog w = .ok (.pointer none) w := by kernel_rfl
abbrev keyV (f a : Int) : Value := .agg #[.int .i64 f, .int .i64 a]
theorem key {f a : Int} (hf : wf64 f) (ha : wf64 a) : keyOf Try.prog 51 (keyV f a) = some (kl f a) :=
  Go.WideMaps.keyOf_pair arr Try.underlying3 (by
    have h : 0 < (Try.prog).types.size := of_decide_eq_true (by kernel_rfl)
    exact ⟨_, (Nat.succ_pred_eq_of_pos h).symm⟩) hf ha
theorem kl_inj {f a f' a' : Int} (hf : wf64 f) (ha : wf64 a) (hf' : wf64 f') (ha' : wf64 a') (h : kl f a = kl f' a') : f = f' ∧ a = a' := by
  have e := law.inj (key hf ha) (by rw [h]; exact key hf' ha')
  injection e with e
  simp at e
  exact e
theorem kl_key (f a : Int) : WideAt.IsKeyLit (kl f a) := trivial
/-- What the map tells of the slots. -/
structure Tell (D : DataW Unit) (L : List E) : Prop where
  hit : ∀ e, e ∈ L → D.atKey (kl e.s.file e.s.off) .nil = dat e.blk ∧ Maps.has D (kl e.s.file e.s.off) = true
  miss : ∀ f a, wf64 f → wf64 a → (∀ e, e ∈ L → ¬ (e.s.file = f ∧ e.s.off = a)) → D.atKey (kl f a) .nil = .nil ∧ Maps.has D (kl f a) = false
  size : Maps.size D = L.length
def MapOf (w : World) (Z : Nat → Prop) (M : Option Nat) (L : List E) : Prop := (M = none ∧ L = []) ∨ ∃ b D, M = some b ∧ Z b ∧ w.ownsMap Try.prog 51 ptrR b (Maps.size D) D ∧ Tell D L
section
variable {w w' : World} {g : Nat} {Z Z' T : Nat → Prop} {L : List E} {M : Option Nat}
theorem tight {b n : Nat} {D : DataW Unit} (h : w.ownsMap Try.prog 51 ptrR b n D) : w.ownsMap Try.prog 51 ptrR b (Maps.size D) D := by
  obtain ⟨es, clock, hb, F, hs, hD⟩ := h
  exact ⟨es, clock, hb, F, by rw [hD]; simp [Maps.size, length_sorted], hD⟩
theorem map_turned {b : Nat} (h : w.mapTurned w' b) : Keep (· = b) w w' := (Keep.refl (· = b) w).grown h.grown fun k e _ => (Option.some.inj e).symm
def blkAt (L : List E) (o : Option Nat) : Option Nat := o.bind fun i => (L[i]?).map E.blk
theorem find_map {L : List E} {f a : Int} {i : Nat} (h : find (L.map E.s) f a = some i) : ∃ e, L[i]? = some e ∧ e.s.file = f ∧ e.s.off = a := by
  obtain ⟨s, hs, h1⟩ := find_some h
  rw [List.getElem?_map] at hs
  cases hq : L[i]? with
  | none => rw [hq] at hs; cases hs
  | some e =>
      rw [hq] at hs
      have e1 : e.s = s := by simpa using hs
      subst e1
      exact ⟨e, rfl, h1⟩
theorem find_miss {L : List E} {f a : Int} (h : find (L.map E.s) f a = none) : ∀ e, e ∈ L → ¬ (e.s.file = f ∧ e.s.off = a) := fun e he => find_none h e.s (List.mem_map_of_mem he)
theorem look_run (h : MapOf w Z M L) {f a : Int} (hf : wf64 f) (ha : wf64 a) : Sem.run Try.prog (Instr.lookup Ty.map (.map M) (keyV f a) false) w = .ok (ptO (blkAt L (find (L.map E.s) f a))) w := by
  rcases h with ⟨rfl, rfl⟩ | ⟨b, D, rfl, hs, hm, ht⟩
  · exact Maps.look_nil false law Try.underlying43 (zeroE w) (key hf ha)
  · obtain ⟨v, ps, hrun, hv⟩ := hm.lookup law Try.underlying43 (zeroE w) (zd := .nil) (zp := []) rfl (key hf ha)
    rw [hrun]
    congr 1
    cases hq : find (L.map E.s) f a with
    | none =>
      rw [(ht.miss f a hf ha (find_miss hq)).1] at hv
      exact ptrR_nil hv
    | some i =>
      obtain ⟨e, he, h1, h2⟩ := find_map hq
      have := (ht.hit e (List.mem_of_getElem? he)).1
      rw [h1, h2] at this
      rw [this] at hv
      rw [ptrR_some hv]
      unfold blkAt
      simp [he, ptO]
theorem len_run (h : MapOf w Z M L) (ty : TypeId) : Sem.run Try.prog (Builtin.len_ #[Ty.map] ty #[.map M]) w = .ok (.int .i64 (L.length : Int)) w := by
  rcases h with ⟨rfl, rfl⟩ | ⟨b, D, rfl, hs, hm, ht⟩
  · exact Maps.len_nil Try.underlying43 ty
  · rw [← ht.size]
    exact hm.len Try.underlying43 ty
theorem store_run {b : Nat} {D : DataW Unit} (hm : w.ownsMap Try.prog 51 ptrR b (Maps.size D) D) (ht : Tell D L) (hn : L.length ≤ 1000) (hw : ∀ e, e ∈ L → wf64 e.s.file ∧ wf64 e.s.off) (x : E) (hf : wf64 x.s.file) (ha : wf64 x.s.off) (hx : ∀ e, e ∈ L → ¬ (e.s.file = x.s.file ∧ e.s.off = x.s.off)) :
    ∃ w' D', Sem.run Try.prog (Instr.mapUpdate Ty.map (.map (some b)) (keyV x.s.file x.s.off) (pt x.blk)) w = .ok () w' ∧ w'.ownsMap Try.prog 51 ptrR b (Maps.size D') D' ∧ Tell D' (L ++ [x]) ∧ Keep (· = b) w w' := by
  obtain ⟨w', hrun, ho, htu⟩ := hm.store law Try.underlying43 (by rw [ht.size]; unfold maxLen; omega) (key hf ha) (show ptrR (pt x.blk) = some (dat x.blk, []) from rfl)
  have hI := hm.isMap
  have hT := hm.tidy law
  refine ⟨w', _, hrun, tight ho, ⟨fun e he => ?_, fun f a h1 h2 h3 => ?_, ?_⟩, map_turned htu⟩
  · rcases List.mem_append.1 he with he | he
    · have hne : kl e.s.file e.s.off ≠ kl x.s.file x.s.off := fun e1 => by
        obtain ⟨w1, w2⟩ := hw e he
        exact hx e he (kl_inj w1 w2 hf ha e1)
      rw [atKey_put_other hne, has_put_other hne]
      exact ht.hit e he
    · rw [List.mem_singleton.1 he]
      exact ⟨atKey_put_same hI (kl_key _ _) _ _, has_put_same hI (kl_key _ _) _⟩
  · have hne : kl f a ≠ kl x.s.file x.s.off := fun e1 => by
      have e2 := kl_inj h1 h2 hf ha e1
      exact h3 x (by simp) ⟨e2.1.symm, e2.2.symm⟩
    rw [atKey_put_other hne, has_put_other hne]
    exact ht.miss f a h1 h2 fun e he => h3 e (by simp [he])
  · rw [size_put hT, (ht.miss _ _ hf ha hx).2, if_neg (by simp), ht.size]; simp
theorem drop_run {b i : Nat} {D : DataW Unit} {x : E} (hm : w.ownsMap Try.prog 51 ptrR b (Maps.size D) D) (ht : Tell D L) (hw : ∀ e, e ∈ L → wf64 e.s.file ∧ wf64 e.s.off) (hx : L[i]? = some x) (hn : (ids (L.map E.s)).Nodup) (ty : TypeId) :
    ∃ w' D', Sem.run Try.prog (Builtin.delete_ #[Ty.map, 51] ty #[.map (some b), keyV x.s.file x.s.off]) w = .ok (.tuple #[]) w' ∧ w'.ownsMap Try.prog 51 ptrR b (Maps.size D') D' ∧ Tell D' (L.eraseIdx i) ∧ Keep (· = b) w w' := by
  have hxm := List.mem_of_getElem? hx
  obtain ⟨hf, ha⟩ := hw x hxm
  obtain ⟨w', hrun, ho, htu⟩ := hm.drop law Try.underlying43 (key hf ha) ty
  have hT := hm.tidy law
  have hil := (List.getElem?_eq_some_iff.1 hx).1
  have hoth : ∀ e, e ∈ L.eraseIdx i → ¬ (e.s.file = x.s.file ∧ e.s.off = x.s.off) := fun e he h1 => by
    obtain ⟨j, hne, hj⟩ := List.mem_eraseIdx_iff_getElem?.1 he
    have hp := List.pairwise_iff_getElem.1 hn
    have hjl := (List.getElem?_eq_some_iff.1 hj).1
    have q1 : (ids (L.map E.s))[j]'(by simp [ids]; exact hjl) = (e.s.file, e.s.off) := by simp [ids, (List.getElem?_eq_some_iff.1 hj).2]
    have q2 : (ids (L.map E.s))[i]'(by simp [ids]; exact hil) = (x.s.file, x.s.off) := by simp [ids, (List.getElem?_eq_some_iff.1 hx).2]
    have q3 : (e.s.file, e.s.off) = (x.s.file, x.s.off) := by rw [h1.1, h1.2]
    rcases Nat.lt_trichotomy i j with h | h | h
    · exact hp i j _ _ h (by rw [q1, q2, q3])
    · exact hne h.symm
    · exact hp j i _ _ h (by rw [q1, q2, q3])
  refine ⟨w', _, hrun, tight ho, ⟨fun e he => ?_, fun f a h1 h2 h3 => ?_, ?_⟩, map_turned htu⟩
  · have hem := List.mem_of_mem_eraseIdx he
    have hne : kl e.s.file e.s.off ≠ kl x.s.file x.s.off := fun e1 => by
      obtain ⟨w1, w2⟩ := hw e hem
      exact hoth e he (kl_inj w1 w2 hf ha e1)
    rw [atKey_del_other hne, has_del_other hne]
    exact ht.hit e hem
  · by_cases hk : f = x.s.file ∧ a = x.s.off
    · rw [hk.1, hk.2]
      exact ⟨atKey_del_same _, has_del_same⟩
    · have hne : kl f a ≠ kl x.s.file x.s.off := fun e1 => hk (kl_inj h1 h2 hf ha e1)
      rw [atKey_del_other hne, has_del_other hne]
      refine ht.miss f a h1 h2 fun e he h4 => ?_
      by_cases hex : e ∈ L.eraseIdx i
      · exact h3 e hex h4
      · obtain ⟨j, hj⟩ := List.getElem?_of_mem he
        by_cases hij : j = i
        · subst hij
          rw [hx] at hj
          obtain rfl := Option.some.inj hj
          exact hk ⟨h4.1.symm, h4.2.symm⟩
        · exact hex (List.mem_eraseIdx_iff_getElem?.2 ⟨j, hij, hj⟩)
  · have := size_del (k := kl x.s.file x.s.off) hT
    rw [(ht.hit x hxm).2, if_pos rfl, ht.size] at this
    rw [List.length_eraseIdx, if_pos hil]
    omega
theorem MapOf.keep (h : MapOf w Z M L) (hk : Keep T w w') (hT : ∀ b, M = some b → ¬ T b) (hZ : ∀ k, Z k → Z' k) : MapOf w' Z' M L := by
  rcases h with h | ⟨b, D, rfl, hs, hm, ht⟩
  · exact .inl h
  · have hlt := hm.lt
    obtain ⟨es, clock, hb, r⟩ := hm
    exact .inr ⟨b, D, rfl, hZ b hs, ⟨es, clock, (hk.block b hlt (hT b rfl)).trans hb, r⟩, ht⟩
theorem Tell.like {D : DataW Unit} {L' : List E} (h : Tell D L) (hl : L'.length = L.length) (h1 : ∀ e, e ∈ L' → ∃ d, d ∈ L ∧ e.blk = d.blk ∧ e.s.file = d.s.file ∧ e.s.off = d.s.off) (h2 : ∀ d, d ∈ L → ∃ e, e ∈ L' ∧ e.s.file = d.s.file ∧ e.s.off = d.s.off) : Tell D L' := by
  refine ⟨fun e he => ?_, fun f a hf ha hno => h.miss f a hf ha fun d hd h3 => ?_, by rw [hl]; exact h.size⟩
  · obtain ⟨d, hd, e1, e2, e3⟩ := h1 e he
    rw [e1, e2, e3]; exact h.hit d hd
  · obtain ⟨e, he, e2, e3⟩ := h2 d hd
    exact hno e he ⟨e2.trans h3.1, e3.trans h3.2⟩
theorem MapOf.like {L' : List E} (h : MapOf w Z M L) (hl : L'.length = L.length) (h1 : ∀ e, e ∈ L' → ∃ d, d ∈ L ∧ e.blk = d.blk ∧ e.s.file = d.s.file ∧ e.s.off = d.s.off) (h2 : ∀ d, d ∈ L → ∃ e, e ∈ L' ∧ e.s.file = d.s.file ∧ e.s.off = d.s.off) : MapOf w Z M L' := by
  rcases h with ⟨hM, h⟩ | ⟨b, D, hM, hs, hm, ht⟩
  · exact .inl ⟨hM, List.eq_nil_of_length_eq_zero (by rw [hl, h]; rfl)⟩
  · exact .inr ⟨b, D, hM, hs, hm, ht.like hl h1 h2⟩
end
/-- The project's cache in block g, all of it in the blocks Z. -/
structure OLay (w : World) (g : Nat) (Z : Nat → Prop) (room hand : Nat) (M : Option Nat) (L : List E) (pv nx : Nat → Nat) : Prop where
  box : Lift.Box w g Ty.cache [vi room, vi (used (L.map E.s) : Nat), .map M, ptO (blkAt L (some 0)), ptO (blkAt L (some hand))]
  mem : Mem w Z L pv nx
  map : MapOf w Z M L
  ring : Ring (L.map E.blk) pv nx
  inv : Inv room (L.map E.s, hand)
  sg : Z g
  lt : ∀ k, Z k → k < w.heap.size
  many : L.length ≤ 1000
  roomy : room ≤ 9223372036854775807
def OC (w : World) (g : Nat) (Z : Nat → Prop) (room : Nat) (r : R) : Prop := ∃ M L pv nx, OLay w g Z room r.2 M L pv nx ∧ L.map E.s = r.1
/-- What becomes of the project's cache that a call writes. -/
def OWent (w : World) (g : Nat) (Z : Nat → Prop) (room : Nat) (r : R) (w' : World) : Prop := ∃ Z', OC w' g Z' room r ∧ Keep Z w w' ∧ ∀ k, Z' k → Z k ∨ w.heap.size ≤ k
section
variable {w w' : World} {g room hand : Nat} {Z : Nat → Prop} {L : List E} {M : Option Nat} {pv nx : Nat → Nat}
theorem OLay.same (h : OLay w g Z room hand M L pv nx) (hk : ∀ k, Z k → w'.heap[k]? = w.heap[k]?) (hs : w.heap.size ≤ w'.heap.size) : OLay w' g Z room hand M L pv nx := by
  refine ⟨h.box.at_block (hk g h.sg), ⟨fun e he => (h.mem.node e he).at_block (hk _ (h.mem.zb e he)), fun e he => ?_, h.mem.zb, h.mem.nd⟩, ?_, h.ring, h.inv, h.sg, fun k h1 => Nat.lt_of_lt_of_le (h.lt k h1) hs, h.many, h.roomy⟩
  · have ho := h.mem.ok e he
    refine ⟨⟨ho.own.1, ?_⟩, ho.sv, ho.v8, ho.few, ho.pins, ho.wff, ho.wfo⟩
    rcases ho.own.2 with h0 | ⟨b, cap, cur, hv, hB, hh, r⟩
    · exact .inl h0
    · exact .inr ⟨b, cap, cur, hv, hB, (hk b (ho.sv b (by rw [hv]; simp [Value.ownBlock]))).trans hh, r⟩
  · rcases h.map with h0 | ⟨b, D, rfl, hz, ⟨es, clock, hb, r⟩, ht⟩
    · exact .inl h0
    · exact .inr ⟨b, D, rfl, hz, ⟨es, clock, (hk b hz).trans hb, r⟩, ht⟩
theorem OC.same {r : R} (h : OC w g Z room r) (hk : ∀ k, Z k → w'.heap[k]? = w.heap[k]?) (hs : w.heap.size ≤ w'.heap.size) : OC w' g Z room r := by
  obtain ⟨M, L, pv, nx, h, e⟩ := h
  exact ⟨M, L, pv, nx, h.same hk hs, e⟩
theorem OC.lt {r : R} (h : OC w g Z room r) (k : Nat) (hk : Z k) : k < w.heap.size := by
  obtain ⟨M, L, pv, nx, h, e⟩ := h
  exact h.lt k hk
theorem OC.inv {r : R} (h : OC w g Z room r) : Inv room r := by
  obtain ⟨M, L, pv, nx, h, e⟩ := h
  have := h.inv
  rw [e] at this
  exact this
theorem OC.below {r : R} (h : OC w g Z room r) (hb : Below w.heap.size w w') : OC w' g Z room r := h.same (fun k hk => hb.block k (h.lt k hk)) hb.size
theorem OC.keep {r : R} {X : Nat → Prop} (h : OC w g Z room r) (hk : Keep X w w') (hX : ∀ k, Z k → ¬ X k) : OC w' g Z room r := h.same (fun k hs => hk.block k (h.lt k hs) (hX k hs)) hk.size
theorem OWent.stay {r : R} (h : OC w g Z room r) (hb : Below w.heap.size w w') : OWent w g Z room r w' := ⟨Z, h.below hb, below_keep hb, fun k hk => .inl hk⟩
theorem OWent.post {r : R} {w1 w2 : World} (h : OWent w g Z room r w1) (hb : Below w1.heap.size w1 w2) : OWent w g Z room r w2 := by
  obtain ⟨S', h1, h2, h3⟩ := h
  exact ⟨S', h1.below hb, h2.trans (T := fun _ => False) (below_keep hb) (fun _ _ h => h.elim), h3⟩
theorem OWent.after {r : R} {w1 w2 : World} {Z1 : Nat → Prop} (hk : Keep Z w w1) (hs : ∀ k, Z1 k → Z k ∨ w.heap.size ≤ k) (h : OWent w1 g Z1 room r w2) : OWent w g Z room r w2 := by
  obtain ⟨S2, h1, h2, h3⟩ := h
  exact ⟨S2, h1, hk.trans h2 (fun k hk h4 => (hs k h4).elim id fun h5 => absurd hk (Nat.not_lt_of_le h5)), fun k h4 => (h3 k h4).elim (hs k) fun h5 => .inr (Nat.le_trans hk.size h5)⟩
theorem OLay.facts (h : OLay w g Z room hand M L pv nx) : w.cell? ⟨g, 0, none⟩ = some (.int .i64 (room : Int)) ∧ w.cell? ⟨g, 1, none⟩ = some (.int .i64 (used (L.map E.s) : Nat)) ∧ w.cell? ⟨g, 2, none⟩ = some (.map M) ∧
    w.cell? ⟨g, 3, none⟩ = some (ptO (blkAt L (some 0))) ∧ w.cell? ⟨g, 4, none⟩ = some (ptO (blkAt L (some hand))) :=
  ⟨h.box.cell 0, h.box.cell 1, h.box.cell 2, h.box.cell 3, h.box.cell 4⟩
theorem OLay.used_le (h : OLay w g Z room hand M L pv nx) : used (L.map E.s) ≤ 100000 := by
  have : ∀ l : List E, (∀ e, e ∈ l → e.s.b.length ≤ 100) → used (l.map E.s) ≤ l.length * 100 := by
    intro l hl
    induction l with
    | nil => simp [used]
    | cons e l ih =>
      have h1 := hl e (by simp)
      have h2 := ih fun x hx => hl x (by simp [hx])
      show e.s.b.length + used (l.map E.s) ≤ (l.length + 1) * 100
      omega
  have h1 := this L fun e he => (h.mem.ok e he).few
  have h2 := h.many
  omega
end
end Go.Proofs.Ytbeohfmikpbkhaa.Ck
