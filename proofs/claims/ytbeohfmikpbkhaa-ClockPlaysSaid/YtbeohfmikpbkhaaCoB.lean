/- The project's cache: Pins. -/
import Derived.Test.YtbeohfmikpbkhaaCoA
namespace Go.Proofs.Ytbeohfmikpbkhaa.Ck
set_option linter.unusedVariables false
set_option linter.unusedSimpArgs false
open Go.RowKit Go.Maps Lift Ik
attribute [local go_sem] Oper.semAt_some
theorem prefix_at {α : Type} {p xs : List α} {x : α} (h : p ++ [x] <+: xs) : xs[p.length]? = some x := by
  obtain ⟨t, rfl⟩ := h
  rw [List.append_assoc, List.getElem?_append_right (Nat.le_refl _), Nat.sub_self]; rfl
theorem prefix_slot {L : List E} {p : List Nat} {x : Nat} (h : p ++ [x] <+: L.map E.blk) : ∃ e, L[p.length]? = some e ∧ e.blk = x := by
  have := prefix_at h
  rw [List.getElem?_map] at this
  cases hq : L[p.length]? with
  | none => rw [hq] at this; cases this
  | some e => rw [hq] at this; exact ⟨e, rfl, by simpa using this⟩
section
variable {w w' : World} {g room hand : Nat} {Z : Nat → Prop} {L : List E} {M : Option Nat} {pv nx : Nat → Nat}
theorem OLay.good (h : OLay w g Z room hand M L pv nx) (j : Nat) : Good (L.map E.blk) j w := by
  intro x hx
  obtain ⟨e, he, rfl⟩ : ∃ e, L[j]? = some e ∧ e.blk = x := by
    rw [List.getElem?_map] at hx
    cases hq : L[j]? with
    | none => rw [hq] at hx; cases hx
    | some e => rw [hq] at hx; exact ⟨e, rfl, by simpa using hx⟩
  refine ⟨some ⟨nx e.blk, 0, none⟩, (h.mem.facts (List.mem_of_getElem? he)).2.2.2.2.2.2.1, fun y hy => ?_⟩
  have hn := h.ring.next hx
  have hl := at_lt hy
  have : nxi (L.map E.blk).length j = j + 1 := by unfold nxi; rw [if_neg (by omega)]
  rw [this, hy] at hn
  rw [Option.some.inj hn]
/-- The iterator, where all calls keep the cache as it is. -/
theorem OLay.seq (n : Nat) (hn : 1 ≤ n) (h : OLay w g Z room hand M L pv nx) {I : List Nat → World → Prop} (hI : ∀ p V, I p V → Below w.heap.size w V) (l : Nat) (J : List Nat → World → Prop) (W : World) (hJ : ∀ p V, J p V → I p V)
    (hY : ∀ p x V, J p V → p ++ [x] <+: L.map E.blk → YieldAt Fence.wide (n - 1) Try.prog l #[pt x] V fun e V' => e = .returned (.bool true) ∧ J (p ++ [x]) V') (h0 : J [] W) :
    CallsIn Fence.wide n Try.prog (29) (#[pt g] ++ #[.func (.yield l) #[] #[]]) W fun e V' => (∃ v, e = .returned v) ∧ J (L.map E.blk) V' := by
  have hat : ∀ V, Below w.heap.size w V → OLay V g Z room hand M L pv nx := fun V hb => h.same (fun k hk => hb.block k (h.lt k hk)) hb.size
  have hW := hat W (hI _ _ (hJ _ _ h0))
  obtain ⟨f0, f1, f2, f3, f4⟩ := hW.facts
  have hlen := len_run (ty := 3) hW.map
  refine all_in n hn (L.map E.blk) g l M J W (by rw [List.length_map]; exact h.many) (fun p V hp => (hat V (hI _ _ (hJ _ _ hp))).good _) hY ?_ f2 (by rw [List.length_map]; exact hlen) h0
  rw [f3, List.getElem?_map]
  rfl
theorem sumTakeE (f : E → Nat) {L : List E} {j : Nat} {d : E} (h : L[j]? = some d) : ((L.take (j + 1)).map f).sum = ((L.take j).map f).sum + f d := by
  rw [List.take_add_one, h]; simp
theorem sumLeE (f : E → Nat) (m : Nat) {L : List E} (h : ∀ d, d ∈ L → f d ≤ m) (j : Nat) : ((L.take j).map f).sum ≤ L.length * m := by
  induction L generalizing j with
  | nil => simp
  | cons d L ih =>
    cases j with
    | zero => simp
    | succ j =>
      have h1 := ih (fun e he => h e (List.mem_cons_of_mem _ he)) j
      have h2 := h d (List.mem_cons_self ..)
      simp only [List.take_succ_cons, List.map_cons, List.sum_cons, List.length_cons]
      rw [Nat.add_mul]; omega
set_option maxRecDepth 100000 in
set_option maxHeartbeats 1600000 in
theorem pins_any {r : R} (h : OC w g Z room r) : Calls Try.prog (20) #[pt g] w fun e w' => e = .returned (vi (pinned r.1 : Nat)) ∧ Below w.heap.size w w' := by
  obtain ⟨M, L, pv, nx, hl, he⟩ := h
  have HE : Hid (pinned r.1 = (L.map fun d : E => d.s.pins).sum) := Lib.hid (by rw [← he]; unfold pinned; rw [List.map_map]; rfl)
  have HS : Hid (∀ i, ((L.take i).map fun d : E => d.s.pins).sum ≤ 1000000) := Lib.hid fun i => Nat.le_trans (sumLeE _ 1000 (fun d hd => (hl.mem.ok d hd).pins) i) (by have := hl.many; omega)
  have hgs := hl.box.lt
  have HL := Lib.hid hl
  clear hl he
  refine (callsIn_wide (n := 5)).1 ?_
  refine callsIn_of_wp_marks (Try.func20) rfl trivial ?_ rfl
  simp only [(Try.ntmps20), List.size_toArray, List.length_cons, List.length_nil, Nat.reduceAdd, Nat.reduceSub, Array.replicate_succ, Array.replicate_zero, List.push_toArray, List.append_toArray, List.nil_append, List.cons_append]
  gi_wp2_with fail
  have hb0 := Joins.below_alloc1 w (.cells #[.int .i64 0] 3)
  have hx0 := Boxed.new w 3 (.int .i64 0)
  generalize hW0 : w.alloc (.cells #[.int .i64 0] 3) = W0 at hb0 hx0 ⊢
  have hsz : W0.heap.size = w.heap.size + 1 := by rw [← hW0, World.size_alloc]
  clear hW0
  refine range_bound rfl (by omega) (gf := 29) (rcv := #[pt g]) rfl trivial (enters_of (Try.func29) (by kernel_rfl) rfl) (fun x : Nat => pt x) rfl (L.map E.blk)
    (fun p V => Boxed V w.heap.size 3 (.int .i64 ((((L.take p.length).map fun d : E => d.s.pins).sum : Nat) : Int)) ∧ Below w.heap.size w V)
    (OwnFrom.and (Own.from (boxed_own _ _ fun p : List Nat => _) _) (ownFrom_below (Nat.le_refl _) (by omega)))
    (fun l J W hJ hY h0 => HL.out.seq 4 (by omega) (fun p V h => h.2) l J W hJ hY h0)
    ⟨by simpa using hx0, hb0⟩
    (fun x => { tmps := #[pt g, undef, Value.int IntKind.i64 0, Value.pointer (some { block := w.heap.size, off := 0 }), pt x, pt g, Value.func (Fn.func 29) #[pt g] #[], pt x, undef, undef, undef, undef, undef, undef, undef], defers := [] }) ?assign ?body ?done
  case assign =>
    intro l x W K hK
    gi_wp2
    exact hK
  case body =>
    rintro l p x W ⟨hbx, hB⟩ hpx
    obtain ⟨e, he, rfl⟩ := prefix_slot hpx
    have hl := HL.out.same (fun k hk => hB.block k (HL.out.lt k hk)) hB.size
    obtain ⟨-, -, -, c3, -⟩ := hl.mem.facts (List.mem_of_getElem? he)
    have hpin := (hl.mem.ok e (List.mem_of_getElem? he)).pins
    have hs1 := HS.out p.length
    have cb := hbx.cell
    have fb := hbx.frozen
    have HN := Lib.hid (sumTakeE (fun d => d.s.pins) he)
    generalize ((L.take p.length).map fun d : E => d.s.pins).sum = T at *
    have HBX := Lib.hid hbx
    clear hbx hl he hpx
    have hmo : (Try.prog).follows .mixedOrders = true := by kernel_rfl
    gi_wp2_with fail
    have hwr : IntKind.i64.wrap ((T : Int) + (e.s.pins : Int)) = ((T + e.s.pins : Nat) : Int) := by rw [IntKind.wrap_i64]; omega
    have HF : Hid (goesOn W0.heap.size (fun (p : List Nat) V => Boxed V w.heap.size 3 (.int .i64 ((((L.take p.length).map fun d : E => d.s.pins).sum : Nat) : Int)) ∧ Below w.heap.size w V) (p ++ [e.blk]) W .normal ⟨#[], []⟩ (W.setCell ⟨w.heap.size, 0, none⟩ (.int .i64 (IntKind.i64.wrap ((T : Int) + (e.s.pins : Int))))).drew) := Lib.hid (by
      refine ⟨rfl, ((KeepsOthers.setCell W ⟨w.heap.size, 0, none⟩ _).trans (KeepsOthers.drew _)).from _, ?_, (hB.setCell (p := ⟨w.heap.size, 0, none⟩) (Nat.le_refl _) _).drew⟩
      rw [hwr, List.length_append, List.length_singleton, HN.out]
      exact HBX.out.set _)
    clear hwr
    gi_region_with_o (fail)
    all_goals exact HF.out
  case done =>
    rintro D W hD ⟨hbx, hB⟩ hK
    have cb := hbx.cell
    have HK := Lib.hid hK
    have HT : Hid ((((L.take (L.map E.blk).length).map fun d : E => d.s.pins).sum : Nat) = pinned r.1) := Lib.hid (by rw [List.length_map, List.take_length, HE.out])
    rw [HT.out] at cb
    clear hbx hK
    gi_wp2_with fail
    refine ⟨by simp, .inl ⟨_, _, rfl, run_takeDeferred HK.out, ?_⟩⟩
    refine ⟨.int .i64 ((pinned r.1 : Nat) : Int), ?_, rfl, hB.trans (belowK_b (w := w) (Nat.le_refl _) W D _ _ (by omega) HK.out rfl rfl)⟩
    simp [results, Try.f20, go_sem]
end
end Go.Proofs.Ytbeohfmikpbkhaa.Ck
