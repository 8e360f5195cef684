/- The project's cache: List. -/
import Derived.Test.YtbeohfmikpbkhaaCoQ
import Derived.Test.YtbeohfmikpbkhaaLast
namespace Go.Proofs.Ytbeohfmikpbkhaa.Ck
set_option linter.unusedVariables false
set_option linter.unusedSimpArgs false
open Go.RowKit Go.Maps Lift Ik
attribute [local go_sem] Oper.semAt_some
theorem make_pairs (n : Nat) (hn : n ≤ 100000) (W : World) : ∃ cs : Array Value, cs.size = n * 2 ∧ Sem.run Try.prog (Instr.makeSlice 62 (.int .i64 0) (.int .i64 (n : Int))) W = .ok (.slice (some ⟨W.heap.size, 0, none⟩) 0 n) (W.alloc (.cells cs 51)) := by
  obtain ⟨i, hi, hz, hs, hb⟩ := info_parts (P := Try.prog) (e := 51) (z := .agg #[.int .i64 0, .int .i64 0]) (size := 2) (bytes := 16) (by kernel_rfl)
  have h := run_make (P := Try.prog) W 62 51 i (.agg #[.int .i64 0, .int .i64 0]) Try.underlying62 hi hz .i64 .i64 0 (n : Int) (by omega) (by omega) (by rw [hb]; omega) (by omega)
  rw [hs, Int.toNat_natCast] at h
  refine ⟨_, ?_, h⟩
  simp [madeCells]
theorem own_pairs {W : World} {n : Nat} {cs : Array Value} (hc : cs.size = n * 2) (hn : n ≤ 100000) : (W.alloc (.cells cs 51)).ownsRow W.heap.size 51 2 (.slice (some ⟨W.heap.size, 0, none⟩) 0 n) 0 [] :=
  ⟨rfl, .inr ⟨W.heap.size, n, cs, rfl, Nat.le_refl _, heap_alloc_new W _, Nat.zero_le _, by unfold maxLen; omega, by first | exact hc | simpa using hc, rfl⟩⟩
/-- One pair onto a slice of the call's own; only the slice's own block is written. -/
theorem append_pair2 {w : World} {base n : Nat} {v : Value} {xs : List Value} (x y : Int) (hown : w.ownsRow base 51 2 v n xs) (hn : n ≤ 100000) (hbase : base ≤ w.heap.size) :
    ∃ A c w', Sem.run Try.prog (Builtin.append_ #[62, 62] 62 #[v, .slice (some ⟨w.heap.size, 0, none⟩) 1 1]) (w.alloc (.cells #[.int .i64 x, .int .i64 y] 51)) = .ok (.slice A (n + 1) c) w' ∧ w'.ownsRow base 51 2 (.slice A (n + 1) c) (n + 1) (xs ++ [.int .i64 x, .int .i64 y]) ∧ Below base w w' ∧ ∀ k, k < w.heap.size → ¬ v.ownBlock = some k → w'.heap[k]? = w.heap[k]? := by
  have hb := Joins.below_alloc1 w (.cells #[.int .i64 x, .int .i64 y] 51)
  have hl : Lies (w.alloc (.cells #[.int .i64 x, .int .i64 y] 51)) (w.heap.size + 1) (some ⟨w.heap.size, 0, none⟩) [.int .i64 x, .int .i64 y] :=
    lies_block (cs := #[.int .i64 x, .int .i64 y]) (heap_alloc_new w _) (Nat.lt_succ_self _)
  obtain ⟨v', w', h1, h2, h3⟩ := run_append_onto (P := Try.prog) (B := w.heap.size + 1) (m := 1) (c := 1) 62 62 51 (.agg #[.int .i64 0, .int .i64 0]) 2 16 Try.underlying62 (by kernel_rfl) rfl (by decide)
    (fun u hu => by simp at hu; rcases hu with rfl | rfl <;> rfl) (own_later hown hb) hl rfl (by unfold maxLen; omega) (by omega) (Nat.le_trans hbase hb.size)
  obtain ⟨A, c, rfl, -, -, -⟩ := own_parts h2
  exact ⟨A, c, w', h1, h2, (hb.mono hbase).trans (h3.below (own_later hown hb) (Nat.le_trans hbase hb.size)), fun k hk hne => (h3.at_block (Nat.lt_of_lt_of_le hk hb.size) hne).trans (hb.block k hk)⟩
theorem own_row {β : Type} (base size n : Nat) (e : TypeId) (v : Value) (f : β → List Value) : Own (fun s W => W.ownsRow base e size v n (f s)) := fun s X Y row hr hg hrow => by
  refine hr.kept hg ?_
  rcases hr.2 with ⟨rfl, _⟩ | ⟨g, cap, cur, rfl, _, hgb, _⟩
  · exact .inl rfl
  · refine .inr fun e' => ?_
    obtain ⟨o, ho, hc⟩ := hrow g (by simpa [Value.ownBlock] using e'.symm)
    rw [hgb] at ho; cases ho; cases hc
section
variable {w w' : World} {g room hand : Nat} {Z : Nat → Prop} {L : List E} {M : Option Nat} {pv nx : Nat → Nat}
set_option maxRecDepth 100000 in
set_option maxHeartbeats 3200000 in
theorem list_any {r : R} (h : OC w g Z room r) :
    Calls Try.prog (31) #[pt g] w fun e w' => ∃ A c, e = .returned (.slice A r.1.length c) ∧ w'.ownsRow w.heap.size 51 2 (.slice A r.1.length c) r.1.length (pairs (ids r.1)) ∧ Below w.heap.size w w' := by
  obtain ⟨M, L, pv, nx, hl, he⟩ := h
  have hmany := hl.many
  have HE := Lib.hid he
  obtain ⟨-, -, f2, -, -⟩ := hl.facts
  have hlr := len_run (ty := 3) hl.map
  have HL := Lib.hid hl
  obtain ⟨cs, hcs, hmk⟩ := make_pairs L.length (by omega) w
  have ho0 := own_later (own_pairs (W := w) hcs (by omega)) (Joins.below_alloc1 _ (.cells #[.slice (some ⟨w.heap.size, 0, none⟩) 0 L.length] 62))
  have hx0 := Boxed.new (w.alloc (.cells cs 51)) 62 (.slice (some ⟨w.heap.size, 0, none⟩) 0 L.length)
  have hb0 : Below w.heap.size w ((w.alloc (.cells cs 51)).alloc (.cells #[.slice (some ⟨w.heap.size, 0, none⟩) 0 L.length] 62)) := ((Below.refl _ w).alloc (Nat.le_refl _) _).alloc (by simp) _
  rw [World.size_alloc] at hx0
  have HX0 := Lib.hid hx0
  have HO0 := Lib.hid ho0
  have HB0 := Lib.hid hb0
  clear hl he ho0 hx0 hb0 hcs
  refine (callsIn_wide (n := 5)).1 ?_
  refine callsIn_of_wp_marks (Try.func31) rfl trivial ?_ rfl
  simp only [(Try.ntmps31), List.size_toArray, List.length_cons, List.length_nil, Nat.reduceAdd, Nat.reduceSub, Array.replicate_succ, Array.replicate_zero, List.push_toArray, List.append_toArray, List.nil_append, List.cons_append]
  gi_wp2_with fail
  generalize hW0 : (w.alloc (.cells cs 51)).alloc (.cells #[.slice (some ⟨w.heap.size, 0, none⟩) 0 L.length] 62) = W0 at HX0 HO0 HB0 ⊢
  have hsz : W0.heap.size = w.heap.size + 1 + 1 := by rw [← hW0, World.size_alloc, World.size_alloc]
  clear hW0 hmk hlr f2
  refine range_bound rfl (by omega) (gf := 29) (rcv := #[pt g]) rfl trivial (enters_of (Try.func29) (by kernel_rfl) rfl) (fun x : Nat => pt x) rfl (L.map E.blk)
    (fun p V => ∃ A c, Boxed V (w.heap.size + 1) 62 (.slice A p.length c) ∧ V.ownsRow w.heap.size 51 2 (.slice A p.length c) p.length (pairs ((ids (L.map E.s)).take p.length)) ∧ Below w.heap.size w V)
    (fun p X Y row ⟨A, c, h1, h2, h3⟩ hg hr => ⟨A, c, boxed_own _ _ (fun _ : Unit => _) () X Y row h1 hg (fun r e => (hr r e).2), own_row _ _ _ _ _ (fun _ : Unit => _) () X Y row h2 hg (fun r e => (hr r e).2), ownFrom_below (β := Unit) (Nat.le_refl _) (by omega) () X Y row h3 hg hr⟩)
    (fun l J W hJ hY h0 => HL.out.seq 4 (by omega) (fun p V ⟨_, _, _, _, h⟩ => h) l J W hJ hY h0)
    ⟨some ⟨w.heap.size, 0, none⟩, L.length, HX0.out, HO0.out, HB0.out⟩
    (fun x => { tmps := #[pt g, undef, Value.slice none 0 0, Value.pointer (some { block := w.heap.size + 1, off := 0 }), pt x, pt g, Value.pointer (some { block := g, off := 0 }), Value.pointer (some { block := g, off := 2 }), Value.map M, Value.int .i64 (L.length : Int), Value.slice (some { block := w.heap.size, off := 0 }) 0 L.length, pt g, Value.func (Fn.func 29) #[pt g] #[], pt x, undef, undef, undef, undef, undef, undef, undef, undef], defers := [] }) ?assign ?body ?done
  case assign =>
    intro l x W K hK
    gi_wp2
    exact hK
  case body =>
    rintro l p x W ⟨A, c, hbx, ho, hB⟩ hpx
    obtain ⟨e, he, rfl⟩ := prefix_slot hpx
    have hl := HL.out.same (fun k hk => hB.block k (HL.out.lt k hk)) hB.size
    have hpl : p.length ≤ 1000 := by have := (List.getElem?_eq_some_iff.1 he).1; omega
    obtain ⟨A2, c2, W2, hr2, ho2, hb2, hk2⟩ := append_pair2 e.s.file e.s.off (show W.drew.ownsRow w.heap.size 51 2 (.slice A p.length c) p.length (pairs ((ids (L.map E.s)).take p.length)) from ho.drew) (by omega) (show w.heap.size ≤ W.drew.heap.size from hB.size)
    have hlt : e.blk < w.heap.size := HL.out.lt _ (HL.out.mem.zb e (List.mem_of_getElem? he))
    obtain ⟨a0, a1, -, -, -, -, -, -⟩ := hl.mem.facts (List.mem_of_getElem? he)
    have hne : ¬ (Value.slice A p.length c).ownBlock = some (w.heap.size + 1) := fun h1 => by
      rcases ho.2 with ⟨h0, _⟩ | ⟨g', cap, cur, hv, _, hh, _⟩
      · rw [h0] at h1; simp [Value.ownBlock] at h1
      · rw [hv] at h1
        simp [Value.ownBlock] at h1
        rw [h1] at hh
        have h2 := hbx
        unfold Boxed at h2
        rw [h2] at hh
        injection hh with hh
        injection hh with _ hh _
        exact absurd hh (by decide)
    have hblt : w.heap.size + 1 < W.drew.heap.size := (Array.getElem?_eq_some_iff.1 (show W.heap[w.heap.size + 1]? = _ from hbx)).1
    have HS0 : Hid (Boxed W.drew (w.heap.size + 1) 62 (.slice A p.length c) ∧ Below w.heap.size W W.drew) := Lib.hid ⟨hbx, (Below.refl _ _).drew⟩
    have HS1 : Hid (Boxed (W.drew.alloc (.cells #[.int .i64 e.s.file, .int .i64 e.s.off] 51)) (w.heap.size + 1) 62 (.slice A p.length c) ∧ Below w.heap.size W (W.drew.alloc (.cells #[.int .i64 e.s.file, .int .i64 e.s.off] 51))) := Lib.hid ⟨HS0.out.1.alloc _, HS0.out.2.alloc hB.size _⟩
    have HS2 : Hid (Boxed W2 (w.heap.size + 1) 62 (.slice A p.length c) ∧ Below w.heap.size W W2) := Lib.hid ⟨(hk2 _ hblt hne).trans hbx, HS0.out.2.trans hb2⟩
    have HR2 := Lib.hid hr2
    have hids : (ids (L.map E.s)).take (p.length + 1) = (ids (L.map E.s)).take p.length ++ [(e.s.file, e.s.off)] := by
      rw [List.take_add_one]
      congr 1
      unfold ids
      rw [List.getElem?_map, List.getElem?_map, he]; rfl
    have hbx2 := HS2.out.1
    have hne2 : ¬ (Value.slice A2 (p.length + 1) c2).ownBlock = some (w.heap.size + 1) := fun h1 => by
      rcases ho2.2 with ⟨h0, _⟩ | ⟨g', cap, cur, hv, _, hh, _⟩
      · rw [h0] at h1; simp [Value.ownBlock] at h1
      · rw [hv] at h1
        simp [Value.ownBlock] at h1
        rw [h1] at hh
        unfold Boxed at hbx2
        rw [hbx2] at hh
        injection hh with hh
        injection hh with _ hh _
        exact absurd hh (by decide)
    have HF : Hid (goesOn W0.heap.size (fun (p : List Nat) V => ∃ A c, Boxed V (w.heap.size + 1) 62 (.slice A p.length c) ∧ V.ownsRow w.heap.size 51 2 (.slice A p.length c) p.length (pairs ((ids (L.map E.s)).take p.length)) ∧ Below w.heap.size w V) (p ++ [e.blk]) W .normal ⟨#[], []⟩ (W2.setCell ⟨w.heap.size + 1, 0, none⟩ (.slice A2 (p.length + 1) c2))) := Lib.hid (by
      refine ⟨rfl, ?_, A2, c2, ?_⟩
      · refine ⟨by have := HS2.out.2.size; simpa [World.setCell] using this, fun k o hk h0 ho1 => ?_⟩
        have hkl : k < W.heap.size := (Array.getElem?_eq_some_iff.1 h0).1
        have hnk : ¬ (Value.slice A p.length c).ownBlock = some k := fun h1 => by
          rcases ho.2 with ⟨h2, _⟩ | ⟨g', cap, cur, hv, _, hh, _⟩
          · rw [h2] at h1; simp [Value.ownBlock] at h1
          · rw [hv] at h1
            simp [Value.ownBlock] at h1
            rw [h1] at hh
            rw [h0] at hh
            obtain rfl := Option.some.inj hh
            cases ho1
        have hkb : k ≠ w.heap.size + 1 := by omega
        exact (Below.heap_setCell _ _ _ _ hkb).trans ((hk2 k hkl hnk).trans h0)
      · rw [List.length_append, List.length_singleton, hids, pairs_append]
        refine ⟨hbx2.set _, ?_, (hB.trans HS2.out.2).setCell (p := ⟨w.heap.size + 1, 0, none⟩) (Nat.le_succ _) _⟩
        exact own_kept ho2 (S := (· = w.heap.size + 1)) ((Keep.refl (· = w.heap.size + 1) W2).setCell (p := ⟨w.heap.size + 1, 0, none⟩) (.inr rfl) _) fun k hk e1 => hne2 (by rw [← e1]; exact hk))
    have HB := Lib.hid hB
    clear hbx ho hB he hl hr2 ho2 hb2 hk2 hne hblt hids hbx2 hne2 hpx
    gi_wp2_with fail
    refine region_round (by kernel_rfl) (by kernel_rfl) (fun ⟨_, _, h⟩ => by cases h.1) (wpAny_of_last (S := fun V => Hid (Boxed V (w.heap.size + 1) 62 (.slice A p.length c) ∧ Below w.heap.size W V)) (x := 7) _ _ _ _ ?_)
    have hS := HS0
    refine wpAnyX_take (i := 0) (v := ?_) rfl (by kernel_rfl) (by kernel_rfl) (by kernel_rfl) (by kernel_rfl) (fun _ _ _ h => h) (Or.inl ⟨by rfl, ?_⟩) hS ?_
    rotate_left
    · intro w hw
      have b0 := hw.out.1.cell
      go_simp
      try with_reducible rfl
    try simp only [Act.put, List.getElem_toArray, List.getElem_cons_succ, List.getElem_cons_zero, List.setIfInBounds_toArray, List.set_cons_zero, List.set_cons_succ]
    refine wpAnyX_take (i := 1) (v := ?_) rfl (by kernel_rfl) (by kernel_rfl) (by kernel_rfl) (by kernel_rfl) (fun _ _ _ h => h) (Or.inl ⟨by rfl, ?_⟩) hS ?_
    rotate_left
    · intro w hw
      go_simp
      try with_reducible rfl
    try simp only [Act.put, List.getElem_toArray, List.getElem_cons_succ, List.getElem_cons_zero, List.setIfInBounds_toArray, List.set_cons_zero, List.set_cons_succ]
    refine wpAnyX_take (i := 2) (v := ?_) rfl (by kernel_rfl) (by kernel_rfl) (by kernel_rfl) (by kernel_rfl) (fun _ _ _ h => h) (Or.inl ⟨by rfl, ?_⟩) hS ?_
    rotate_left
    · intro w hw
      go_simp
      try with_reducible rfl
    try simp only [Act.put, List.getElem_toArray, List.getElem_cons_succ, List.getElem_cons_zero, List.setIfInBounds_toArray, List.set_cons_zero, List.set_cons_succ]
    refine wpAnyX_take (i := 3) (v := ?_) rfl (by kernel_rfl) (by kernel_rfl) (by kernel_rfl) (by kernel_rfl) (fun _ _ _ h => h) (Or.inl ⟨by rfl, ?_⟩) hS ?_
    rotate_left
    · intro w hw
      go_simp
      try with_reducible rfl
    try simp only [Act.put, List.getElem_toArray, List.getElem_cons_succ, List.getElem_cons_zero, List.setIfInBounds_toArray, List.set_cons_zero, List.set_cons_succ]
    refine wpAnyX_take (i := 4) (v := ?_) rfl (by kernel_rfl) (by kernel_rfl) (by kernel_rfl) (by kernel_rfl) (fun _ _ _ h => h) (Or.inl ⟨by rfl, ?_⟩) hS ?_
    rotate_left
    · intro w hw
      have a3 := (hw.out.2.cell (p := ⟨e.blk, 0, none⟩) hlt).trans a0
      have a4 := (hw.out.2.cell (p := ⟨e.blk, 1, none⟩) hlt).trans a1
      have ld := load_pair (p := ⟨e.blk, 0, none⟩) a3 a4
      go_simp
      try with_reducible rfl
    try simp only [Act.put, List.getElem_toArray, List.getElem_cons_succ, List.getElem_cons_zero, List.setIfInBounds_toArray, List.set_cons_zero, List.set_cons_succ]
    refine wpAnyX_ready (rs := [5]) (by kernel_rfl) (by simp) ?_
    refine (AllReadyX.cons rfl (fun K hK => ?_) AllReadyX.nil)
    go_simp
    refine hK.out _ _ HS1 (fun hS => ?_)
    clear hK K
    try simp only [Act.put, List.getElem_toArray, List.getElem_cons_succ, List.getElem_cons_zero, List.setIfInBounds_toArray, List.set_cons_zero, List.set_cons_succ]
    refine wpAnyX_ready (rs := [6]) (by kernel_rfl) (by simp) ?_
    refine (AllReadyX.cons rfl (fun K hK => ?_) AllReadyX.nil)
    refine held_append rfl _ _ 62 rfl rfl rfl HR2.out ?_
    refine hK.out _ _ HS2 (fun hS => ?_)
    clear hK K
    try simp only [Act.put, List.getElem_toArray, List.getElem_cons_succ, List.getElem_cons_zero, List.setIfInBounds_toArray, List.set_cons_zero, List.set_cons_succ]
    refine wpAnyX_ready (rs := [7]) (by kernel_rfl) (by simp) ?_
    refine AllReadyX.last rfl (fun K hK => ?_)
    have p0 := HS2.out.1.cell
    have z0 := HS2.out.1.frozen
    go_simp
    refine hK.out _ _ ?_
    clear hK K p0 z0
    try simp only [Act.put, List.getElem_toArray, List.getElem_cons_succ, List.getElem_cons_zero, List.setIfInBounds_toArray, List.set_cons_zero, List.set_cons_succ]
    refine wpAnyX_done (by kernel_rfl) ?_ _
    exact HF.out
  case done =>
    rintro D W hD ⟨A, c, hbx, ho, hB⟩ hK
    have hlr : (L.map E.blk).length = r.1.length := by rw [← HE.out, List.length_map, List.length_map]
    have htk : (ids (L.map E.s)).take (L.map E.blk).length = ids r.1 := by
      rw [← HE.out, List.length_map]
      refine List.take_of_length_le ?_
      unfold ids
      rw [List.length_map, List.length_map]; exact Nat.le_refl _
    rw [htk, hlr] at ho
    rw [hlr] at hbx
    have cb := hbx.cell
    have HK := Lib.hid hK
    have HO := Lib.hid ho
    clear hbx hK ho hlr htk
    gi_wp2_with fail
    refine ⟨by simp, .inl ⟨_, _, rfl, run_takeDeferred HK.out, ?_⟩⟩
    refine ⟨.slice A r.1.length c, ?_, A, c, rfl, ownsRow_putObj HO.out _ HK.out rfl, hB.trans (belowK_b (w := w) (Nat.le_refl _) W D _ _ (by omega) HK.out rfl rfl)⟩
    simp [results, Try.f31, go_sem]
end
end Go.Proofs.Ytbeohfmikpbkhaa.Ck
