/- The project's cache: Drop. -/
import Derived.Test.YtbeohfmikpbkhaaCoC
namespace Go.Proofs.Ytbeohfmikpbkhaa.Ck
set_option linter.unusedVariables false
set_option linter.unusedSimpArgs false
open Go.RowKit Go.Maps Lift Ik
attribute [local go_sem] Oper.semAt_some
/-- Between two rounds: p slots were gone through, the first j of those that are left among them. -/
structure Dr (w : World) (g : Nat) (Z : Nat → Prop) (room : Nat) (M : Option Nat) (L : List E) (r : R) (f : Int) (k : Nat) (V : World) (h j t : Nat) (Lq : List E) (pv nx : Nat → Nat) : Prop where
  lay : OLay V g Z room h M Lq pv nx
  jk : j ≤ k
  jl : j ≤ Lq.length
  rest : Lq.drop j = L.drop k
  told : (dropC r f).1 = (dropC' (Lq.map E.s, h) f j).1 ∧ (dropC r f).2 = t + (dropC' (Lq.map E.s, h) f j).2
  few : t + Lq.length = L.length
  keep : Keep Z w V
  cbox : Boxed V w.heap.size 24 (pt g)
  fbox : Boxed V (w.heap.size + 1) 3 (.int .i64 f)
  tbox : Boxed V (w.heap.size + 1 + 1) 3 (.int .i64 (t : Int))
def DrI (w : World) (g : Nat) (Z : Nat → Prop) (room : Nat) (M : Option Nat) (L : List E) (r : R) (f : Int) (p : List Nat) (V : World) : Prop :=
  ∃ (h j t : Nat) (Lq : List E) (pv nx : Nat → Nat), Dr w g Z room M L r f p.length V h j t Lq pv nx
section
variable {w w' : World} {g room hand : Nat} {Z : Nat → Prop} {L Lq : List E} {M : Option Nat} {pv nx : Nat → Nat} {r : R} {f : Int}
theorem DrI.own {B : Nat} (hZ : ∀ k, Z k → k < B) (hB : w.heap.size ≤ B) : OwnFrom B (DrI w g Z room M L r f) := by
  rintro p X Y row ⟨h, j, t, Lq, pv, nx, d⟩ hg hr
  have hst : ∀ k, k < X.heap.size → k < B → Y.heap[k]? = X.heap[k]? := fun k h1 h2 => hg.block k h1 fun e => by have := (hr k e.symm).1; omega
  refine ⟨h, j, t, Lq, pv, nx, d.lay.same (fun k hk => hst k (d.lay.lt k hk) (hZ k hk)) hg.size, d.jk, d.jl, d.rest, d.told, d.few, d.keep.grown hg fun k e hk => ?_, ?_, ?_, ?_⟩
  · exact absurd hk (Nat.not_lt_of_le (Nat.le_trans hB (hr k e).1))
  · exact boxed_own _ _ (fun _ : Unit => _) () X Y row d.cbox hg (fun r e => (hr r e).2)
  · exact boxed_own _ _ (fun _ : Unit => _) () X Y row d.fbox hg (fun r e => (hr r e).2)
  · exact boxed_own _ _ (fun _ : Unit => _) () X Y row d.tbox hg (fun r e => (hr r e).2)
theorem drop_at {j k : Nat} (h : Lq.drop j = L.drop k) (i : Nat) : Lq[j + i]? = L[k + i]? := by
  rw [← List.getElem?_drop, ← List.getElem?_drop, h]
/-- The iterator, where calls take out what it has passed. -/
theorem seq_drop (n : Nat) (hn : 1 ≤ n) (hm : L.length ≤ 1000) (l : Nat) (J : List Nat → World → Prop) (W : World) (hJ : ∀ p V, J p V → DrI w g Z room M L r f p V)
    (hY : ∀ p x V, J p V → p ++ [x] <+: L.map E.blk → YieldAt Fence.wide (n - 1) Try.prog l #[pt x] V fun e V' => e = .returned (.bool true) ∧ J (p ++ [x]) V') (h0 : J [] W) :
    CallsIn Fence.wide n Try.prog (29) (#[pt g] ++ #[.func (.yield l) #[] #[]]) W fun e V' => (∃ v, e = .returned v) ∧ J (L.map E.blk) V' := by
  obtain ⟨h, j, t, Lq, pv, nx, d⟩ := hJ _ _ h0
  obtain rfl : j = 0 := by have := d.jk; simpa using this
  have hLq : Lq = L := by have := d.rest; simpa using this
  subst hLq
  obtain ⟨f0, f1, f2, f3, f4⟩ := d.lay.facts
  have hlen := len_run (ty := 3) d.lay.map
  refine all_in n hn (Lq.map E.blk) g l M J W (by rw [List.length_map]; exact hm) (fun p V hp x hx => ?_) hY ?_ f2 (by rw [List.length_map]; exact hlen) h0
  · obtain ⟨h1, j1, t1, L1, pv1, nx1, d1⟩ := hJ _ _ hp
    have hd := drop_at d1.rest
    have hx1 : (L1.map E.blk)[j1]? = some x := by
      have := hd 0
      rw [Nat.add_zero, Nat.add_zero] at this
      rw [List.getElem?_map, this, ← List.getElem?_map]; exact hx
    obtain ⟨v, hv, hn⟩ := d1.lay.good j1 x hx1
    refine ⟨v, hv, fun y hy => hn y ?_⟩
    rw [List.getElem?_map, hd 1, ← List.getElem?_map]; exact hy
  · rw [f3, List.getElem?_map]; rfl
set_option maxRecDepth 100000 in
set_option maxHeartbeats 3200000 in
theorem drop_any {r : R} (f : Int) (h : OC w g Z room r) :
    Calls Try.prog (16) #[pt g, .int .i64 f] w fun e w' => e = .returned (vi ((dropC r f).2 : Nat)) ∧ OWent w g Z room (dropC r f).1 w' := by
  obtain ⟨M, L, pv, nx, hl, he⟩ := h
  have hmany := hl.many
  have hlt := hl.lt
  have hr : r = (L.map E.s, r.2) := by rw [he]
  have HE := Lib.hid he
  have HR := Lib.hid hr
  have hb0 : Below w.heap.size w (((w.alloc (.cells #[pt g] 24)).alloc (.cells #[.int .i64 f] 3)).alloc (.cells #[.int .i64 0] 3)) := (((Below.refl _ w).alloc (Nat.le_refl _) _).alloc (by simp) _).alloc (by simp; omega) _
  have hx0 := ((Boxed.new w 24 (pt g)).alloc (.cells #[.int .i64 f] 3)).alloc (.cells #[.int .i64 0] 3)
  have hx1 := (Boxed.new (w.alloc (.cells #[pt g] 24)) 3 (.int .i64 f)).alloc (.cells #[.int .i64 0] 3)
  have hx2 := Boxed.new ((w.alloc (.cells #[pt g] 24)).alloc (.cells #[.int .i64 f] 3)) 3 (.int .i64 0)
  simp only [World.size_alloc] at hx1 hx2
  have HD0 : Hid (DrI w g Z room M L r f [] (((w.alloc (.cells #[pt g] 24)).alloc (.cells #[.int .i64 f] 3)).alloc (.cells #[.int .i64 0] 3))) := Lib.hid
    ⟨r.2, 0, 0, L, pv, nx, hl.same (fun k hk => hb0.block k (hlt k hk)) hb0.size, Nat.le_refl _, Nat.zero_le _, rfl, by rw [← hr, dropC_zero]; exact ⟨rfl, by omega⟩, by omega, below_keep hb0, hx0, hx1, hx2⟩
  have hc0 := hx0.cell
  have HB0 := Lib.hid hb0
  have HLT := Lib.hid hlt
  clear hl he hr hb0 hx0 hx1 hx2 hlt
  refine (callsIn_wide (n := 6)).1 ?_
  refine callsIn_of_wp_marks (Try.func16) rfl trivial ?_ rfl
  simp only [(Try.ntmps16), List.size_toArray, List.length_cons, List.length_nil, Nat.reduceAdd, Nat.reduceSub, Array.replicate_succ, Array.replicate_zero, List.push_toArray, List.append_toArray, List.nil_append, List.cons_append]
  gi_wp2_with fail
  generalize hW0 : ((w.alloc (.cells #[pt g] 24)).alloc (.cells #[.int .i64 f] 3)).alloc (.cells #[.int .i64 0] 3) = W0 at HD0 HB0 ⊢
  have hsz : W0.heap.size = w.heap.size + 1 + 1 + 1 := by rw [← hW0, World.size_alloc, World.size_alloc, World.size_alloc]
  clear hW0 hc0
  refine range_bound rfl (by omega) (gf := 29) (rcv := #[pt g]) rfl trivial (enters_of (Try.func29) (by kernel_rfl) rfl) (fun x : Nat => pt x) rfl (L.map E.blk) (DrI w g Z room M L r f)
    (DrI.own (fun k hk => by have := HLT.out k hk; omega) (by omega)) (fun l J W hJ hY h0 => seq_drop 5 (by omega) hmany l J W hJ hY h0) HD0.out
    (fun x => { tmps := #[pt g, Value.int IntKind.i64 f, Value.pointer (some { block := w.heap.size, off := 0 }), Value.pointer (some { block := w.heap.size + 1, off := 0 }), Value.int IntKind.i64 0,
          Value.pointer (some { block := w.heap.size + 1 + 1, off := 0 }), pt x, pt g, Value.func (Fn.func 29) #[pt g] #[], pt x, undef, undef, undef, undef, undef, undef, undef, undef,
          undef, undef, undef, undef, undef, undef, undef, undef, undef, undef, undef, undef], defers := [] }) ?assign ?body ?done
  case assign =>
    intro l x W K hK
    gi_wp2
    exact hK
  case body =>
    rintro l p x W ⟨h, j, t, Lq, pvq, nxq, d⟩ hpx
    obtain ⟨e, heL, rfl⟩ := prefix_slot hpx
    have he : Lq[j]? = some e := by have := drop_at d.rest 0; rw [Nat.add_zero, Nat.add_zero] at this; rw [this]; exact heL
    have hem := List.mem_of_getElem? he
    obtain ⟨c0, -, -, c3, -, -, -, -⟩ := d.lay.mem.facts hem
    have hle : e.blk < W.heap.size := d.lay.lt _ (d.lay.mem.zb e hem)
    have hpin := (d.lay.mem.ok e hem).pins
    have cb := d.cbox.cell
    have fb := d.fbox.cell
    have hlf : w.heap.size + 1 < W.heap.size := (Array.getElem?_eq_some_iff.1 (show W.heap[w.heap.size + 1]? = _ from d.fbox)).1
    have hdl := d.lay.same (w' := W.drew) (fun k _ => rfl) (Nat.le_refl _)
    have hrm := remove_any hdl he
    have htl : t ≤ L.length := by have := d.few; omega
    have HD := Lib.hid d
    have HX := Lib.hid he
    have HRM := Lib.hid hrm
    have HPX : Hid ((p ++ [e.blk]).length = p.length + 1) := Lib.hid (by simp)
    have hrest : Lq.drop (j + 1) = L.drop (p.length + 1) := by rw [← List.drop_drop, ← List.drop_drop, d.rest]
    have HRE := Lib.hid hrest
    have HXM : Hid ((Lq.map E.s)[j]? = some e.s) := Lib.hid (by rw [List.getElem?_map, he]; rfl)
    have HFI : Hid (Fine (Lq.map E.s, h)) := Lib.hid d.lay.inv.fine
    have HJL : Hid (j < Lq.length) := Lib.hid (List.getElem?_eq_some_iff.1 he).1
    have HS0 : Hid (Below W.heap.size W W.drew) := Lib.hid (Below.refl _ _).drew
    clear d he heL hem hdl hrm hrest hpx
    by_cases k1 : e.s.file = f
    · by_cases k2 : e.s.pins = 0
      · have HG := Lib.hid (drop_goes (f := f) HFI.out HXM.out (decide_eq_true ⟨k1, k2⟩))
        have HFE : Hid (e.s.file = f) := Lib.hid k1
        rw [k1] at c0
        rw [k2] at c3
        clear k1 k2
        gi_wp2_with fail
        refine region_round (by kernel_rfl) (by kernel_rfl) (fun ⟨_, _, h⟩ => by cases h.1) (wpAny_of_held (S := fun V => Hid (Below W.heap.size W V)) _ _ _ _ ?_)
        have hS := HS0
        refine wpAnyH_take (i := 0) (v := ?_) rfl (by kernel_rfl) (by kernel_rfl) (by kernel_rfl) (fun _ _ _ h => h) (Or.inl ⟨by rfl, ?_⟩) hS ?_
        rotate_left
        · intro Vw hw
          go_simp
          try with_reducible rfl
        try simp only [Act.put, List.getElem_toArray, List.getElem_cons_succ, List.getElem_cons_zero, List.setIfInBounds_toArray, List.set_cons_zero, List.set_cons_succ]
        refine wpAnyH_take (i := 1) (v := ?_) rfl (by kernel_rfl) (by kernel_rfl) (by kernel_rfl) (fun _ _ _ h => h) (Or.inl ⟨by rfl, ?_⟩) hS ?_
        rotate_left
        · intro Vw hw
          go_simp
          try with_reducible rfl
        try simp only [Act.put, List.getElem_toArray, List.getElem_cons_succ, List.getElem_cons_zero, List.setIfInBounds_toArray, List.set_cons_zero, List.set_cons_succ]
        refine wpAnyH_take (i := 2) (v := ?_) rfl (by kernel_rfl) (by kernel_rfl) (by kernel_rfl) (fun _ _ _ h => h) (Or.inl ⟨by rfl, ?_⟩) hS ?_
        rotate_left
        · intro Vw hw
          go_simp
          try with_reducible rfl
        try simp only [Act.put, List.getElem_toArray, List.getElem_cons_succ, List.getElem_cons_zero, List.setIfInBounds_toArray, List.set_cons_zero, List.set_cons_succ]
        refine wpAnyH_take (i := 3) (v := ?_) rfl (by kernel_rfl) (by kernel_rfl) (by kernel_rfl) (fun _ _ _ h => h) (Or.inl ⟨by rfl, ?_⟩) hS ?_
        rotate_left
        · intro Vw hw
          go_simp
          try with_reducible rfl
        try simp only [Act.put, List.getElem_toArray, List.getElem_cons_succ, List.getElem_cons_zero, List.setIfInBounds_toArray, List.set_cons_zero, List.set_cons_succ]
        refine wpAnyH_take (i := 4) (v := ?_) rfl (by kernel_rfl) (by kernel_rfl) (by kernel_rfl) (fun _ _ _ h => h) (Or.inl ⟨by rfl, ?_⟩) hS ?_
        rotate_left
        · intro Vw hw
          have a := (hw.out.cell (p := ⟨e.blk, 0, none⟩) hle).trans c0
          go_simp
          try with_reducible rfl
        try simp only [Act.put, List.getElem_toArray, List.getElem_cons_succ, List.getElem_cons_zero, List.setIfInBounds_toArray, List.set_cons_zero, List.set_cons_succ]
        refine wpAnyH_take (i := 5) (v := ?_) rfl (by kernel_rfl) (by kernel_rfl) (by kernel_rfl) (fun _ _ _ h => h) (Or.inl ⟨by rfl, ?_⟩) hS ?_
        rotate_left
        · intro Vw hw
          have a := (hw.out.cell (p := ⟨w.heap.size + 1, 0, none⟩) hlf).trans fb
          go_simp
          try with_reducible rfl
        try simp only [Act.put, List.getElem_toArray, List.getElem_cons_succ, List.getElem_cons_zero, List.setIfInBounds_toArray, List.set_cons_zero, List.set_cons_succ]
        refine wpAnyH_take (i := 6) (v := ?_) rfl (by kernel_rfl) (by kernel_rfl) (by kernel_rfl) (fun _ _ _ h => h) (Or.inl ⟨by rfl, ?_⟩) hS ?_
        rotate_left
        · intro Vw hw
          go_simp
          try with_reducible rfl
        try simp only [Act.put, List.getElem_toArray, List.getElem_cons_succ, List.getElem_cons_zero, List.setIfInBounds_toArray, List.set_cons_zero, List.set_cons_succ]
        refine wpAnyH_take (i := 7) (v := ?_) rfl (by kernel_rfl) (by kernel_rfl) (by kernel_rfl) (fun _ _ _ h => h) (Or.inl ⟨by rfl, ?_⟩) hS ?_
        rotate_left
        · intro Vw hw
          go_simp
          try with_reducible rfl
        try simp only [Act.put, List.getElem_toArray, List.getElem_cons_succ, List.getElem_cons_zero, List.setIfInBounds_toArray, List.set_cons_zero, List.set_cons_succ]
        refine wpAnyH_take (i := 8) (v := ?_) rfl (by kernel_rfl) (by kernel_rfl) (by kernel_rfl) (fun _ _ _ h => h) (Or.inl ⟨by rfl, ?_⟩) hS ?_
        rotate_left
        · intro Vw hw
          go_simp
          try with_reducible rfl
        try simp only [Act.put, List.getElem_toArray, List.getElem_cons_succ, List.getElem_cons_zero, List.setIfInBounds_toArray, List.set_cons_zero, List.set_cons_succ]
        refine wpAnyH_take (i := 9) (v := ?_) rfl (by kernel_rfl) (by kernel_rfl) (by kernel_rfl) (fun _ _ _ h => h) (Or.inl ⟨by rfl, ?_⟩) hS ?_
        rotate_left
        · intro Vw hw
          go_simp
          try with_reducible rfl
        try simp only [Act.put, List.getElem_toArray, List.getElem_cons_succ, List.getElem_cons_zero, List.setIfInBounds_toArray, List.set_cons_zero, List.set_cons_succ]
        refine wpAnyH_take (i := 10) (v := ?_) rfl (by kernel_rfl) (by kernel_rfl) (by kernel_rfl) (fun _ _ _ h => h) (Or.inl ⟨by rfl, ?_⟩) hS ?_
        rotate_left
        · intro Vw hw
          go_simp
          try with_reducible rfl
        try simp only [Act.put, List.getElem_toArray, List.getElem_cons_succ, List.getElem_cons_zero, List.setIfInBounds_toArray, List.set_cons_zero, List.set_cons_succ]
        refine wpAnyH_take (i := 11) (v := ?_) rfl (by kernel_rfl) (by kernel_rfl) (by kernel_rfl) (fun _ _ _ h => h) (Or.inl ⟨by rfl, ?_⟩) hS ?_
        rotate_left
        · intro Vw hw
          have a := (hw.out.cell (p := ⟨e.blk, 3, none⟩) hle).trans c3
          go_simp
          try with_reducible rfl
        try simp only [Act.put, List.getElem_toArray, List.getElem_cons_succ, List.getElem_cons_zero, List.setIfInBounds_toArray, List.set_cons_zero, List.set_cons_succ]
        refine wpAnyH_take (i := 12) (v := ?_) rfl (by kernel_rfl) (by kernel_rfl) (by kernel_rfl) (fun _ _ _ h => h) (Or.inl ⟨by rfl, ?_⟩) hS ?_
        rotate_left
        · intro Vw hw
          go_simp
          try with_reducible rfl
        try simp only [Act.put, List.getElem_toArray, List.getElem_cons_succ, List.getElem_cons_zero, List.setIfInBounds_toArray, List.set_cons_zero, List.set_cons_succ]
        refine wpAnyH_take (i := 13) (v := ?_) rfl (by kernel_rfl) (by kernel_rfl) (by kernel_rfl) (fun _ _ _ h => h) (Or.inl ⟨by rfl, ?_⟩) hS ?_
        rotate_left
        · intro Vw hw
          go_simp
          try with_reducible rfl
        try simp only [Act.put, List.getElem_toArray, List.getElem_cons_succ, List.getElem_cons_zero, List.setIfInBounds_toArray, List.set_cons_zero, List.set_cons_succ]
        refine wpAnyH_done (by kernel_rfl) ?_ _
        gi_wp2_with fail
        refine ⟨trivial, (CallsIn.inRound l (callsIn_wide.2 HRM.out)).mono ?_⟩
        rintro v W2 ⟨rfl, hrl, hrk⟩
        have hbig : ∀ k, w.heap.size ≤ k → ¬ Z k := fun k hk hz => by have := HLT.out k hz; omega
        have hold : ∀ k, k < W.heap.size → ¬ Z k → W2.heap[k]? = W.heap[k]? := fun k hk hz => hrk.block k hk hz
        have htlt : w.heap.size + 1 + 1 < W.heap.size := (Array.getElem?_eq_some_iff.1 (show W.heap[w.heap.size + 1 + 1]? = _ from HD.out.tbox)).1
        have htb : Boxed W2 (w.heap.size + 1 + 1) 3 (.int .i64 (t : Int)) := (hold _ htlt (hbig _ (by omega))).trans HD.out.tbox
        have hfb : Boxed W2 (w.heap.size + 1) 3 (.int .i64 f) := (hold _ hlf (hbig _ (by omega))).trans HD.out.fbox
        have hcb : Boxed W2 w.heap.size 24 (pt g) := (hold _ (by omega) (hbig _ (by omega))).trans HD.out.cbox
        have ct := htb.cell
        have zt := htb.frozen
        have hoff : ∀ k, Z k → (W2.setCell ⟨w.heap.size + 1 + 1, 0, none⟩ (.int .i64 ((t + 1 : Nat) : Int))).heap[k]? = W2.heap[k]? := fun k hk => Below.heap_setCell _ _ _ _ (by have := HLT.out k hk; show k ≠ w.heap.size + 1 + 1; omega)
        have hszc : (W2.setCell ⟨w.heap.size + 1 + 1, 0, none⟩ (.int .i64 ((t + 1 : Nat) : Int))).heap.size = W2.heap.size := by simp [World.setCell]
        have hdr : Dr w g Z room M L r f (p ++ [e.blk]).length (W2.setCell ⟨w.heap.size + 1 + 1, 0, none⟩ (.int .i64 ((t + 1 : Nat) : Int))) (out (Lq.map E.s, h) j).2 j (t + 1) (Lq.eraseIdx j) (upd pvq (nxq e.blk) (pvq e.blk)) (upd nxq (pvq e.blk) (nxq e.blk)) := by
          have hel : (Lq.eraseIdx j).length = Lq.length - 1 := by rw [List.length_eraseIdx, if_pos HJL.out]
          have hjl := HJL.out
          refine ⟨hrl.same hoff (by rw [hszc]; exact Nat.le_refl _), ?_, ?_, ?_, ?_, ?_, ?_, hcb.other (by omega) _, hfb.other (by omega) _, htb.set _⟩
          · rw [HPX.out]; have := HD.out.jk; omega
          · omega
          · rw [HPX.out, ← HRE.out, List.eraseIdx_eq_take_drop_succ, List.drop_append_of_le_length (by rw [List.length_take]; omega), List.drop_take, Nat.sub_self, List.take_zero, List.nil_append]
          · have e1 := HD.out.told
            rw [HG.out] at e1
            rw [erase_map]
            exact ⟨e1.1, by rw [e1.2]; show t + ((dropC' (out (Lq.map E.s, h) j) f j).2 + 1) = t + 1 + (dropC' (out (Lq.map E.s, h) j) f j).2; omega⟩
          · have := HD.out.few; omega
          · exact ((HD.out.keep.drew.trans hrk fun k _ hk => hk)).setCell (p := ⟨w.heap.size + 1 + 1, 0, none⟩) (.inl (by show w.heap.size ≤ w.heap.size + 1 + 1; omega)) _
        have HDR := Lib.hid hdr
        have HKF : Hid (KeepsFrom (w.heap.size + 1 + 1 + 1) W (W2.setCell ⟨w.heap.size + 1 + 1, 0, none⟩ (.int .i64 ((t + 1 : Nat) : Int)))) := Lib.hid ⟨by rw [hszc]; exact hrk.size, fun k o hk h0 _ => by
          have hkl := (Array.getElem?_eq_some_iff.1 h0).1
          exact (Below.heap_setCell _ _ _ _ (by show k ≠ w.heap.size + 1 + 1; omega)).trans ((hold k hkl (hbig k (by omega))).trans h0)⟩
        clear hdr hoff hszc hcb hfb htb hold hbig hrl hrk htlt
        gi_wp2_with fail
        rw [show ((t : Int) + 1) = ((t + 1 : Nat) : Int) by omega]
        exact ⟨rfl, by first | (rw [hsz]; exact HKF.out) | exact HKF.out, _, _, _, _, _, _, HDR.out⟩
      · have HG := Lib.hid (drop_stays (f := f) HFI.out HXM.out (decide_eq_false fun e1 => k2 e1.2))
        obtain ⟨m, hm⟩ : ∃ m, e.s.pins = m + 1 := ⟨e.s.pins - 1, by omega⟩
        rw [hm] at c3
        have d0 : ((m : Int) + 1 == 0) = false := beq_eq_false_iff_ne.mpr (by omega)
        rw [k1] at c0
        clear k1 k2 hm
        gi_wp2_with fail
        refine region_round (by kernel_rfl) (by kernel_rfl) (fun ⟨_, _, h⟩ => by cases h.1) (wpAny_of_held (S := fun V => Hid (Below W.heap.size W V)) _ _ _ _ ?_)
        have hS := HS0
        refine wpAnyH_take (i := 0) (v := ?_) rfl (by kernel_rfl) (by kernel_rfl) (by kernel_rfl) (fun _ _ _ h => h) (Or.inl ⟨by rfl, ?_⟩) hS ?_
        rotate_left
        · intro Vw hw
          go_simp
          try with_reducible rfl
        try simp only [Act.put, List.getElem_toArray, List.getElem_cons_succ, List.getElem_cons_zero, List.setIfInBounds_toArray, List.set_cons_zero, List.set_cons_succ]
        refine wpAnyH_take (i := 1) (v := ?_) rfl (by kernel_rfl) (by kernel_rfl) (by kernel_rfl) (fun _ _ _ h => h) (Or.inl ⟨by rfl, ?_⟩) hS ?_
        rotate_left
        · intro Vw hw
          go_simp
          try with_reducible rfl
        try simp only [Act.put, List.getElem_toArray, List.getElem_cons_succ, List.getElem_cons_zero, List.setIfInBounds_toArray, List.set_cons_zero, List.set_cons_succ]
        refine wpAnyH_take (i := 2) (v := ?_) rfl (by kernel_rfl) (by kernel_rfl) (by kernel_rfl) (fun _ _ _ h => h) (Or.inl ⟨by rfl, ?_⟩) hS ?_
        rotate_left
        · intro Vw hw
          go_simp
          try with_reducible rfl
        try simp only [Act.put, List.getElem_toArray, List.getElem_cons_succ, List.getElem_cons_zero, List.setIfInBounds_toArray, List.set_cons_zero, List.set_cons_succ]
        refine wpAnyH_take (i := 3) (v := ?_) rfl (by kernel_rfl) (by kernel_rfl) (by kernel_rfl) (fun _ _ _ h => h) (Or.inl ⟨by rfl, ?_⟩) hS ?_
        rotate_left
        · intro Vw hw
          go_simp
          try with_reducible rfl
        try simp only [Act.put, List.getElem_toArray, List.getElem_cons_succ, List.getElem_cons_zero, List.setIfInBounds_toArray, List.set_cons_zero, List.set_cons_succ]
        refine wpAnyH_take (i := 4) (v := ?_) rfl (by kernel_rfl) (by kernel_rfl) (by kernel_rfl) (fun _ _ _ h => h) (Or.inl ⟨by rfl, ?_⟩) hS ?_
        rotate_left
        · intro Vw hw
          have a := (hw.out.cell (p := ⟨e.blk, 0, none⟩) hle).trans c0
          go_simp
          try with_reducible rfl
        try simp only [Act.put, List.getElem_toArray, List.getElem_cons_succ, List.getElem_cons_zero, List.setIfInBounds_toArray, List.set_cons_zero, List.set_cons_succ]
        refine wpAnyH_take (i := 5) (v := ?_) rfl (by kernel_rfl) (by kernel_rfl) (by kernel_rfl) (fun _ _ _ h => h) (Or.inl ⟨by rfl, ?_⟩) hS ?_
        rotate_left
        · intro Vw hw
          have a := (hw.out.cell (p := ⟨w.heap.size + 1, 0, none⟩) hlf).trans fb
          go_simp
          try with_reducible rfl
        try simp only [Act.put, List.getElem_toArray, List.getElem_cons_succ, List.getElem_cons_zero, List.setIfInBounds_toArray, List.set_cons_zero, List.set_cons_succ]
        refine wpAnyH_take (i := 6) (v := ?_) rfl (by kernel_rfl) (by kernel_rfl) (by kernel_rfl) (fun _ _ _ h => h) (Or.inl ⟨by rfl, ?_⟩) hS ?_
        rotate_left
        · intro Vw hw
          go_simp
          try with_reducible rfl
        try simp only [Act.put, List.getElem_toArray, List.getElem_cons_succ, List.getElem_cons_zero, List.setIfInBounds_toArray, List.set_cons_zero, List.set_cons_succ]
        refine wpAnyH_take (i := 7) (v := ?_) rfl (by kernel_rfl) (by kernel_rfl) (by kernel_rfl) (fun _ _ _ h => h) (Or.inl ⟨by rfl, ?_⟩) hS ?_
        rotate_left
        · intro Vw hw
          go_simp
          try with_reducible rfl
        try simp only [Act.put, List.getElem_toArray, List.getElem_cons_succ, List.getElem_cons_zero, List.setIfInBounds_toArray, List.set_cons_zero, List.set_cons_succ]
        refine wpAnyH_take (i := 8) (v := ?_) rfl (by kernel_rfl) (by kernel_rfl) (by kernel_rfl) (fun _ _ _ h => h) (Or.inl ⟨by rfl, ?_⟩) hS ?_
        rotate_left
        · intro Vw hw
          go_simp
          try with_reducible rfl
        try simp only [Act.put, List.getElem_toArray, List.getElem_cons_succ, List.getElem_cons_zero, List.setIfInBounds_toArray, List.set_cons_zero, List.set_cons_succ]
        refine wpAnyH_take (i := 9) (v := ?_) rfl (by kernel_rfl) (by kernel_rfl) (by kernel_rfl) (fun _ _ _ h => h) (Or.inl ⟨by rfl, ?_⟩) hS ?_
        rotate_left
        · intro Vw hw
          go_simp
          try with_reducible rfl
        try simp only [Act.put, List.getElem_toArray, List.getElem_cons_succ, List.getElem_cons_zero, List.setIfInBounds_toArray, List.set_cons_zero, List.set_cons_succ]
        refine wpAnyH_take (i := 10) (v := ?_) rfl (by kernel_rfl) (by kernel_rfl) (by kernel_rfl) (fun _ _ _ h => h) (Or.inl ⟨by rfl, ?_⟩) hS ?_
        rotate_left
        · intro Vw hw
          go_simp
          try with_reducible rfl
        try simp only [Act.put, List.getElem_toArray, List.getElem_cons_succ, List.getElem_cons_zero, List.setIfInBounds_toArray, List.set_cons_zero, List.set_cons_succ]
        refine wpAnyH_take (i := 11) (v := ?_) rfl (by kernel_rfl) (by kernel_rfl) (by kernel_rfl) (fun _ _ _ h => h) (Or.inl ⟨by rfl, ?_⟩) hS ?_
        rotate_left
        · intro Vw hw
          have a := (hw.out.cell (p := ⟨e.blk, 3, none⟩) hle).trans c3
          go_simp
          try with_reducible rfl
        try simp only [Act.put, List.getElem_toArray, List.getElem_cons_succ, List.getElem_cons_zero, List.setIfInBounds_toArray, List.set_cons_zero, List.set_cons_succ]
        refine wpAnyH_take (i := 12) (v := ?_) rfl (by kernel_rfl) (by kernel_rfl) (by kernel_rfl) (fun _ _ _ h => h) (Or.inl ⟨by rfl, ?_⟩) hS ?_
        rotate_left
        · intro Vw hw
          go_simp
          try with_reducible rfl
        try simp only [Act.put, List.getElem_toArray, List.getElem_cons_succ, List.getElem_cons_zero, List.setIfInBounds_toArray, List.set_cons_zero, List.set_cons_succ]
        refine wpAnyH_take (i := 13) (v := ?_) rfl (by kernel_rfl) (by kernel_rfl) (by kernel_rfl) (fun _ _ _ h => h) (Or.inl ⟨by rfl, ?_⟩) hS ?_
        rotate_left
        · intro Vw hw
          go_simp
          try with_reducible rfl
        try simp only [Act.put, List.getElem_toArray, List.getElem_cons_succ, List.getElem_cons_zero, List.setIfInBounds_toArray, List.set_cons_zero, List.set_cons_succ]
        refine wpAnyH_done (by kernel_rfl) ?_ _
        gi_wp2_with fail
        exact ⟨rfl, (KeepsOthers.drew W).from _, h, j + 1, t, Lq, pvq, nxq, HD.out.lay.same (fun k _ => rfl) (Nat.le_refl _), by rw [HPX.out]; have := HD.out.jk; omega, HJL.out, by rw [HPX.out]; exact HRE.out, by have e1 := HD.out.told; rw [HG.out] at e1; exact e1, HD.out.few, HD.out.keep.drew, HD.out.cbox, HD.out.fbox, HD.out.tbox⟩
    · have HG := Lib.hid (drop_stays (f := f) HFI.out HXM.out (decide_eq_false fun e1 => k1 e1.1))
      have d1 : (e.s.file == f) = false := beq_eq_false_iff_ne.mpr k1
      clear k1
      gi_wp2_with fail
      refine region_round (by kernel_rfl) (by kernel_rfl) (fun ⟨_, _, h⟩ => by cases h.1) (wpAny_of_held (S := fun V => Hid (Below W.heap.size W V)) _ _ _ _ ?_)
      have hS := HS0
      refine wpAnyH_take (i := 0) (v := ?_) rfl (by kernel_rfl) (by kernel_rfl) (by kernel_rfl) (fun _ _ _ h => h) (Or.inl ⟨by rfl, ?_⟩) hS ?_
      rotate_left
      · intro Vw hw
        go_simp
        try with_reducible rfl
      try simp only [Act.put, List.getElem_toArray, List.getElem_cons_succ, List.getElem_cons_zero, List.setIfInBounds_toArray, List.set_cons_zero, List.set_cons_succ]
      refine wpAnyH_take (i := 1) (v := ?_) rfl (by kernel_rfl) (by kernel_rfl) (by kernel_rfl) (fun _ _ _ h => h) (Or.inl ⟨by rfl, ?_⟩) hS ?_
      rotate_left
      · intro Vw hw
        go_simp
        try with_reducible rfl
      try simp only [Act.put, List.getElem_toArray, List.getElem_cons_succ, List.getElem_cons_zero, List.setIfInBounds_toArray, List.set_cons_zero, List.set_cons_succ]
      refine wpAnyH_take (i := 2) (v := ?_) rfl (by kernel_rfl) (by kernel_rfl) (by kernel_rfl) (fun _ _ _ h => h) (Or.inl ⟨by rfl, ?_⟩) hS ?_
      rotate_left
      · intro Vw hw
        go_simp
        try with_reducible rfl
      try simp only [Act.put, List.getElem_toArray, List.getElem_cons_succ, List.getElem_cons_zero, List.setIfInBounds_toArray, List.set_cons_zero, List.set_cons_succ]
      refine wpAnyH_take (i := 3) (v := ?_) rfl (by kernel_rfl) (by kernel_rfl) (by kernel_rfl) (fun _ _ _ h => h) (Or.inl ⟨by rfl, ?_⟩) hS ?_
      rotate_left
      · intro Vw hw
        go_simp
        try with_reducible rfl
      try simp only [Act.put, List.getElem_toArray, List.getElem_cons_succ, List.getElem_cons_zero, List.setIfInBounds_toArray, List.set_cons_zero, List.set_cons_succ]
      refine wpAnyH_take (i := 4) (v := ?_) rfl (by kernel_rfl) (by kernel_rfl) (by kernel_rfl) (fun _ _ _ h => h) (Or.inl ⟨by rfl, ?_⟩) hS ?_
      rotate_left
      · intro Vw hw
        have a := (hw.out.cell (p := ⟨e.blk, 0, none⟩) hle).trans c0
        go_simp
        try with_reducible rfl
      try simp only [Act.put, List.getElem_toArray, List.getElem_cons_succ, List.getElem_cons_zero, List.setIfInBounds_toArray, List.set_cons_zero, List.set_cons_succ]
      refine wpAnyH_take (i := 5) (v := ?_) rfl (by kernel_rfl) (by kernel_rfl) (by kernel_rfl) (fun _ _ _ h => h) (Or.inl ⟨by rfl, ?_⟩) hS ?_
      rotate_left
      · intro Vw hw
        have a := (hw.out.cell (p := ⟨w.heap.size + 1, 0, none⟩) hlf).trans fb
        go_simp
        try with_reducible rfl
      try simp only [Act.put, List.getElem_toArray, List.getElem_cons_succ, List.getElem_cons_zero, List.setIfInBounds_toArray, List.set_cons_zero, List.set_cons_succ]
      refine wpAnyH_take (i := 6) (v := ?_) rfl (by kernel_rfl) (by kernel_rfl) (by kernel_rfl) (fun _ _ _ h => h) (Or.inl ⟨by rfl, ?_⟩) hS ?_
      rotate_left
      · intro Vw hw
        go_simp
        try with_reducible rfl
      try simp only [Act.put, List.getElem_toArray, List.getElem_cons_succ, List.getElem_cons_zero, List.setIfInBounds_toArray, List.set_cons_zero, List.set_cons_succ]
      refine wpAnyH_take (i := 7) (v := ?_) rfl (by kernel_rfl) (by kernel_rfl) (by kernel_rfl) (fun _ _ _ h => h) (Or.inl ⟨by rfl, ?_⟩) hS ?_
      rotate_left
      · intro Vw hw
        go_simp
        try with_reducible rfl
      try simp only [Act.put, List.getElem_toArray, List.getElem_cons_succ, List.getElem_cons_zero, List.setIfInBounds_toArray, List.set_cons_zero, List.set_cons_succ]
      refine wpAnyH_take (i := 8) (v := undef) rfl (by kernel_rfl) (by kernel_rfl) (by kernel_rfl) (fun _ _ _ h => h) (Or.inr ⟨by rfl, rfl⟩) hS ?_
      try simp only [Act.put, List.getElem_toArray, List.getElem_cons_succ, List.getElem_cons_zero, List.setIfInBounds_toArray, List.set_cons_zero, List.set_cons_succ]
      refine wpAnyH_take (i := 9) (v := undef) rfl (by kernel_rfl) (by kernel_rfl) (by kernel_rfl) (fun _ _ _ h => h) (Or.inr ⟨by rfl, rfl⟩) hS ?_
      try simp only [Act.put, List.getElem_toArray, List.getElem_cons_succ, List.getElem_cons_zero, List.setIfInBounds_toArray, List.set_cons_zero, List.set_cons_succ]
      refine wpAnyH_take (i := 10) (v := undef) rfl (by kernel_rfl) (by kernel_rfl) (by kernel_rfl) (fun _ _ _ h => h) (Or.inr ⟨by rfl, rfl⟩) hS ?_
      try simp only [Act.put, List.getElem_toArray, List.getElem_cons_succ, List.getElem_cons_zero, List.setIfInBounds_toArray, List.set_cons_zero, List.set_cons_succ]
      refine wpAnyH_take (i := 11) (v := undef) rfl (by kernel_rfl) (by kernel_rfl) (by kernel_rfl) (fun _ _ _ h => h) (Or.inr ⟨by rfl, rfl⟩) hS ?_
      try simp only [Act.put, List.getElem_toArray, List.getElem_cons_succ, List.getElem_cons_zero, List.setIfInBounds_toArray, List.set_cons_zero, List.set_cons_succ]
      refine wpAnyH_take (i := 12) (v := undef) rfl (by kernel_rfl) (by kernel_rfl) (by kernel_rfl) (fun _ _ _ h => h) (Or.inr ⟨by rfl, rfl⟩) hS ?_
      try simp only [Act.put, List.getElem_toArray, List.getElem_cons_succ, List.getElem_cons_zero, List.setIfInBounds_toArray, List.set_cons_zero, List.set_cons_succ]
      refine wpAnyH_take (i := 13) (v := ?_) rfl (by kernel_rfl) (by kernel_rfl) (by kernel_rfl) (fun _ _ _ h => h) (Or.inl ⟨by rfl, ?_⟩) hS ?_
      rotate_left
      · intro Vw hw
        go_simp
        try with_reducible rfl
      try simp only [Act.put, List.getElem_toArray, List.getElem_cons_succ, List.getElem_cons_zero, List.setIfInBounds_toArray, List.set_cons_zero, List.set_cons_succ]
      refine wpAnyH_done (by kernel_rfl) ?_ _
      gi_wp2_with fail
      exact ⟨rfl, (KeepsOthers.drew W).from _, h, j + 1, t, Lq, pvq, nxq, HD.out.lay.same (fun k _ => rfl) (Nat.le_refl _), by rw [HPX.out]; have := HD.out.jk; omega, HJL.out, by rw [HPX.out]; exact HRE.out, by have e1 := HD.out.told; rw [HG.out] at e1; exact e1, HD.out.few, HD.out.keep.drew, HD.out.cbox, HD.out.fbox, HD.out.tbox⟩
  case done =>
    rintro D W hD ⟨h, j, t, Lq, pvq, nxq, d⟩ hK
    have ht := d.tbox.cell
    have hjj : j = (Lq.map E.s).length := by
      have h1 := d.rest
      rw [List.length_map, List.drop_of_length_le (Nat.le_refl L.length), List.drop_eq_nil_iff] at h1
      have := d.jl
      rw [List.length_map]; omega
    have htold := d.told
    rw [hjj, show (Lq.map E.s).length = ((Lq.map E.s, h) : R).1.length from rfl, drop_end d.lay.inv.fine] at htold
    have htb : t ≤ 1000 := by have := d.few; omega
    have HT := Lib.hid htold
    have HD := Lib.hid d
    have HK := Lib.hid hK
    clear d hK htold hjj
    gi_wp2_with fail
    refine ⟨by simp, .inl ⟨_, _, rfl, run_takeDeferred HK.out, ?_⟩⟩
    have hbe := belowK_b (w := w) (Nat.le_refl _) W D _ (.deferred none) (by omega) HK.out rfl rfl
    refine ⟨.int .i64 (t : Int), ?_, by rw [HT.out.2]; rfl, Z, ⟨M, Lq, pvq, nxq, ?_, by rw [HT.out.1]⟩, HD.out.keep.grown (grownBy_putObj' W D (.deferred none)) (fun k e1 hk => by cases e1; omega), fun k hk => .inl hk⟩
    · simp [results, Try.f16, go_sem]
    · rw [HT.out.1]
      exact HD.out.lay.same (fun k hk => World.putObj_heap_other (by have := HLT.out k hk; omega)) (by simp)
end
end Go.Proofs.Ytbeohfmikpbkhaa.Ck
