/- The document's own join. -/
import Derived.Test.YthhmjjmjicmhdaaVj
namespace Go.Proofs.Ythhmjjmjicmhdaa.Ve
set_option linter.unusedVariables false
set_option linter.unusedSimpArgs false
open Go.RowKit Lift Ik Ed
theorem take_drop_none {α : Type} {l : List α} {k m : Nat} (h : k ≤ m) : (l.take k).drop m = [] := List.drop_eq_nil_of_le (by rw [List.length_take]; omega)
theorem take_drop_succ {α : Type} {l : List α} {k m : Nat} {r : α} (h : l[k]? = some r) (hm : m ≤ k) : (l.take (k + 1)).drop m = (l.take k).drop m ++ [r] := by
  have hk := (List.getElem?_eq_some_iff.1 h).1
  rw [List.take_add_one, h, List.drop_append_of_le_length (by rw [List.length_take]; omega)]
  rfl
theorem ac_low {B B' : Nat} {w : World} {v : Value} {L : List D} (hB : B' ≤ B) (h : Ac B w v L) : Ac B' w v L :=
  ⟨own_lower h.own hB, fun d hd => (h.ok d hd).later (fun _ _ => rfl) fun k hf => Fresh.low hB k hf⟩
def Gave (w : World) (v : V) (e : Ending) (w' : World) : Prop := ∃ z : Y, e = .returned z.v ∧ z.t = v ∧ z.Ok w' w'.heap.size ∧ Ac w.heap.size w' (.slice z.a z.runs.length z.c) z.runs ∧ Below w.heap.size w w'
theorem gave_of {w wr : World} {y : Y} {x : X} {Av : Option Addr} {cv : Nat} {L : List D} {nx lg : Int} {sq : Nat} {cs : Array Value} (h : JS w wr y x (.slice Av L.length cv) L nx lg sq) (hn : (Lit.int .i64 nx).wf = true) (hl : (Lit.int .i64 lg).wf = true) (hs : sq < 18446744073709551616) :
    (⟨Av, cv, L, nx, lg, sq⟩ : Y).Ok (wr.setRow (w.heap.size + 1 + 1) cs) (wr.setRow (w.heap.size + 1 + 1) cs).heap.size ∧ Ac w.heap.size (wr.setRow (w.heap.size + 1 + 1) cs) (.slice Av L.length cv) L ∧ Below w.heap.size w (wr.setRow (w.heap.size + 1 + 1) cs) := by
  have hk := keep_setRow wr (w.heap.size + 1 + 1) cs
  have ha := h.add.low hk fun k hk => by omega
  obtain ⟨_, _, e1, hc1, hm1, hl1⟩ := own_parts ha.own
  injection e1 with ea _ ec
  subst ea; subst ec
  exact ⟨⟨⟨hl1, hc1, hm1, fun d hd => (ha.ok d hd).later (fun _ _ => rfl) fun k hf => hf.2.1⟩, hn, hl, hs⟩, ac_low (show w.heap.size ≤ w.heap.size + 4 by omega) ha, h.be.trans (hk.below h.be.size fun k hk => by omega)⟩
theorem orI_wf {a b : Int} (h1 : (Lit.int .i64 a).wf = true) (h2 : (Lit.int .i64 b).wf = true) : (Lit.int .i64 (orI a b)).wf = true := by unfold orI; split <;> assumption
set_option maxRecDepth 100000 in
set_option maxHeartbeats 25600000 in
theorem rjoin_any (y : Y) (x : X) (lo : Nat) (hi : Int) (w : World) (hy : y.Ok w w.heap.size) (hx : x.Ok w w.heap.size) (hlo : lo ≤ y.runs.length) (hhi : -1 ≤ hi) (hhi2 : hi < (y.runs.length : Int)) (hny : y.runs.length ≤ 1000) (hnx : x.add.length ≤ 100)
    (hsm : ∀ d, d ∈ y.runs ++ x.add → d.first.length ≤ 100000 ∧ d.last.length ≤ 100000) : Calls Try.prog 62 #[y.v, x.v, .int .i64 (lo : Int), .int .i64 hi] w (Gave w (joinV y.t x.e lo hi)) := by
  have hb0 : Below w.heap.size w ((((w.alloc y.box).alloc (.cells #[.slice x.addA x.add.length x.addC, .slice x.dropA x.drop.length x.dropC, .int .i64 x.next, .int .i64 x.log, .int .u64 (x.seq : Int)] 26)).alloc (.cells zeroV.toArray 44)).alloc (.cells #[.slice none 0 0, .int .i64 y.next, .int .i64 y.log, .int .u64 (y.seq : Int)] 44)) := (Joins.below_alloc3 _ _ _ _).alloc (by simp; omega) _
  have HJ0 : Hid (JS w ((((w.alloc y.box).alloc (.cells #[.slice x.addA x.add.length x.addC, .slice x.dropA x.drop.length x.dropC, .int .i64 x.next, .int .i64 x.log, .int .u64 (x.seq : Int)] 26)).alloc (.cells zeroV.toArray 44)).alloc (.cells #[.slice none 0 0, .int .i64 y.next, .int .i64 y.log, .int .u64 (y.seq : Int)] 44)) y x (.slice none 0 0) [] y.next y.log y.seq) := Lib.hid (by
    obtain ⟨W1, hW1⟩ : ∃ W, W = w.alloc y.box := ⟨_, rfl⟩
    obtain ⟨W2, hW2⟩ : ∃ W, W = W1.alloc (.cells #[.slice x.addA x.add.length x.addC, .slice x.dropA x.drop.length x.dropC, .int .i64 x.next, .int .i64 x.log, .int .u64 (x.seq : Int)] 26) := ⟨_, rfl⟩
    obtain ⟨W3, hW3⟩ : ∃ W, W = W2.alloc (.cells zeroV.toArray 44) := ⟨_, rfl⟩
    rw [← hW1, ← hW2, ← hW3] at hb0 ⊢
    have s1 : W1.heap.size = w.heap.size + 1 := by rw [hW1]; simp
    have s2 : W2.heap.size = w.heap.size + 1 + 1 := by rw [hW2]; simp [s1]
    have s3 : W3.heap.size = w.heap.size + 1 + 1 + 1 := by rw [hW3]; simp [s2]
    have a1 : Box W1 w.heap.size 44 y.cells := by rw [hW1]; exact Box.new w _ _
    have a2 : Box W2 (w.heap.size + 1) 26 [.slice x.addA x.add.length x.addC, .slice x.dropA x.drop.length x.dropC, .int .i64 x.next, .int .i64 x.log, .int .u64 (x.seq : Int)] := by rw [hW2, ← s1]; exact Box.new W1 _ _
    have a3 : Box W3 (w.heap.size + 1 + 1) 44 zeroV := by rw [hW3, ← s2]; exact Box.new W2 _ _
    have b1 : Box W2 w.heap.size 44 y.cells := by rw [hW2]; exact a1.alloc _
    have b2 : Box W3 w.heap.size 44 y.cells := by rw [hW3]; exact b1.alloc _
    have c2 : Box W3 (w.heap.size + 1) 26 [.slice x.addA x.add.length x.addC, .slice x.dropA x.drop.length x.dropC, .int .i64 x.next, .int .i64 x.log, .int .u64 (x.seq : Int)] := by rw [hW3]; exact a2.alloc _
    exact ⟨b2.alloc _, c2.alloc _, a3.alloc _, by rw [← s3]; exact Box.new W3 _ [.slice none 0 0, .int .i64 y.next, .int .i64 y.log, .int .u64 (y.seq : Int)], hy.below hb0, hx.below hb0, Ac.nil _ _, hb0, by simp [s3]⟩)
  have HSM := Lib.hid hsm
  have HYW := Lib.hid (show (Lit.int .i64 y.next).wf = true ∧ (Lit.int .i64 y.log).wf = true ∧ y.seq < 18446744073709551616 from ⟨hy.wn, hy.wl, hy.sq⟩)
  have HXW := Lib.hid (show (Lit.int .i64 x.next).wf = true ∧ (Lit.int .i64 x.log).wf = true ∧ x.seq < 18446744073709551616 from ⟨hx.wn, hx.wl, hx.sq⟩)
  clear hy hx hb0 hsm
  go_enter Try.func62, Try.ntmps62
  go_upto_region 2 with fail
  generalize ((((w.alloc (.cells #[.slice y.a y.runs.length y.c, .int .i64 y.next, .int .i64 y.log, .int .u64 (y.seq : Int)] 44)).alloc (.cells #[.slice x.addA x.add.length x.addC, .slice x.dropA x.drop.length x.dropC, .int .i64 x.next, .int .i64 x.log, .int .u64 (x.seq : Int)] 26)).alloc (.cells #[.slice none 0 0, .int .i64 0, .int .i64 0, .int .u64 0] 44)).alloc (.cells #[.slice none 0 0, .int .i64 y.next, .int .i64 y.log, .int .u64 (y.seq : Int)] 44)) = W0 at *
  go_upto_block 0 with fail
  go_cut [] (fun wx => ∃ va L, JS w wx y x va L y.next y.log y.seq ∧ L.map D.ru = y.t.runs.take lo)
  case first =>
    go_wp2_with fail
    go_loopw [10] (fun i wr => ∃ (k : Nat) (va : Value) (L : List D), 0 ≤ k ∧ k ≤ lo ∧ i = .int .i64 (k : Int) ∧ Hid (JS w wr y x va L y.next y.log y.seq) ∧ Hid (L.map D.ru = y.t.runs.take k)) (fun i _ => lo + 1 - (intOf i).toNat)
    case atStart => exact ⟨0, _, [], Nat.zero_le _, Nat.zero_le _, rfl, HJ0, Lib.hid rfl⟩
    case round =>
      obtain ⟨k, va, L, hsk, hk, rfl, HJ, HT⟩ := hrel
      have HLL : Hid (L.length ≤ 1000) := Lib.hid (by have := congrArg List.length HT.out; rw [List.length_map] at this; rw [this]; simp [Y.t, X.e]; omega)
      by_cases hlt : k < lo
      · obtain ⟨d, hd⟩ : ∃ d, y.runs[k]? = some d := ⟨_, List.getElem?_eq_getElem (by omega)⟩
        go_upto_region 5 with fail
        obtain ⟨Av, cv, rfl, -, -, -⟩ := own_parts HJ.out.add.own
        obtain ⟨ad, p, hA, hpB, hpp, s2, s3, s4, s5, s6, s7⟩ := HJ.out.oy.runs.place hd
        have hkl : k < y.runs.length := by omega
        have HD := Lib.hid hd
        have HJD : Hid (JS w wr.drew y x (.slice Av L.length cv) L y.next y.log y.seq) := Lib.hid (HJ.out.below (Below.refl _ _).drew)
        have hbB : (w.heap.size) < w.heap.size + 4 := by omega
        have HSRC : Hid (Src w (.slice Av L.length cv) (w.heap.size) (some ad) (y.runs.length) (y.c) p d wr.drew) := Lib.hid (by
          have hb0 := HJ.out.bv.cell 0
          simp only [List.getElem?_cons_zero] at hb0
          rw [hA] at hb0
          exact ⟨HJ.out.out.cell 0, hb0, s2, s3, s4, s5, s6, s7⟩)
        have HCP := Lib.hid (copy_any (d := d) (w := wr.drew) ((HJ.out.oy.runs.ok d (List.mem_of_getElem? hd)).later (fun _ _ => rfl) fun k hk => by have := HJ.out.size; show k < wr.heap.size; omega) (HSM.out d (by simp [List.mem_of_getElem? hd])).1 (HSM.out d (by simp [List.mem_of_getElem? hd])).2)
        have HAA := Lib.hid hA
        clear hd s2 s3 s4 s5 s6 s7
        refine wp_region_last (S := fun w' => Hid (Src w (.slice Av L.length cv) (w.heap.size) (some ad) (y.runs.length) (y.c) p d w')) 11 (by kernel_rfl) (Lib.hid HSRC.out) (fun hS => ?_)
        refine wpAnyX_take (i := 0) (v := ?_) rfl (by kernel_rfl) (by kernel_rfl) (by kernel_rfl) (by kernel_rfl) (fun _ _ _ h => h) (Or.inl ⟨by rfl, ?_⟩) hS ?_
        rotate_left
        · intro wi hw
          go_simp
          try with_reducible rfl
        try simp only [Act.put, List.getElem_toArray, List.getElem_cons_succ, List.getElem_cons_zero, List.setIfInBounds_toArray, List.set_cons_zero, List.set_cons_succ]
        refine wpAnyX_take (i := 1) (v := ?_) rfl (by kernel_rfl) (by kernel_rfl) (by kernel_rfl) (by kernel_rfl) (fun _ _ _ h => h) (Or.inl ⟨by rfl, ?_⟩) hS ?_
        rotate_left
        · intro wi hw
          obtain ⟨s0, s1, s2, s3, s4, s5, s6, s7⟩ := hw.out
          go_simp
          try with_reducible rfl
        try simp only [Act.put, List.getElem_toArray, List.getElem_cons_succ, List.getElem_cons_zero, List.setIfInBounds_toArray, List.set_cons_zero, List.set_cons_succ]
        refine wpAnyX_take (i := 2) (v := ?_) rfl (by kernel_rfl) (by kernel_rfl) (by kernel_rfl) (by kernel_rfl) (fun _ _ _ h => h) (Or.inl ⟨by rfl, ?_⟩) hS ?_
        rotate_left
        · intro wi hw
          go_simp
          try with_reducible rfl
        try simp only [Act.put, List.getElem_toArray, List.getElem_cons_succ, List.getElem_cons_zero, List.setIfInBounds_toArray, List.set_cons_zero, List.set_cons_succ]
        refine wpAnyX_take (i := 3) (v := ?_) rfl (by kernel_rfl) (by kernel_rfl) (by kernel_rfl) (by kernel_rfl) (fun _ _ _ h => h) (Or.inl ⟨by rfl, ?_⟩) hS ?_
        rotate_left
        · intro wi hw
          obtain ⟨s0, s1, s2, s3, s4, s5, s6, s7⟩ := hw.out
          go_simp
          try with_reducible rfl
        try simp only [Act.put, List.getElem_toArray, List.getElem_cons_succ, List.getElem_cons_zero, List.setIfInBounds_toArray, List.set_cons_zero, List.set_cons_succ]
        refine wpAnyX_take (i := 4) (v := ?_) rfl (by kernel_rfl) (by kernel_rfl) (by kernel_rfl) (by kernel_rfl) (fun _ _ _ h => h) (Or.inl ⟨by rfl, ?_⟩) hS ?_
        rotate_left
        · intro wi hw
          go_simp
          try with_reducible rfl
        try simp only [Act.put, List.getElem_toArray, List.getElem_cons_succ, List.getElem_cons_zero, List.setIfInBounds_toArray, List.set_cons_zero, List.set_cons_succ]
        refine wpAnyX_take (i := 5) (v := ?_) rfl (by kernel_rfl) (by kernel_rfl) (by kernel_rfl) (by kernel_rfl) (fun _ _ _ h => h) (Or.inl ⟨by rfl, ?_⟩) hS ?_
        rotate_left
        · intro wi hw
          go_simp
          try with_reducible rfl
        try simp only [Act.put, List.getElem_toArray, List.getElem_cons_succ, List.getElem_cons_zero, List.setIfInBounds_toArray, List.set_cons_zero, List.set_cons_succ]
        refine wpAnyX_take (i := 6) (v := ?_) rfl (by kernel_rfl) (by kernel_rfl) (by kernel_rfl) (by kernel_rfl) (fun _ _ _ h => h) (Or.inl ⟨by rfl, ?_⟩) hS ?_
        rotate_left
        · intro wi hw
          obtain ⟨s0, s1, s2, s3, s4, s5, s6, s7⟩ := hw.out
          go_simp
          try with_reducible rfl
        try simp only [Act.put, List.getElem_toArray, List.getElem_cons_succ, List.getElem_cons_zero, List.setIfInBounds_toArray, List.set_cons_zero, List.set_cons_succ]
        refine wpAnyX_ready (rs := [7]) (by kernel_rfl) (by simp) ?_
        refine (AllReadyX.cons rfl (fun K hK => ?_) AllReadyX.nil)
        go_simp
        refine HCP.out.mono ?_
        rintro e V1 ⟨d', rfl, hru, hok, hb1⟩
        have HJ1 := Lib.hid (HJD.out.below hb1)
        have HS1 : Hid (Src w (.slice Av L.length cv) (w.heap.size) (some ad) (y.runs.length) (y.c) p d V1) := Lib.hid (HSRC.out.same hpB hbB fun k hk => hb1.block k (Nat.lt_of_lt_of_le hk HJD.out.size))
        have HDO := Lib.hid (hok.later (fun _ _ => rfl) fun k hk => Fresh.low HJD.out.size k hk)
        have HRU := Lib.hid hru
        refine hK.out _ _ HS1 (fun hS => ?_)
        clear hK K hb1 hok hru HCP
        try simp only [Act.put, List.getElem_toArray, List.getElem_cons_succ, List.getElem_cons_zero, List.setIfInBounds_toArray, List.set_cons_zero, List.set_cons_succ]
        obtain ⟨v', VB, hrun, hold, hc0, hz0, hsb⟩ := HJ1.out.more HDO.out (by have := HLL.out; omega)
        obtain ⟨M, hM⟩ : ∃ M, M = L ++ [d'] := ⟨_, rfl⟩
        rw [← hM] at hsb
        obtain ⟨Aw, cw, rfl, -, -, -⟩ := own_parts hsb.add.own
        have HM := Lib.hid hM
        have HRUN := Lib.hid hrun
        have HSB := Lib.hid hsb
        have HS2 : Hid (Src w (.slice Av L.length cv) (w.heap.size) (some ad) (y.runs.length) (y.c) p d (V1.alloc (rbox d'))) := Lib.hid (HS1.out.same hpB hbB fun k hk => Below.heap_alloc _ _ _ (Nat.lt_of_lt_of_le hk HJ1.out.size))
        have HS3 : Hid (Src w (.slice Av L.length cv) (w.heap.size) (some ad) (y.runs.length) (y.c) p d VB) := Lib.hid (HS1.out.same hpB hbB hold)
        clear hM hrun hsb hold
        refine wpAnyX_ready (rs := [8]) (by kernel_rfl) (by simp) ?_
        refine (AllReadyX.cons rfl (fun K hK => ?_) AllReadyX.nil)
        go_simp
        refine hK.out _ _ HS2 (fun hS => ?_)
        clear hK K
        try simp only [Act.put, List.getElem_toArray, List.getElem_cons_succ, List.getElem_cons_zero, List.setIfInBounds_toArray, List.set_cons_zero, List.set_cons_succ]
        refine wpAnyX_ready (rs := [9]) (by kernel_rfl) (by simp) ?_
        refine (AllReadyX.cons rfl (fun K hK => ?_) AllReadyX.nil)
        refine held_append rfl _ _ 22 rfl rfl rfl HRUN.out ?_
        refine hK.out _ _ HS3 (fun hS => ?_)
        clear hK K
        try simp only [Act.put, List.getElem_toArray, List.getElem_cons_succ, List.getElem_cons_zero, List.setIfInBounds_toArray, List.set_cons_zero, List.set_cons_succ]
        refine wpAnyX_take (i := 10) (v := ?_) rfl (by kernel_rfl) (by kernel_rfl) (by kernel_rfl) (by kernel_rfl) (fun _ _ _ h => h) (Or.inl ⟨by rfl, ?_⟩) hS ?_
        rotate_left
        · intro wi hw
          go_simp
          try with_reducible rfl
        try simp only [Act.put, List.getElem_toArray, List.getElem_cons_succ, List.getElem_cons_zero, List.setIfInBounds_toArray, List.set_cons_zero, List.set_cons_succ]
        refine wpAnyX_ready (rs := [11]) (by kernel_rfl) (by simp) ?_
        refine AllReadyX.last rfl (fun K hK => ?_)
        go_simp
        refine hK.out _ _ ?_
        clear hK K hc0 hz0
        try simp only [Act.put, List.getElem_toArray, List.getElem_cons_succ, List.getElem_cons_zero, List.setIfInBounds_toArray, List.set_cons_zero, List.set_cons_succ]
        refine wpAnyX_done (by kernel_rfl) ?_ _
        go_wp2_with fail
        go_roundw
        case rel => exact ⟨k + 1, _, M, by omega, by omega, by go_num, HSB, Lib.hid (by
          rw [HM.out, List.map_append, HT.out, List.take_add_one]
          have : y.t.runs[k]? = some d.ru := by unfold Y.t; rw [List.getElem?_map, HD.out]; rfl
          rw [this, List.map_cons, List.map_nil, HRU.out]; rfl)⟩
        case measure => simp [intOf]; omega
      · obtain rfl : k = lo := by omega
        go_wp2_with fail
        go_meet
        exact ⟨va, L, HJ.out, HT.out⟩
  case rest =>
  obtain ⟨va, L, h1, h2⟩ := hcut
  generalize wc = W1 at h1 ⊢
  clear wc HJ0
  have HJ1 := Lib.hid h1
  have HT1 := Lib.hid h2
  clear h1 h2
  go_upto_block 2 with fail
  go_cut [] (fun wx => ∃ va L, JS w wx y x va L y.next y.log y.seq ∧ L.map D.ru = y.t.runs.take lo ++ x.e.add.take (x.add.length))
  case first =>
    go_wp2_with fail
    go_loopw [11] (fun i wr => ∃ (k : Nat) (va : Value) (L : List D), 0 ≤ k ∧ k ≤ x.add.length ∧ i = .int .i64 (k : Int) ∧ Hid (JS w wr y x va L y.next y.log y.seq) ∧ Hid (L.map D.ru = y.t.runs.take lo ++ x.e.add.take (k))) (fun i _ => x.add.length + 1 - (intOf i).toNat)
    case atStart => exact ⟨0, va, L, Nat.zero_le _, Nat.zero_le _, rfl, HJ1, Lib.hid (by rw [HT1.out]; simp)⟩
    case round =>
      obtain ⟨k, va, L, hsk, hk, rfl, HJ, HT⟩ := hrel
      have HLL : Hid (L.length ≤ 2000) := Lib.hid (by have := congrArg List.length HT.out; rw [List.length_map] at this; rw [this]; simp [Y.t, X.e]; omega)
      have pe : wr.cell? ⟨w.heap.size + 1, 0, none⟩ = some (.slice x.addA x.add.length x.addC) := HJ.out.bx.cell 0
      by_cases hlt : k < x.add.length
      · obtain ⟨d, hd⟩ : ∃ d, x.add[k]? = some d := ⟨_, List.getElem?_eq_getElem (by omega)⟩
        go_upto_region 9 with fail
        clear pe
        obtain ⟨Av, cv, rfl, -, -, -⟩ := own_parts HJ.out.add.own
        obtain ⟨ad, p, hA, hpB, hpp, s2, s3, s4, s5, s6, s7⟩ := HJ.out.ox.add.place hd
        have hkl : k < x.add.length := by omega
        have HD := Lib.hid hd
        have HJD : Hid (JS w wr.drew y x (.slice Av L.length cv) L y.next y.log y.seq) := Lib.hid (HJ.out.below (Below.refl _ _).drew)
        have hbB : (w.heap.size + 1) < w.heap.size + 4 := by omega
        have HSRC : Hid (Src w (.slice Av L.length cv) (w.heap.size + 1) (some ad) (x.add.length) (x.addC) p d wr.drew) := Lib.hid (by
          have hb0 := HJ.out.bx.cell 0
          simp only [List.getElem?_cons_zero] at hb0
          rw [hA] at hb0
          exact ⟨HJ.out.out.cell 0, hb0, s2, s3, s4, s5, s6, s7⟩)
        have HCP := Lib.hid (copy_any (d := d) (w := wr.drew) ((HJ.out.ox.add.ok d (List.mem_of_getElem? hd)).later (fun _ _ => rfl) fun k hk => by have := HJ.out.size; show k < wr.heap.size; omega) (HSM.out d (by simp [List.mem_of_getElem? hd])).1 (HSM.out d (by simp [List.mem_of_getElem? hd])).2)
        have HAA := Lib.hid hA
        clear hd s2 s3 s4 s5 s6 s7
        refine wp_region_last (S := fun w' => Hid (Src w (.slice Av L.length cv) (w.heap.size + 1) (some ad) (x.add.length) (x.addC) p d w')) 11 (by kernel_rfl) (Lib.hid HSRC.out) (fun hS => ?_)
        refine wpAnyX_take (i := 0) (v := ?_) rfl (by kernel_rfl) (by kernel_rfl) (by kernel_rfl) (by kernel_rfl) (fun _ _ _ h => h) (Or.inl ⟨by rfl, ?_⟩) hS ?_
        rotate_left
        · intro wi hw
          go_simp
          try with_reducible rfl
        try simp only [Act.put, List.getElem_toArray, List.getElem_cons_succ, List.getElem_cons_zero, List.setIfInBounds_toArray, List.set_cons_zero, List.set_cons_succ]
        refine wpAnyX_take (i := 1) (v := ?_) rfl (by kernel_rfl) (by kernel_rfl) (by kernel_rfl) (by kernel_rfl) (fun _ _ _ h => h) (Or.inl ⟨by rfl, ?_⟩) hS ?_
        rotate_left
        · intro wi hw
          obtain ⟨s0, s1, s2, s3, s4, s5, s6, s7⟩ := hw.out
          go_simp
          try with_reducible rfl
        try simp only [Act.put, List.getElem_toArray, List.getElem_cons_succ, List.getElem_cons_zero, List.setIfInBounds_toArray, List.set_cons_zero, List.set_cons_succ]
        refine wpAnyX_take (i := 2) (v := ?_) rfl (by kernel_rfl) (by kernel_rfl) (by kernel_rfl) (by kernel_rfl) (fun _ _ _ h => h) (Or.inl ⟨by rfl, ?_⟩) hS ?_
        rotate_left
        · intro wi hw
          go_simp
          try with_reducible rfl
        try simp only [Act.put, List.getElem_toArray, List.getElem_cons_succ, List.getElem_cons_zero, List.setIfInBounds_toArray, List.set_cons_zero, List.set_cons_succ]
        refine wpAnyX_take (i := 3) (v := ?_) rfl (by kernel_rfl) (by kernel_rfl) (by kernel_rfl) (by kernel_rfl) (fun _ _ _ h => h) (Or.inl ⟨by rfl, ?_⟩) hS ?_
        rotate_left
        · intro wi hw
          obtain ⟨s0, s1, s2, s3, s4, s5, s6, s7⟩ := hw.out
          go_simp
          try with_reducible rfl
        try simp only [Act.put, List.getElem_toArray, List.getElem_cons_succ, List.getElem_cons_zero, List.setIfInBounds_toArray, List.set_cons_zero, List.set_cons_succ]
        refine wpAnyX_take (i := 4) (v := ?_) rfl (by kernel_rfl) (by kernel_rfl) (by kernel_rfl) (by kernel_rfl) (fun _ _ _ h => h) (Or.inl ⟨by rfl, ?_⟩) hS ?_
        rotate_left
        · intro wi hw
          go_simp
          try with_reducible rfl
        try simp only [Act.put, List.getElem_toArray, List.getElem_cons_succ, List.getElem_cons_zero, List.setIfInBounds_toArray, List.set_cons_zero, List.set_cons_succ]
        refine wpAnyX_take (i := 5) (v := ?_) rfl (by kernel_rfl) (by kernel_rfl) (by kernel_rfl) (by kernel_rfl) (fun _ _ _ h => h) (Or.inl ⟨by rfl, ?_⟩) hS ?_
        rotate_left
        · intro wi hw
          go_simp
          try with_reducible rfl
        try simp only [Act.put, List.getElem_toArray, List.getElem_cons_succ, List.getElem_cons_zero, List.setIfInBounds_toArray, List.set_cons_zero, List.set_cons_succ]
        refine wpAnyX_take (i := 6) (v := ?_) rfl (by kernel_rfl) (by kernel_rfl) (by kernel_rfl) (by kernel_rfl) (fun _ _ _ h => h) (Or.inl ⟨by rfl, ?_⟩) hS ?_
        rotate_left
        · intro wi hw
          obtain ⟨s0, s1, s2, s3, s4, s5, s6, s7⟩ := hw.out
          go_simp
          try with_reducible rfl
        try simp only [Act.put, List.getElem_toArray, List.getElem_cons_succ, List.getElem_cons_zero, List.setIfInBounds_toArray, List.set_cons_zero, List.set_cons_succ]
        refine wpAnyX_ready (rs := [7]) (by kernel_rfl) (by simp) ?_
        refine (AllReadyX.cons rfl (fun K hK => ?_) AllReadyX.nil)
        go_simp
        refine HCP.out.mono ?_
        rintro e V1 ⟨d', rfl, hru, hok, hb1⟩
        have HJ1 := Lib.hid (HJD.out.below hb1)
        have HS1 : Hid (Src w (.slice Av L.length cv) (w.heap.size + 1) (some ad) (x.add.length) (x.addC) p d V1) := Lib.hid (HSRC.out.same hpB hbB fun k hk => hb1.block k (Nat.lt_of_lt_of_le hk HJD.out.size))
        have HDO := Lib.hid (hok.later (fun _ _ => rfl) fun k hk => Fresh.low HJD.out.size k hk)
        have HRU := Lib.hid hru
        refine hK.out _ _ HS1 (fun hS => ?_)
        clear hK K hb1 hok hru HCP
        try simp only [Act.put, List.getElem_toArray, List.getElem_cons_succ, List.getElem_cons_zero, List.setIfInBounds_toArray, List.set_cons_zero, List.set_cons_succ]
        obtain ⟨v', VB, hrun, hold, hc0, hz0, hsb⟩ := HJ1.out.more HDO.out (by have := HLL.out; omega)
        obtain ⟨M, hM⟩ : ∃ M, M = L ++ [d'] := ⟨_, rfl⟩
        rw [← hM] at hsb
        obtain ⟨Aw, cw, rfl, -, -, -⟩ := own_parts hsb.add.own
        have HM := Lib.hid hM
        have HRUN := Lib.hid hrun
        have HSB := Lib.hid hsb
        have HS2 : Hid (Src w (.slice Av L.length cv) (w.heap.size + 1) (some ad) (x.add.length) (x.addC) p d (V1.alloc (rbox d'))) := Lib.hid (HS1.out.same hpB hbB fun k hk => Below.heap_alloc _ _ _ (Nat.lt_of_lt_of_le hk HJ1.out.size))
        have HS3 : Hid (Src w (.slice Av L.length cv) (w.heap.size + 1) (some ad) (x.add.length) (x.addC) p d VB) := Lib.hid (HS1.out.same hpB hbB hold)
        clear hM hrun hsb hold
        refine wpAnyX_ready (rs := [8]) (by kernel_rfl) (by simp) ?_
        refine (AllReadyX.cons rfl (fun K hK => ?_) AllReadyX.nil)
        go_simp
        refine hK.out _ _ HS2 (fun hS => ?_)
        clear hK K
        try simp only [Act.put, List.getElem_toArray, List.getElem_cons_succ, List.getElem_cons_zero, List.setIfInBounds_toArray, List.set_cons_zero, List.set_cons_succ]
        refine wpAnyX_ready (rs := [9]) (by kernel_rfl) (by simp) ?_
        refine (AllReadyX.cons rfl (fun K hK => ?_) AllReadyX.nil)
        refine held_append rfl _ _ 22 rfl rfl rfl HRUN.out ?_
        refine hK.out _ _ HS3 (fun hS => ?_)
        clear hK K
        try simp only [Act.put, List.getElem_toArray, List.getElem_cons_succ, List.getElem_cons_zero, List.setIfInBounds_toArray, List.set_cons_zero, List.set_cons_succ]
        refine wpAnyX_take (i := 10) (v := ?_) rfl (by kernel_rfl) (by kernel_rfl) (by kernel_rfl) (by kernel_rfl) (fun _ _ _ h => h) (Or.inl ⟨by rfl, ?_⟩) hS ?_
        rotate_left
        · intro wi hw
          go_simp
          try with_reducible rfl
        try simp only [Act.put, List.getElem_toArray, List.getElem_cons_succ, List.getElem_cons_zero, List.setIfInBounds_toArray, List.set_cons_zero, List.set_cons_succ]
        refine wpAnyX_ready (rs := [11]) (by kernel_rfl) (by simp) ?_
        refine AllReadyX.last rfl (fun K hK => ?_)
        go_simp
        refine hK.out _ _ ?_
        clear hK K hc0 hz0
        try simp only [Act.put, List.getElem_toArray, List.getElem_cons_succ, List.getElem_cons_zero, List.setIfInBounds_toArray, List.set_cons_zero, List.set_cons_succ]
        refine wpAnyX_done (by kernel_rfl) ?_ _
        go_wp2_with fail
        go_roundw
        case rel => exact ⟨k + 1, _, M, by omega, by omega, by go_num, HSB, Lib.hid (by
          rw [HM.out, List.map_append, HT.out, List.take_add_one]
          have : x.e.add[k]? = some d.ru := by unfold X.e; rw [List.getElem?_map, HD.out]; rfl
          rw [this, List.map_cons, List.map_nil, HRU.out, List.append_assoc]; rfl)⟩
        case measure => simp [intOf]; omega
      · obtain rfl : k = x.add.length := by omega
        go_wp2_with fail
        go_meet
        exact ⟨va, L, HJ.out, HT.out⟩
  case rest =>
  obtain ⟨va, L, h1, h2⟩ := hcut
  generalize wc = W2 at h1 ⊢
  clear wc HJ1 HT1
  have HJ2 := Lib.hid h1
  have HT2 : Hid (L.map D.ru = y.t.runs.take lo ++ x.e.add) := Lib.hid (by rw [h2]; unfold X.e; simp only; rw [show x.add.length = (x.add.map D.ru).length by simp, List.take_length])
  clear h1 h2
  obtain ⟨s, hs⟩ : ∃ s : Nat, hi + 1 = (s : Int) := ⟨(hi + 1).toNat, by omega⟩
  have HSN : Hid ((hi + 1).toNat = s) := Lib.hid (by omega)
  have hsl : s ≤ y.runs.length := by omega
  have hs64 : IntKind.i64.wrap (hi + 1) = (s : Int) := by rw [hs]; exact IntWalk.i64_in _ (by omega)
  have HSS := Lib.hid hs
  go_upto_block 4 with fail
  go_cut [] (fun wx => ∃ va L, JS w wx y x va L y.next y.log y.seq ∧ L.map D.ru = y.t.runs.take lo ++ (x.e.add ++ (y.t.runs.take (y.runs.length)).drop (max lo s)))
  case first =>
    go_wp2_with fail
    go_loopw [12] (fun i wr => ∃ (k : Nat) (va : Value) (L : List D), s ≤ k ∧ k ≤ y.runs.length ∧ i = .int .i64 (k : Int) ∧ Hid (JS w wr y x va L y.next y.log y.seq) ∧ Hid (L.map D.ru = y.t.runs.take lo ++ (x.e.add ++ (y.t.runs.take (k)).drop (max lo s)))) (fun i _ => y.runs.length + 1 - (intOf i).toNat)
    case atStart => exact ⟨s, va, L, Nat.le_refl _, hsl, by first | rfl | rw [HSS.out], HJ2, Lib.hid (by rw [HT2.out, take_drop_none (show s ≤ max lo s by omega), List.append_nil])⟩
    case round =>
      obtain ⟨k, va, L, hsk, hk, rfl, HJ, HT⟩ := hrel
      have HLL : Hid (L.length ≤ 4000) := Lib.hid (by have := congrArg List.length HT.out; rw [List.length_map] at this; rw [this]; simp [Y.t, X.e]; omega)
      have pe : wr.cell? ⟨w.heap.size, 0, none⟩ = some (.slice y.a y.runs.length y.c) := HJ.out.bv.cell 0
      by_cases hlt : k < y.runs.length
      · by_cases hge : lo ≤ k
        · have g1 : decide (lo ≤ k) = true := decide_eq_true hge
          have g2 : decide ((lo : Int) ≤ (k : Int)) = true := decide_eq_true (by omega)
          obtain ⟨d, hd⟩ : ∃ d, y.runs[k]? = some d := ⟨_, List.getElem?_eq_getElem (by omega)⟩
          go_upto_region 14 with fail
          clear pe
          obtain ⟨Av, cv, rfl, -, -, -⟩ := own_parts HJ.out.add.own
          obtain ⟨ad, p, hA, hpB, hpp, s2, s3, s4, s5, s6, s7⟩ := HJ.out.oy.runs.place hd
          have hkl : k < y.runs.length := by omega
          have HD := Lib.hid hd
          have HJD : Hid (JS w wr.drew y x (.slice Av L.length cv) L y.next y.log y.seq) := Lib.hid (HJ.out.below (Below.refl _ _).drew)
          have hbB : (w.heap.size) < w.heap.size + 4 := by omega
          have HSRC : Hid (Src w (.slice Av L.length cv) (w.heap.size) (some ad) (y.runs.length) (y.c) p d wr.drew) := Lib.hid (by
            have hb0 := HJ.out.bv.cell 0
            simp only [List.getElem?_cons_zero] at hb0
            rw [hA] at hb0
            exact ⟨HJ.out.out.cell 0, hb0, s2, s3, s4, s5, s6, s7⟩)
          have HCP := Lib.hid (copy_any (d := d) (w := wr.drew) ((HJ.out.oy.runs.ok d (List.mem_of_getElem? hd)).later (fun _ _ => rfl) fun k hk => by have := HJ.out.size; show k < wr.heap.size; omega) (HSM.out d (by simp [List.mem_of_getElem? hd])).1 (HSM.out d (by simp [List.mem_of_getElem? hd])).2)
          have HAA := Lib.hid hA
          clear hd s2 s3 s4 s5 s6 s7
          refine wp_region_last (S := fun w' => Hid (Src w (.slice Av L.length cv) (w.heap.size) (some ad) (y.runs.length) (y.c) p d w')) 11 (by kernel_rfl) (Lib.hid HSRC.out) (fun hS => ?_)
          refine wpAnyX_take (i := 0) (v := ?_) rfl (by kernel_rfl) (by kernel_rfl) (by kernel_rfl) (by kernel_rfl) (fun _ _ _ h => h) (Or.inl ⟨by rfl, ?_⟩) hS ?_
          rotate_left
          · intro wi hw
            go_simp
            try with_reducible rfl
          try simp only [Act.put, List.getElem_toArray, List.getElem_cons_succ, List.getElem_cons_zero, List.setIfInBounds_toArray, List.set_cons_zero, List.set_cons_succ]
          refine wpAnyX_take (i := 1) (v := ?_) rfl (by kernel_rfl) (by kernel_rfl) (by kernel_rfl) (by kernel_rfl) (fun _ _ _ h => h) (Or.inl ⟨by rfl, ?_⟩) hS ?_
          rotate_left
          · intro wi hw
            obtain ⟨s0, s1, s2, s3, s4, s5, s6, s7⟩ := hw.out
            go_simp
            try with_reducible rfl
          try simp only [Act.put, List.getElem_toArray, List.getElem_cons_succ, List.getElem_cons_zero, List.setIfInBounds_toArray, List.set_cons_zero, List.set_cons_succ]
          refine wpAnyX_take (i := 2) (v := ?_) rfl (by kernel_rfl) (by kernel_rfl) (by kernel_rfl) (by kernel_rfl) (fun _ _ _ h => h) (Or.inl ⟨by rfl, ?_⟩) hS ?_
          rotate_left
          · intro wi hw
            go_simp
            try with_reducible rfl
          try simp only [Act.put, List.getElem_toArray, List.getElem_cons_succ, List.getElem_cons_zero, List.setIfInBounds_toArray, List.set_cons_zero, List.set_cons_succ]
          refine wpAnyX_take (i := 3) (v := ?_) rfl (by kernel_rfl) (by kernel_rfl) (by kernel_rfl) (by kernel_rfl) (fun _ _ _ h => h) (Or.inl ⟨by rfl, ?_⟩) hS ?_
          rotate_left
          · intro wi hw
            obtain ⟨s0, s1, s2, s3, s4, s5, s6, s7⟩ := hw.out
            go_simp
            try with_reducible rfl
          try simp only [Act.put, List.getElem_toArray, List.getElem_cons_succ, List.getElem_cons_zero, List.setIfInBounds_toArray, List.set_cons_zero, List.set_cons_succ]
          refine wpAnyX_take (i := 4) (v := ?_) rfl (by kernel_rfl) (by kernel_rfl) (by kernel_rfl) (by kernel_rfl) (fun _ _ _ h => h) (Or.inl ⟨by rfl, ?_⟩) hS ?_
          rotate_left
          · intro wi hw
            go_simp
            try with_reducible rfl
          try simp only [Act.put, List.getElem_toArray, List.getElem_cons_succ, List.getElem_cons_zero, List.setIfInBounds_toArray, List.set_cons_zero, List.set_cons_succ]
          refine wpAnyX_take (i := 5) (v := ?_) rfl (by kernel_rfl) (by kernel_rfl) (by kernel_rfl) (by kernel_rfl) (fun _ _ _ h => h) (Or.inl ⟨by rfl, ?_⟩) hS ?_
          rotate_left
          · intro wi hw
            go_simp
            try with_reducible rfl
          try simp only [Act.put, List.getElem_toArray, List.getElem_cons_succ, List.getElem_cons_zero, List.setIfInBounds_toArray, List.set_cons_zero, List.set_cons_succ]
          refine wpAnyX_take (i := 6) (v := ?_) rfl (by kernel_rfl) (by kernel_rfl) (by kernel_rfl) (by kernel_rfl) (fun _ _ _ h => h) (Or.inl ⟨by rfl, ?_⟩) hS ?_
          rotate_left
          · intro wi hw
            obtain ⟨s0, s1, s2, s3, s4, s5, s6, s7⟩ := hw.out
            go_simp
            try with_reducible rfl
          try simp only [Act.put, List.getElem_toArray, List.getElem_cons_succ, List.getElem_cons_zero, List.setIfInBounds_toArray, List.set_cons_zero, List.set_cons_succ]
          refine wpAnyX_ready (rs := [7]) (by kernel_rfl) (by simp) ?_
          refine (AllReadyX.cons rfl (fun K hK => ?_) AllReadyX.nil)
          go_simp
          refine HCP.out.mono ?_
          rintro e V1 ⟨d', rfl, hru, hok, hb1⟩
          have HJ1 := Lib.hid (HJD.out.below hb1)
          have HS1 : Hid (Src w (.slice Av L.length cv) (w.heap.size) (some ad) (y.runs.length) (y.c) p d V1) := Lib.hid (HSRC.out.same hpB hbB fun k hk => hb1.block k (Nat.lt_of_lt_of_le hk HJD.out.size))
          have HDO := Lib.hid (hok.later (fun _ _ => rfl) fun k hk => Fresh.low HJD.out.size k hk)
          have HRU := Lib.hid hru
          refine hK.out _ _ HS1 (fun hS => ?_)
          clear hK K hb1 hok hru HCP
          try simp only [Act.put, List.getElem_toArray, List.getElem_cons_succ, List.getElem_cons_zero, List.setIfInBounds_toArray, List.set_cons_zero, List.set_cons_succ]
          obtain ⟨v', VB, hrun, hold, hc0, hz0, hsb⟩ := HJ1.out.more HDO.out (by have := HLL.out; omega)
          obtain ⟨M, hM⟩ : ∃ M, M = L ++ [d'] := ⟨_, rfl⟩
          rw [← hM] at hsb
          obtain ⟨Aw, cw, rfl, -, -, -⟩ := own_parts hsb.add.own
          have HM := Lib.hid hM
          have HRUN := Lib.hid hrun
          have HSB := Lib.hid hsb
          have HS2 : Hid (Src w (.slice Av L.length cv) (w.heap.size) (some ad) (y.runs.length) (y.c) p d (V1.alloc (rbox d'))) := Lib.hid (HS1.out.same hpB hbB fun k hk => Below.heap_alloc _ _ _ (Nat.lt_of_lt_of_le hk HJ1.out.size))
          have HS3 : Hid (Src w (.slice Av L.length cv) (w.heap.size) (some ad) (y.runs.length) (y.c) p d VB) := Lib.hid (HS1.out.same hpB hbB hold)
          clear hM hrun hsb hold
          refine wpAnyX_ready (rs := [8]) (by kernel_rfl) (by simp) ?_
          refine (AllReadyX.cons rfl (fun K hK => ?_) AllReadyX.nil)
          go_simp
          refine hK.out _ _ HS2 (fun hS => ?_)
          clear hK K
          try simp only [Act.put, List.getElem_toArray, List.getElem_cons_succ, List.getElem_cons_zero, List.setIfInBounds_toArray, List.set_cons_zero, List.set_cons_succ]
          refine wpAnyX_ready (rs := [9]) (by kernel_rfl) (by simp) ?_
          refine (AllReadyX.cons rfl (fun K hK => ?_) AllReadyX.nil)
          refine held_append rfl _ _ 22 rfl rfl rfl HRUN.out ?_
          refine hK.out _ _ HS3 (fun hS => ?_)
          clear hK K
          try simp only [Act.put, List.getElem_toArray, List.getElem_cons_succ, List.getElem_cons_zero, List.setIfInBounds_toArray, List.set_cons_zero, List.set_cons_succ]
          refine wpAnyX_take (i := 10) (v := ?_) rfl (by kernel_rfl) (by kernel_rfl) (by kernel_rfl) (by kernel_rfl) (fun _ _ _ h => h) (Or.inl ⟨by rfl, ?_⟩) hS ?_
          rotate_left
          · intro wi hw
            go_simp
            try with_reducible rfl
          try simp only [Act.put, List.getElem_toArray, List.getElem_cons_succ, List.getElem_cons_zero, List.setIfInBounds_toArray, List.set_cons_zero, List.set_cons_succ]
          refine wpAnyX_ready (rs := [11]) (by kernel_rfl) (by simp) ?_
          refine AllReadyX.last rfl (fun K hK => ?_)
          go_simp
          refine hK.out _ _ ?_
          clear hK K hc0 hz0
          try simp only [Act.put, List.getElem_toArray, List.getElem_cons_succ, List.getElem_cons_zero, List.setIfInBounds_toArray, List.set_cons_zero, List.set_cons_succ]
          refine wpAnyX_done (by kernel_rfl) ?_ _
          go_wp2_with fail
          go_roundw
          case rel => exact ⟨k + 1, _, M, by omega, by omega, by go_num, HSB, Lib.hid (by
            rw [HM.out, List.map_append, HT.out]
            have h2 : y.t.runs[k]? = some d.ru := by unfold Y.t; rw [List.getElem?_map, HD.out]; rfl
            rw [take_drop_succ h2 (by omega), List.map_cons, List.map_nil, HRU.out]; simp only [List.append_assoc])⟩
          case measure => simp [intOf]; omega
        · have g1 : decide (lo ≤ k) = false := decide_eq_false hge
          have g2 : decide ((lo : Int) ≤ (k : Int)) = false := decide_eq_false (by omega)
          go_wp2_with fail
          go_roundw
          case rel => exact ⟨k + 1, _, L, by omega, by omega, by go_num, HJ, Lib.hid (by
            rw [HT.out, take_drop_none (show k + 1 ≤ max lo s by omega), take_drop_none (show k ≤ max lo s by omega)])⟩
          case measure => simp [intOf]; omega
      · obtain rfl : k = y.runs.length := by omega
        go_wp2_with fail
        go_meet
        exact ⟨va, L, HJ.out, HT.out⟩
  case rest =>
  obtain ⟨va, L, h1, h2⟩ := hcut
  generalize wc = W3 at h1 ⊢
  clear wc HJ2 HT2
  have HJ3 := Lib.hid h1
  have HT3 : Hid (L.map D.ru = (joinV y.t x.e lo hi).runs) := Lib.hid (by
    rw [h2]
    unfold joinV
    simp only
    rw [HSN.out, show y.runs.length = y.t.runs.length by unfold Y.t; simp, List.take_length])
  clear h1 h2 hs hs64
  have pe : W3.cell? ⟨w.heap.size + 1, 2, none⟩ = some (.int .i64 x.next) := HJ3.out.bx.cell 2
  go_upto_if 79 with fail
  go_cut [] (fun wx => JS w wx y x va L (orI x.next y.next) y.log y.seq)
  case first =>
    by_cases h0 : x.next = 0
    · have z0 : (x.next != 0) = false := by rw [bne_eq_false_iff_eq]; exact h0
      have hq : JS w W3 y x va L (orI x.next y.next) y.log y.seq := by
        have := HJ3.out
        unfold orI
        simp only [if_pos h0]
        exact this
      have HQ := Lib.hid hq
      clear hq h0
      go_wp2_with fail
      go_meet
      exact HQ.out
    · have z0 : (x.next != 0) = true := by rw [bne_iff_ne]; exact h0
      have HQ : Hid (JS w (W3.setCell ⟨w.heap.size + 1 + 1 + 1, 1, none⟩ (.int .i64 x.next)) y x va L (orI x.next y.next) y.log y.seq) := Lib.hid (HJ3.out.set 1 _ (by unfold orI; simp only [if_neg h0]; rfl))
      have pf : W3.cell? ⟨w.heap.size + 1 + 1 + 1, 1, none⟩ = some (.int .i64 y.next) := HJ3.out.out.cell 1
      have pz : W3.frozen? ⟨w.heap.size + 1 + 1 + 1, 1, none⟩ = false := HJ3.out.out.free 1
      clear h0
      go_wp2_with fail
      go_meet
      exact HQ.out
  case rest =>
  generalize wc = W4 at hcut ⊢
  clear wc
  have HJ4 := Lib.hid hcut
  clear hcut pe
  have pe : W4.cell? ⟨w.heap.size + 1, 3, none⟩ = some (.int .i64 x.log) := HJ4.out.bx.cell 3
  go_upto_if 85 with fail
  go_cut [] (fun wx => JS w wx y x va L (orI x.next y.next) (orI x.log y.log) y.seq)
  case first =>
    by_cases h0 : x.log = 0
    · have z0 : (x.log != 0) = false := by rw [bne_eq_false_iff_eq]; exact h0
      have hq : JS w W4 y x va L (orI x.next y.next) (orI x.log y.log) y.seq := by
        have := HJ4.out
        unfold orI
        simp only [if_pos h0]
        exact this
      have HQ := Lib.hid hq
      clear hq h0
      go_wp2_with fail
      go_meet
      exact HQ.out
    · have z0 : (x.log != 0) = true := by rw [bne_iff_ne]; exact h0
      have HQ : Hid (JS w (W4.setCell ⟨w.heap.size + 1 + 1 + 1, 2, none⟩ (.int .i64 x.log)) y x va L (orI x.next y.next) (orI x.log y.log) y.seq) := Lib.hid (HJ4.out.set 2 _ (by unfold orI; simp only [if_neg h0]; rfl))
      have pf : W4.cell? ⟨w.heap.size + 1 + 1 + 1, 2, none⟩ = some (.int .i64 y.log) := HJ4.out.out.cell 2
      have pz : W4.frozen? ⟨w.heap.size + 1 + 1 + 1, 2, none⟩ = false := HJ4.out.out.free 2
      clear h0
      go_wp2_with fail
      go_meet
      exact HQ.out
  case rest =>
  generalize wc = W5 at hcut ⊢
  clear wc
  have HJ5 := Lib.hid hcut
  clear hcut pe
  have pe : W5.cell? ⟨w.heap.size + 1, 4, none⟩ = some (.int .u64 (x.seq : Int)) := HJ5.out.bx.cell 4
  go_upto_if 91 with fail
  go_cut [] (fun wx => JS w wx y x va L (orI x.next y.next) (orI x.log y.log) (orN x.seq y.seq))
  case first =>
    by_cases h0 : x.seq = 0
    · have z0 : ((x.seq : Int) != 0) = false := by rw [bne_eq_false_iff_eq]; omega
      have hq : JS w W5 y x va L (orI x.next y.next) (orI x.log y.log) (orN x.seq y.seq) := by
        have := HJ5.out
        unfold orN
        simp only [if_pos h0]
        exact this
      have HQ := Lib.hid hq
      clear hq h0
      go_wp2_with fail
      go_meet
      exact HQ.out
    · have z0 : ((x.seq : Int) != 0) = true := by rw [bne_iff_ne]; omega
      have HQ : Hid (JS w (W5.setCell ⟨w.heap.size + 1 + 1 + 1, 3, none⟩ (.int .u64 (x.seq : Int))) y x va L (orI x.next y.next) (orI x.log y.log) (orN x.seq y.seq)) := Lib.hid (HJ5.out.set 3 _ (by unfold orN; simp only [if_neg h0]; rfl))
      have pf : W5.cell? ⟨w.heap.size + 1 + 1 + 1, 3, none⟩ = some (.int .u64 (y.seq : Int)) := HJ5.out.out.cell 3
      have pz : W5.frozen? ⟨w.heap.size + 1 + 1 + 1, 3, none⟩ = false := HJ5.out.out.free 3
      clear h0
      go_wp2_with fail
      go_meet
      exact HQ.out
  case rest =>
  generalize wc = W6 at hcut ⊢
  clear wc
  have HJ6 := Lib.hid hcut
  clear hcut pe
  obtain ⟨Av, cv, rfl, -, -, -⟩ := own_parts HJ6.out.add.own
  have HB6 := Lib.hid HJ6.out.out
  have HR6 := Lib.hid HJ6.out.res
  go_wp2_with (first | (refine wpList_load_row rfl _ _ rfl (w.heap.size + 1 + 1 + 1) rfl _ #[.slice Av L.length cv, .int .i64 (orI x.next y.next), .int .i64 (orI x.log y.log), .int .u64 ((orN x.seq y.seq) : Int)] (0, 0) _ HB6.out Try.underlying44 rfl (by kernel_rfl) ?_) | (refine wpList_store_row rfl _ _ _ rfl (w.heap.size + 1 + 1) #[.slice Av L.length cv, .int .i64 (orI x.next y.next), .int .i64 (orI x.log y.log), .int .u64 ((orN x.seq y.seq) : Int)] rfl rfl _ zeroV.toArray HR6.out (by kernel_rfl) rfl (by kernel_rfl) ?_))
  have hrz : Box (W6.setRow (w.heap.size + 1 + 1) #[.slice Av L.length cv, .int .i64 (orI x.next y.next), .int .i64 (orI x.log y.log), .int .u64 ((orN x.seq y.seq) : Int)]) (w.heap.size + 1 + 1) 44 [.slice Av L.length cv, .int .i64 (orI x.next y.next), .int .i64 (orI x.log y.log), .int .u64 ((orN x.seq y.seq) : Int)] := setRow_heap _ _ _ _ _ _ HR6.out
  refine bodyPost_ret (results_one rfl Try.underlying44 rfl (by kernel_rfl) _ rfl hrz) rfl ?_
  obtain ⟨g1, g3, g2⟩ := gave_of (cs := #[.slice Av L.length cv, .int .i64 (orI x.next y.next), .int .i64 (orI x.log y.log), .int .u64 ((orN x.seq y.seq) : Int)]) HJ6.out (orI_wf HXW.out.1 HYW.out.1) (orI_wf HXW.out.2.1 HYW.out.2.1) (by unfold orN; split; exact HYW.out.2.2; exact HXW.out.2.2)
  exact ⟨⟨Av, cv, L, (orI x.next y.next), (orI x.log y.log), (orN x.seq y.seq)⟩, rfl, by unfold Y.t; rw [HT3.out]; rfl, g1, g3, g2⟩
end Go.Proofs.Ythhmjjmjicmhdaa.Ve
