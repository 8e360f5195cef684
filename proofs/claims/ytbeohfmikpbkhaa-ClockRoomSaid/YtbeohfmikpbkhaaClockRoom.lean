/- ClockRoom: whatever is called, there never are more bytes than there is room, and what is pinned is never gone: the law answers true for all arguments. -/
import Derived.Test.YtbeohfmikpbkhaaCoT
import Derived.Test.YtbeohfmikpbkhaaCact
import Derived.Test.YtbeohfmikpbkhaaRows
import Derived.Deep.DeepCutAuto
import Derived.Deep.CutBlock
namespace Go.Proofs.Ytbeohfmikpbkhaa.clockRoom
set_option linter.unusedVariables false
set_option linter.unusedSimpArgs false
open Go.ChangeShapes Go.WideShapes Go.ChangeAt Go.RowKit Lift Go.Maps Ik Ck

theorem own : ownKnob Try.prog.godebug = none := by kernel_rfl

theorem wfn {j : Nat} (h : j ≤ 100) : wf64 (j : Int) := by
  show (Lit.int .i64 (j : Int)).wf = true
  exact WalkArith.wf_i64 (by omega)
def pinsV (l : List S) : List Value := (List.range 16).map fun x => vi (pinOf l ((x / 4 : Nat) : Int) ((x % 4 : Nat) : Int))
theorem pins_len (l : List S) : (pinsV l).length = 16 := by simp [pinsV]
theorem pins_at (l : List S) {P Q : Nat} (hP : P < 4) (hQ : Q < 4) : (pinsV l)[P * 4 + Q]? = some (.int .i64 (pinOf l (P : Int) (Q : Int) : Nat)) := by
  unfold pinsV
  rw [List.getElem?_map, List.getElem?_range (by omega)]
  rw [Option.map_some, show (P * 4 + Q) / 4 = P by omega, show (P * 4 + Q) % 4 = Q by omega]
theorem pins_nth (l : List S) {x : Nat} (hx : x < 16) : (pinsV l)[x / 4 * 4 + x % 4]? = some (.int .i64 (pinOf l ((x / 4 : Nat) : Int) ((x % 4 : Nat) : Int) : Nat)) := pins_at l (by omega) (by omega)
theorem pins_set {l l' : List S} {P Q v : Nat} (hP : P < 4) (hQ : Q < 4) (h : ∀ x y : Int, pinOf l' x y = if (P : Int) = x ∧ (Q : Int) = y then v else pinOf l x y) : (pinsV l).set (P * 4 + Q) (vi v) = pinsV l' := by
  apply List.ext_getElem?
  intro i
  by_cases hi : i < 16
  · by_cases he : P * 4 + Q = i
    · subst he
      rw [List.getElem?_set_self (by rw [pins_len]; omega), pins_at l' hP hQ, h, if_pos ⟨rfl, rfl⟩]
    · rw [List.getElem?_set_ne he]
      unfold pinsV
      rw [List.getElem?_map, List.getElem?_map, List.getElem?_range hi, Option.map_some, Option.map_some, h, if_neg]
      rintro ⟨h1, h2⟩
      omega
  · rw [List.getElem?_eq_none (by rw [List.length_set, pins_len]; omega), List.getElem?_eq_none (by rw [pins_len]; omega)]
theorem pins_same {l l' : List S} (h : ∀ x y : Int, pinOf l' x y = pinOf l x y) : pinsV l = pinsV l' := by
  unfold pinsV
  apply List.map_congr_left
  intro x _
  rw [h]
theorem pinOf_le (f a : Int) : ∀ l : List S, pinOf l f a ≤ pinned l
  | [] => Nat.le_refl _
  | x :: l => by
    have := pinOf_le f a l
    show (if here f a x then x.pins else 0) + pinOf l f a ≤ x.pins + pinned l
    split <;> omega
def sumTo (l : List S) (k : Nat) : Nat := ((List.range k).map fun x => pinOf l ((x / 4 : Nat) : Int) ((x % 4 : Nat) : Int)).sum
theorem sum_succ (l : List S) (k : Nat) : sumTo l (k + 1) = sumTo l k + pinOf l ((k / 4 : Nat) : Int) ((k % 4 : Nat) : Int) := by
  unfold sumTo
  rw [List.range_succ, List.map_append, List.sum_append]; simp
theorem sum_le (l : List S) : ∀ k, sumTo l k ≤ k * pinned l
  | 0 => by simp [sumTo]
  | k + 1 => by
    have := sum_le l k
    have h2 := pinOf_le ((k / 4 : Nat) : Int) ((k % 4 : Nat) : Int) l
    rw [sum_succ, Nat.succ_mul]
    omega
theorem sum_all {c : R} (h : Small c) : sumTo c.1 16 = pinned c.1 := (pinned_all h).symm
/-- The state ahead of each round. -/
def Pl (W : World) (g hp room : Nat) (j : Nat) (w : World) : Prop := ∃ r, Two W w g (· = hp) room r ∧ Box w hp 39 (pinsV r.1) ∧ Few j r ∧ Small r
theorem Pl.more {W w : World} {g hp room j k : Nat} (h : Pl W g hp room j w) (hk : j ≤ k) : Pl W g hp room k w := by
  obtain ⟨r, h1, h2, h3, h4⟩ := h
  exact ⟨r, h1, h2, h3.more hk, h4⟩
theorem Pl.below {W w w' : World} {g hp room j : Nat} (h : Pl W g hp room j w) (hb : Below w.heap.size w w') : Pl W g hp room j w' := by
  obtain ⟨r, h1, h2, h3, h4⟩ := h
  exact ⟨r, h1.below hb, h2.below hb h2.lt, h3, h4⟩
theorem pl_set {W w : World} {g hp room j P Q v : Nat} {l : List S} {r : R} {X : Nat → Prop} (h : Two W w g X room r) (hX : X hp) (hb : Box w hp 39 (pinsV l)) (hf : Few j r) (hs : Small r) (hP : P < 4) (hQ : Q < 4)
    (hx : ∀ x y : Int, pinOf r.1 x y = if (P : Int) = x ∧ (Q : Int) = y then v else pinOf l x y) {i : Int} (hi : i = (v : Int)) : Pl W g hp room j (w.setCell ⟨hp, P * 4 + Q, none⟩ (.int .i64 i)) := by
  subst hi
  refine ⟨r, (h.set (p := ⟨hp, P * 4 + Q, none⟩) hX _).fewer (fun k hk => by rw [hk]; exact hX), ?_, hf, hs⟩
  have := hb.set (P * 4 + Q) (.int .i64 (v : Int))
  rw [show (Value.int .i64 (v : Int)) = vi v from rfl, pins_set hP hQ hx] at this
  exact this
theorem pl_keep {W w : World} {g hp room j : Nat} {l : List S} {r : R} {X : Nat → Prop} (h : Two W w g X room r) (hX : X hp) (hb : Box w hp 39 (pinsV l)) (hf : Few j r) (hs : Small r) (hx : ∀ x y : Int, pinOf r.1 x y = pinOf l x y) : Pl W g hp room j w :=
  ⟨r, h.fewer fun k hk => by rw [hk]; exact hX, by rw [← pins_same hx]; exact hb, hf, hs⟩
set_option maxRecDepth 100000 in
set_option maxHeartbeats 3200000 in
theorem walk (n : Nat) (A : Option Addr) (c : Nat) (L : List Ac) (W : World) (hn : n ≤ 9223372036854775807) (hL : Acts W W.heap.size A c L) (h80 : L.length ≤ 80) :
    Calls Try.prog 4 #[.int .i64 (n : Int), .slice A L.length c] W (Yes W) := by
  have HL := Lib.hid hL
  have hlc := hL.len
  have hcm := hL.cap
  unfold maxLen at hcm
  have e1 : decide (80 < L.length) = false := decide_eq_false (by omega)
  have e1' : decide ((80 : Int) < (L.length : Int)) = false := decide_eq_false (by omega)
  have e2 : decide ((n : Int) < 0) = false := decide_eq_false (by omega)
  have hwn : wf64 (n : Int) := WalkArith.wf_i64 (by omega)
  clear hL
  go_enter Try.func4, Try.ntmps4
  go_wp2_with fail
  refine (alive_any _).mono ?_
  rintro e W1 ⟨rfl, hb1⟩
  have HN := Lib.hid (new_any (n : Int) hwn W1)
  rw [show roomO (n : Int) = n by unfold roomO; omega] at HN
  have HB1 := Lib.hid hb1
  clear hb1 hwn
  go_wp2_with fail
  refine HN.out.mono ?_
  rintro e W2 ⟨rfl, hc2, hb2⟩
  have HT : Hid (Ck.Own W W2 W1.heap.size (· = W1.heap.size) n ([], 0)) := Lib.hid (own_new rfl hc2 HB1.out hb2)
  clear hc2 hb2 HN e1 e1' e2
  generalize W1.heap.size = g at HT ⊢
  clear HB1
  go_wp2_with fail
  have HP0 : Hid (Pl W g W2.heap.size n 0 (W2.alloc (.cells (Array.replicate 16 (.int .i64 0)) 39))) := Lib.hid (by
    refine ⟨([], 0), ?_, Box.new W2 _ (pinsV []), few_new, small_new⟩
    obtain ⟨Y, h⟩ : ∃ Y, Ck.Own W W2 g Y n ([], 0) := ⟨_, HT.out⟩
    exact Two.more (Q := fun _ => False) ⟨Y, h, fun k hk => hk.elim⟩ (Joins.below_alloc1 W2 _) fun k hk => .inr (by subst hk; exact ⟨Nat.le_refl _, (Box.new W2 39 (pinsV [])).lt⟩))
  change Hid (Pl W g W2.heap.size n 0 (W2.alloc (.cells #[.int .i64 0, .int .i64 0, .int .i64 0, .int .i64 0, .int .i64 0, .int .i64 0, .int .i64 0, .int .i64 0, .int .i64 0, .int .i64 0, .int .i64 0, .int .i64 0, .int .i64 0, .int .i64 0, .int .i64 0, .int .i64 0] 39))) at HP0
  generalize (W2.alloc (Obj.cells _ _)) = W3 at HP0 ⊢
  generalize W2.heap.size = hp at HP0 ⊢
  clear HT W2
  go_loopw [8] (fun i wr => ∃ j : Nat, j ≤ L.length ∧ i = .int .i64 (j : Int) ∧ Hid (Pl W g hp n j wr)) (fun i _ => L.length + 1 - (intOf i).toNat)
  case atStart => exact ⟨0, Nat.zero_le _, rfl, HP0⟩
  case round =>
    obtain ⟨j, hj, rfl, ht⟩ := hrel
    clear HP0
    by_cases hlt : j < L.length
    · obtain ⟨d, hd⟩ : ∃ d, L[j]? = some d := ⟨_, List.getElem?_eq_getElem hlt⟩
      obtain ⟨ad, p, rfl, hpb, hpp, hrd⟩ := HL.out.reads hd
      have hok := HL.out.ok d (List.mem_of_getElem? hd)
      obtain ⟨r, h2, hbx, hfew, hsm⟩ := ht.out
      obtain ⟨x0, x1, x2, x3⟩ := hrd wr h2.be
      have HOK := Lib.hid hok
      have HT2 := Lib.hid h2
      have HBX := Lib.hid hbx
      have HFEW := Lib.hid hfew
      have HSM := Lib.hid hsm
      clear ht hd hrd hok h2 hbx hfew hsm hpb
      go_upto_region 10 with fail
      obtain ⟨FF, hF, eF⟩ := and3 d.file
      obtain ⟨P, hP, eP⟩ := and3 d.off
      have hb3 := Joins.below_alloc1 wr (Obj.cells #[.int .i64 d.way, .int .i64 d.file, .int .i64 d.off, .slice d.ba d.b.length d.bc] 30)
      have bxa : Box (wr.alloc (Obj.cells #[.int .i64 d.way, .int .i64 d.file, .int .i64 d.off, .slice d.ba d.b.length d.bc] 30)) wr.heap.size 30 d.cells := Box.new wr _ d.cells
      have HTA : Hid (Two W (wr.alloc (Obj.cells #[.int .i64 d.way, .int .i64 d.file, .int .i64 d.off, .slice d.ba d.b.length d.bc] 30)) g (fun k => k = hp ∨ k = wr.heap.size) n r) := Lib.hid (HT2.out.more hb3 fun k hk => hk.elim .inl fun h => .inr ⟨h ▸ Nat.le_refl _, by rw [h]; exact bxa.lt⟩)
      have HBA : Hid (Box (wr.alloc (Obj.cells #[.int .i64 d.way, .int .i64 d.file, .int .i64 d.off, .slice d.ba d.b.length d.bc] 30)) hp 39 (pinsV r.1)) := Lib.hid (HBX.out.alloc _)
      have HBD := Lib.hid bxa
      clear bxa hb3 x0 x1 x2 x3 HT2 HBX
      generalize (wr.alloc (Obj.cells _ _)) = wa at HTA HBA HBD ⊢
      generalize wr.heap.size = ha at HTA HBD ⊢
      clear wr
      have y0 : wa.cell? ⟨ha, 0, none⟩ = some (.int .i64 d.way) := HBD.out.cell 0
      have y1 : wa.cell? ⟨ha, 1, none⟩ = some (.int .i64 d.file) := HBD.out.cell 1
      have y2 : wa.cell? ⟨ha, 2, none⟩ = some (.int .i64 d.off) := HBD.out.cell 2
      have y3 : wa.cell? ⟨ha, 3, none⟩ = some (.slice d.ba d.b.length d.bc) := HBD.out.cell 3
      have hdl := Nat.le_trans HOK.out.bc HOK.out.bm
      unfold maxLen at hdl
      by_cases h100 : 100 < d.b.length
      · have b1 : decide (100 < d.b.length) = true := decide_eq_true h100
        have b2 : decide ((100 : Int) < (d.b.length : Int)) = true := decide_eq_true (by omega)
        go_wp2_with fail
        go_ret
        exact ⟨rfl, HTA.out.be⟩
      · have b1 : decide (100 < d.b.length) = false := decide_eq_false h100
        have b2 : decide ((100 : Int) < (d.b.length : Int)) = false := decide_eq_false (by omega)
        have HDL := Lib.hid (show d.b.length ≤ 100 by omega)
        clear h100
        obtain ⟨v, hv⟩ : ∃ v, v = pinOf r.1 (FF : Int) (P : Int) := ⟨_, rfl⟩
        have hv80 : v ≤ 80 := by have := pinOf_le (FF : Int) (P : Int) r.1; have := HFEW.out.pins; omega
        have HV := Lib.hid hv
        have hP80 : pinned r.1 ≤ 80 := by have := HFEW.out.pins; omega
        have hS80 : r.1.length ≤ 80 := by have := HFEW.out.slots; omega
        have HPS := Lib.hid hP80
        have HSS := Lib.hid hS80
        clear hv hP80 hS80
        have wF : wf64 (FF : Int) := wfn (by omega)
        have wP : wf64 (P : Int) := wfn (by omega)
        have HWF := Lib.hid wF
        have HWP := Lib.hid wP
        clear wF wP
        have hF4 : (FF : Int) < 4 := by omega
        have hP4 : (P : Int) < 4 := by omega
        have HCE : Hid (∀ w, Stay (fun k => k = hp ∨ k = ha) wa w → w.cell? ⟨hp, FF * 4 + P, none⟩ = some (.int .i64 (v : Int)) ∧ w.frozen? ⟨hp, FF * 4 + P, none⟩ = false ∧ Box w hp 39 (pinsV r.1)) := Lib.hid fun w hs => by
          have hb := HBA.out.at_block (hs hp (.inl rfl))
          exact ⟨by rw [hb.cell, HV.out]; exact pins_at r.1 hF hP, hb.free _, hb⟩
        go_upto_block 2 with fail
        go_cut [] (fun wx => Pl W g hp n (j + 1) wx)
        case first =>
          by_cases hw0 : d.way = 0
          · have e0 : (d.way == 0) = true := by rw [beq_iff_eq]; exact hw0
            have HG := Lib.hid (two_get HTA.out (FF : Int) (P : Int) HWF.out HWP.out (by have := HPS.out; omega))
            clear hw0
            go_wp2_with fail
            refine HG.out.mono ?_
            rintro e W5 ⟨A5, c5, bs5, -, rfl, -, ht5, hst5⟩
            have HT5 := Lib.hid ht5
            obtain ⟨z1, z2, z3⟩ := HCE.out W5 hst5
            have HB5 := Lib.hid z3
            clear ht5 hst5 z3 HG
            rcases hsm : (getC r (FF : Int) (P : Int)).2.isSome
            · have hpz := (get_pins HTA.out.inv (FF : Int) (P : Int) 0 0).2 hsm
              rw [← HV.out] at hpz
              obtain ⟨rfl, hrr⟩ := hpz
              have HRR := Lib.hid hrr
              clear hrr hsm
              go_wp2_with fail
              go_meet
              exact pl_keep HT5.out (.inl rfl) HB5.out (by rw [HRR.out]; exact HFEW.out.more (by omega)) (by rw [HRR.out]; exact HSM.out) (fun x y => by rw [HRR.out])
            · have HPI := Lib.hid fun x y => (get_pins HTA.out.inv (FF : Int) (P : Int) x y).1 hsm
              clear hsm
              go_upto_region 18 with fail
              go_still_tail 8, (by kernel_rfl)
              change wpList _ _ _ _ _ W5.drew
              have z3 : W5.drew.cell? ⟨hp, FF * 4 + P, none⟩ = some (.int .i64 (v : Int)) := z1
              have z4 : W5.drew.frozen? ⟨hp, FF * 4 + P, none⟩ = false := z2
              have HT6 := Lib.hid (HT5.out.below (Below.refl _ W5).drew)
              have HB6 : Hid (Box W5.drew hp 39 (pinsV r.1)) := Lib.hid HB5.out
              clear z1 z2 HT5 HB5
              generalize W5.drew = w6 at HT6 HB6 z3 z4 ⊢
              go_wp2_with fail
              go_meet
              exact pl_set HT6.out (.inl rfl) HB6.out (few_get HFEW.out _ _) (small_get HSM.out _ _) hF hP (v := v + 1) (fun x y => by
                rw [HPI.out]
                by_cases hxy : (FF : Int) = x ∧ (P : Int) = y
                · rw [if_pos hxy, if_pos hxy, HV.out, hxy.1, hxy.2]
                · rw [if_neg hxy, if_neg hxy]; rfl) (by push_cast; rfl)
          · have e0 : (d.way == 0) = false := by rw [beq_eq_false_iff_ne]; exact hw0
            by_cases hw1 : d.way = 1
            · have e1 : (d.way == 1) = true := by rw [beq_iff_eq]; exact hw1
              have HG := Lib.hid (two_put HTA.out (FF : Int) (P : Int) d.ba d.bc d.b HWF.out HWP.out (HOK.out.bl.below HTA.out.be) HOK.out.bn HDL.out HOK.out.b8 (by have := HPS.out; omega) (by have := HSS.out; omega))
              clear hw0 hw1
              go_wp2_with fail
              refine HG.out.mono ?_
              rintro e W5 ⟨rfl, ht5, hst5⟩
              have HT5 := Lib.hid ht5
              obtain ⟨z1, z2, z3⟩ := HCE.out W5 hst5
              have HB5 := Lib.hid z3
              clear ht5 hst5 z3 HG
              rcases hsm : (putC n r (FF : Int) (P : Int) d.b).2
              · have hpz := (put_pins HTA.out.inv (FF : Int) (P : Int) d.b 0 0).2 hsm
                have HPI := Lib.hid fun x y => ((put_pins HTA.out.inv (FF : Int) (P : Int) d.b x y).2 hsm).2
                rw [← HV.out] at hpz
                obtain ⟨rfl, -⟩ := hpz
                clear hsm
                go_wp2_with fail
                go_meet
                exact pl_keep HT5.out (.inl rfl) HB5.out (few_put HFEW.out n _ _ _) (small_put HSM.out n _ _ _ ⟨by omega, by omega, by omega, by omega⟩) HPI.out
              · have HPI := Lib.hid fun x y => (put_pins HTA.out.inv (FF : Int) (P : Int) d.b x y).1 hsm
                clear hsm
                go_upto_region 24 with fail
                go_still_tail 8, (by kernel_rfl)
                change wpList _ _ _ _ _ W5.drew
                have z3 : W5.drew.cell? ⟨hp, FF * 4 + P, none⟩ = some (.int .i64 (v : Int)) := z1
                have z4 : W5.drew.frozen? ⟨hp, FF * 4 + P, none⟩ = false := z2
                have HT6 := Lib.hid (HT5.out.below (Below.refl _ W5).drew)
                have HB6 : Hid (Box W5.drew hp 39 (pinsV r.1)) := Lib.hid HB5.out
                clear z1 z2 HT5 HB5
                generalize W5.drew = w6 at HT6 HB6 z3 z4 ⊢
                go_wp2_with fail
                go_meet
                exact pl_set HT6.out (.inl rfl) HB6.out (few_put HFEW.out n _ _ _) (small_put HSM.out n _ _ _ ⟨by omega, by omega, by omega, by omega⟩) hF hP (v := v + 1) (fun x y => by
                  rw [HPI.out]
                  by_cases hxy : (FF : Int) = x ∧ (P : Int) = y
                  · rw [if_pos hxy, if_pos hxy, HV.out, hxy.1, hxy.2]
                  · rw [if_neg hxy, if_neg hxy]; rfl) (by push_cast; rfl)
            · have e1 : (d.way == 1) = false := by rw [beq_eq_false_iff_ne]; exact hw1
              by_cases hw2 : d.way = 2
              · have e2 : (d.way == 2) = true := by rw [beq_iff_eq]; exact hw2
                clear hw0 hw1 hw2
                by_cases hv0 : v = 0
                · subst hv0
                  go_upto_region 28 with fail
                  refine wp_region_held_drew (S := fun w' => Hid (Stay (fun k => k = hp ∨ k = ha) wa w')) (by kernel_rfl) (Lib.hid fun k _ => rfl) (fun hS => ?_)
                  refine wpAnyH_take (i := 0) (v := ?_) rfl (by kernel_rfl) (by kernel_rfl) (by kernel_rfl) (fun _ _ _ h => h) (Or.inl ⟨by rfl, ?_⟩) hS ?_
                  rotate_left
                  · intro w hw
                    go_simp
                    try with_reducible rfl
                  try simp only [Act.put, List.getElem_toArray, List.getElem_cons_succ, List.getElem_cons_zero, List.setIfInBounds_toArray, List.set_cons_zero, List.set_cons_succ]
                  refine wpAnyH_take (i := 1) (v := ?_) rfl (by kernel_rfl) (by kernel_rfl) (by kernel_rfl) (fun _ _ _ h => h) (Or.inl ⟨by rfl, ?_⟩) hS ?_
                  rotate_left
                  · intro w hw
                    go_simp
                    try with_reducible rfl
                  try simp only [Act.put, List.getElem_toArray, List.getElem_cons_succ, List.getElem_cons_zero, List.setIfInBounds_toArray, List.set_cons_zero, List.set_cons_succ]
                  refine wpAnyH_take (i := 2) (v := ?_) rfl (by kernel_rfl) (by kernel_rfl) (by kernel_rfl) (fun _ _ _ h => h) (Or.inl ⟨by rfl, ?_⟩) hS ?_
                  rotate_left
                  · intro w hw
                    go_simp
                    try with_reducible rfl
                  try simp only [Act.put, List.getElem_toArray, List.getElem_cons_succ, List.getElem_cons_zero, List.setIfInBounds_toArray, List.set_cons_zero, List.set_cons_succ]
                  refine wpAnyH_take (i := 4) (v := ?_) rfl (by kernel_rfl) (by kernel_rfl) (by kernel_rfl) (fun _ _ _ h => h) (Or.inl ⟨by rfl, ?_⟩) hS ?_
                  rotate_left
                  · intro w hw
                    go_simp
                    try with_reducible rfl
                  try simp only [Act.put, List.getElem_toArray, List.getElem_cons_succ, List.getElem_cons_zero, List.setIfInBounds_toArray, List.set_cons_zero, List.set_cons_succ]
                  refine wpAnyH_take (i := 5) (v := ?_) rfl (by kernel_rfl) (by kernel_rfl) (by kernel_rfl) (fun _ _ _ h => h) (Or.inl ⟨by rfl, ?_⟩) hS ?_
                  rotate_left
                  · intro w hw
                    go_simp
                    try with_reducible rfl
                  try simp only [Act.put, List.getElem_toArray, List.getElem_cons_succ, List.getElem_cons_zero, List.setIfInBounds_toArray, List.set_cons_zero, List.set_cons_succ]
                  refine wpAnyH_take (i := 6) (v := ?_) rfl (by kernel_rfl) (by kernel_rfl) (by kernel_rfl) (fun _ _ _ h => h) (Or.inl ⟨by rfl, ?_⟩) hS ?_
                  rotate_left
                  · intro w hw
                    go_simp
                    try with_reducible rfl
                  try simp only [Act.put, List.getElem_toArray, List.getElem_cons_succ, List.getElem_cons_zero, List.setIfInBounds_toArray, List.set_cons_zero, List.set_cons_succ]
                  refine wpAnyH_take (i := 7) (v := ?_) rfl (by kernel_rfl) (by kernel_rfl) (by kernel_rfl) (fun _ _ _ h => h) (Or.inl ⟨by rfl, ?_⟩) hS ?_
                  rotate_left
                  · intro w hw
                    go_simp
                    try with_reducible rfl
                  try simp only [Act.put, List.getElem_toArray, List.getElem_cons_succ, List.getElem_cons_zero, List.setIfInBounds_toArray, List.set_cons_zero, List.set_cons_succ]
                  refine wpAnyH_take (i := 8) (v := ?_) rfl (by kernel_rfl) (by kernel_rfl) (by kernel_rfl) (fun _ _ _ h => h) (Or.inl ⟨by rfl, ?_⟩) hS ?_
                  rotate_left
                  · intro w hw
                    obtain ⟨z1, z2, z3⟩ := HCE.out w hw.out
                    go_simp
                    try with_reducible rfl
                  try simp only [Act.put, List.getElem_toArray, List.getElem_cons_succ, List.getElem_cons_zero, List.setIfInBounds_toArray, List.set_cons_zero, List.set_cons_succ]
                  refine wpAnyH_take (i := 9) (v := ?_) rfl (by kernel_rfl) (by kernel_rfl) (by kernel_rfl) (fun _ _ _ h => h) (Or.inl ⟨by rfl, ?_⟩) hS ?_
                  rotate_left
                  · intro w hw
                    go_simp
                    try with_reducible rfl
                  try simp only [Act.put, List.getElem_toArray, List.getElem_cons_succ, List.getElem_cons_zero, List.setIfInBounds_toArray, List.set_cons_zero, List.set_cons_succ]
                  have HTD := Lib.hid (HTA.out.below (Below.refl _ wa).drew)
                  have HRA : Hid ((relC r (FF : Int) (P : Int)).2 = false) := Lib.hid (by rw [(rel_pins HTA.out.inv (FF : Int) (P : Int) 0 0).1, ← HV.out]; exact decide_eq_false (by omega))
                  have HPI : Hid (∀ x y, pinOf (relC r (FF : Int) (P : Int)).1.1 x y = pinOf r.1 x y - (if (FF : Int) = x ∧ (P : Int) = y ∧ 0 < pinOf r.1 (FF : Int) (P : Int) then 1 else 0)) := Lib.hid fun x y => (rel_pins HTA.out.inv (FF : Int) (P : Int) x y).2
                  rw [← HV.out] at HPI
                  have HG := Lib.hid (two_rel HTD.out (FF : Int) (P : Int) HWF.out HWP.out)
                  rw [HRA.out] at HG
                  refine wpAnyH_ready (rs := [3]) (by kernel_rfl) (by simp) ?_
                  refine (AllReadyH.cons rfl (fun K hK => ?_) AllReadyH.nil)
                  go_simp
                  refine HG.out.mono ?_
                  rintro e W5 ⟨rfl, ht5, hst5⟩
                  have hst6 : Stay (fun k => k = hp ∨ k = ha) wa W5 := fun k hk => hst5 k hk
                  have HT5 := Lib.hid ht5
                  obtain ⟨z1, z2, z3⟩ := HCE.out W5 hst6
                  have HB5 := Lib.hid z3
                  refine hK.out _ _ (Lib.hid hst6) (fun hS => ?_)
                  clear hK K ht5 hst5 hst6 z3 HG HTD
                  try simp only [Act.put, List.getElem_toArray, List.getElem_cons_succ, List.getElem_cons_zero, List.setIfInBounds_toArray, List.set_cons_zero, List.set_cons_succ]
                  refine wpAnyH_take (i := 10) (v := ?_) rfl (by kernel_rfl) (by kernel_rfl) (by kernel_rfl) (fun _ _ _ h => h) (Or.inl ⟨by rfl, ?_⟩) hS ?_
                  rotate_left
                  · intro w hw
                    go_simp
                    try with_reducible rfl
                  try simp only [Act.put, List.getElem_toArray, List.getElem_cons_succ, List.getElem_cons_zero, List.setIfInBounds_toArray, List.set_cons_zero, List.set_cons_succ]
                  refine wpAnyH_done (by kernel_rfl) ?_ _
                  go_wp2_with fail
                  go_meet
                  exact pl_keep HT5.out (.inl rfl) HB5.out ((few_rel HFEW.out _ _).more (by omega)) (small_rel HSM.out _ _) (fun x y => by rw [HPI.out, if_neg (fun h => Nat.lt_irrefl _ h.2.2)]; rfl)
                · have d7 : decide (0 < v) = true := decide_eq_true (by omega)
                  have d8 : decide ((0 : Int) < (v : Int)) = true := decide_eq_true (by omega)
                  have d9 : (0 : Int) < (v : Int) := by omega
                  go_upto_region 28 with fail
                  refine wp_region_held_drew (S := fun w' => Hid (Stay (fun k => k = hp ∨ k = ha) wa w')) (by kernel_rfl) (Lib.hid fun k _ => rfl) (fun hS => ?_)
                  refine wpAnyH_take (i := 0) (v := ?_) rfl (by kernel_rfl) (by kernel_rfl) (by kernel_rfl) (fun _ _ _ h => h) (Or.inl ⟨by rfl, ?_⟩) hS ?_
                  rotate_left
                  · intro w hw
                    go_simp
                    try with_reducible rfl
                  try simp only [Act.put, List.getElem_toArray, List.getElem_cons_succ, List.getElem_cons_zero, List.setIfInBounds_toArray, List.set_cons_zero, List.set_cons_succ]
                  refine wpAnyH_take (i := 1) (v := ?_) rfl (by kernel_rfl) (by kernel_rfl) (by kernel_rfl) (fun _ _ _ h => h) (Or.inl ⟨by rfl, ?_⟩) hS ?_
                  rotate_left
                  · intro w hw
                    go_simp
                    try with_reducible rfl
                  try simp only [Act.put, List.getElem_toArray, List.getElem_cons_succ, List.getElem_cons_zero, List.setIfInBounds_toArray, List.set_cons_zero, List.set_cons_succ]
                  refine wpAnyH_take (i := 2) (v := ?_) rfl (by kernel_rfl) (by kernel_rfl) (by kernel_rfl) (fun _ _ _ h => h) (Or.inl ⟨by rfl, ?_⟩) hS ?_
                  rotate_left
                  · intro w hw
                    go_simp
                    try with_reducible rfl
                  try simp only [Act.put, List.getElem_toArray, List.getElem_cons_succ, List.getElem_cons_zero, List.setIfInBounds_toArray, List.set_cons_zero, List.set_cons_succ]
                  refine wpAnyH_take (i := 4) (v := ?_) rfl (by kernel_rfl) (by kernel_rfl) (by kernel_rfl) (fun _ _ _ h => h) (Or.inl ⟨by rfl, ?_⟩) hS ?_
                  rotate_left
                  · intro w hw
                    go_simp
                    try with_reducible rfl
                  try simp only [Act.put, List.getElem_toArray, List.getElem_cons_succ, List.getElem_cons_zero, List.setIfInBounds_toArray, List.set_cons_zero, List.set_cons_succ]
                  refine wpAnyH_take (i := 5) (v := ?_) rfl (by kernel_rfl) (by kernel_rfl) (by kernel_rfl) (fun _ _ _ h => h) (Or.inl ⟨by rfl, ?_⟩) hS ?_
                  rotate_left
                  · intro w hw
                    go_simp
                    try with_reducible rfl
                  try simp only [Act.put, List.getElem_toArray, List.getElem_cons_succ, List.getElem_cons_zero, List.setIfInBounds_toArray, List.set_cons_zero, List.set_cons_succ]
                  refine wpAnyH_take (i := 6) (v := ?_) rfl (by kernel_rfl) (by kernel_rfl) (by kernel_rfl) (fun _ _ _ h => h) (Or.inl ⟨by rfl, ?_⟩) hS ?_
                  rotate_left
                  · intro w hw
                    go_simp
                    try with_reducible rfl
                  try simp only [Act.put, List.getElem_toArray, List.getElem_cons_succ, List.getElem_cons_zero, List.setIfInBounds_toArray, List.set_cons_zero, List.set_cons_succ]
                  refine wpAnyH_take (i := 7) (v := ?_) rfl (by kernel_rfl) (by kernel_rfl) (by kernel_rfl) (fun _ _ _ h => h) (Or.inl ⟨by rfl, ?_⟩) hS ?_
                  rotate_left
                  · intro w hw
                    go_simp
                    try with_reducible rfl
                  try simp only [Act.put, List.getElem_toArray, List.getElem_cons_succ, List.getElem_cons_zero, List.setIfInBounds_toArray, List.set_cons_zero, List.set_cons_succ]
                  refine wpAnyH_take (i := 8) (v := ?_) rfl (by kernel_rfl) (by kernel_rfl) (by kernel_rfl) (fun _ _ _ h => h) (Or.inl ⟨by rfl, ?_⟩) hS ?_
                  rotate_left
                  · intro w hw
                    obtain ⟨z1, z2, z3⟩ := HCE.out w hw.out
                    go_simp
                    try with_reducible rfl
                  try simp only [Act.put, List.getElem_toArray, List.getElem_cons_succ, List.getElem_cons_zero, List.setIfInBounds_toArray, List.set_cons_zero, List.set_cons_succ]
                  refine wpAnyH_take (i := 9) (v := ?_) rfl (by kernel_rfl) (by kernel_rfl) (by kernel_rfl) (fun _ _ _ h => h) (Or.inl ⟨by rfl, ?_⟩) hS ?_
                  rotate_left
                  · intro w hw
                    go_simp
                    try with_reducible rfl
                  try simp only [Act.put, List.getElem_toArray, List.getElem_cons_succ, List.getElem_cons_zero, List.setIfInBounds_toArray, List.set_cons_zero, List.set_cons_succ]
                  have HTD := Lib.hid (HTA.out.below (Below.refl _ wa).drew)
                  have HRA : Hid ((relC r (FF : Int) (P : Int)).2 = true) := Lib.hid (by rw [(rel_pins HTA.out.inv (FF : Int) (P : Int) 0 0).1, ← HV.out]; exact decide_eq_true (by omega))
                  have HPI : Hid (∀ x y, pinOf (relC r (FF : Int) (P : Int)).1.1 x y = pinOf r.1 x y - (if (FF : Int) = x ∧ (P : Int) = y ∧ 0 < pinOf r.1 (FF : Int) (P : Int) then 1 else 0)) := Lib.hid fun x y => (rel_pins HTA.out.inv (FF : Int) (P : Int) x y).2
                  rw [← HV.out] at HPI
                  have HG := Lib.hid (two_rel HTD.out (FF : Int) (P : Int) HWF.out HWP.out)
                  rw [HRA.out] at HG
                  refine wpAnyH_ready (rs := [3]) (by kernel_rfl) (by simp) ?_
                  refine (AllReadyH.cons rfl (fun K hK => ?_) AllReadyH.nil)
                  go_simp
                  refine HG.out.mono ?_
                  rintro e W5 ⟨rfl, ht5, hst5⟩
                  have hst6 : Stay (fun k => k = hp ∨ k = ha) wa W5 := fun k hk => hst5 k hk
                  have HT5 := Lib.hid ht5
                  obtain ⟨z1, z2, z3⟩ := HCE.out W5 hst6
                  have HB5 := Lib.hid z3
                  refine hK.out _ _ (Lib.hid hst6) (fun hS => ?_)
                  clear hK K ht5 hst5 hst6 z3 HG HTD
                  try simp only [Act.put, List.getElem_toArray, List.getElem_cons_succ, List.getElem_cons_zero, List.setIfInBounds_toArray, List.set_cons_zero, List.set_cons_succ]
                  refine wpAnyH_take (i := 10) (v := ?_) rfl (by kernel_rfl) (by kernel_rfl) (by kernel_rfl) (fun _ _ _ h => h) (Or.inl ⟨by rfl, ?_⟩) hS ?_
                  rotate_left
                  · intro w hw
                    go_simp
                    try with_reducible rfl
                  try simp only [Act.put, List.getElem_toArray, List.getElem_cons_succ, List.getElem_cons_zero, List.setIfInBounds_toArray, List.set_cons_zero, List.set_cons_succ]
                  refine wpAnyH_done (by kernel_rfl) ?_ _
                  go_upto_region 31 with fail
                  go_still_tail 8, (by kernel_rfl)
                  change wpList _ _ _ _ _ W5.drew
                  have z3 : W5.drew.cell? ⟨hp, FF * 4 + P, none⟩ = some (.int .i64 (v : Int)) := z1
                  have z4 : W5.drew.frozen? ⟨hp, FF * 4 + P, none⟩ = false := z2
                  have HT6 := Lib.hid (HT5.out.below (Below.refl _ W5).drew)
                  have HB6 : Hid (Box W5.drew hp 39 (pinsV r.1)) := Lib.hid HB5.out
                  clear z1 z2 HT5 HB5
                  generalize W5.drew = w6 at HT6 HB6 z3 z4 ⊢
                  go_wp2_with fail
                  go_meet
                  exact pl_set HT6.out (.inl rfl) HB6.out ((few_rel HFEW.out _ _).more (by omega)) (small_rel HSM.out _ _) hF hP (v := v - 1) (fun x y => by
                    rw [HPI.out]
                    by_cases hxy : (FF : Int) = x ∧ (P : Int) = y
                    · rw [if_pos ⟨hxy.1, hxy.2, by omega⟩, if_pos hxy, HV.out, hxy.1, hxy.2]
                    · rw [if_neg (fun h => hxy ⟨h.1, h.2.1⟩), if_neg hxy]; rfl) (by omega)
              · have e2 : (d.way == 2) = false := by rw [beq_eq_false_iff_ne]; exact hw2
                by_cases hw3 : d.way = 3
                · have e3 : (d.way == 3) = true := by rw [beq_iff_eq]; exact hw3
                  have HG := Lib.hid (two_drop HTA.out (FF : Int))
                  clear hw0 hw1 hw2 hw3
                  go_wp2_with fail
                  refine HG.out.mono ?_
                  rintro e W5 ⟨rfl, ht5, hst5⟩
                  have HT5 := Lib.hid ht5
                  obtain ⟨z1, z2, z3⟩ := HCE.out W5 hst5
                  have HB5 := Lib.hid z3
                  clear ht5 hst5 z3 HG z1 z2
                  go_wp2_with fail
                  go_meet
                  exact pl_keep HT5.out (.inl rfl) HB5.out ((few_drop HFEW.out _).more (by omega)) (small_drop HSM.out _) (drop_pins r _)
                · have e3 : (d.way == 3) = false := by rw [beq_eq_false_iff_ne]; exact hw3
                  clear hw0 hw1 hw2 hw3
                  go_wp2_with fail
                  go_meet
                  exact pl_keep HTA.out (.inl rfl) HBA.out (HFEW.out.more (by omega)) HSM.out (fun x y => rfl)
        case rest =>
          generalize wc = W5 at hcut ⊢
          clear wc
          obtain ⟨r1, k1, k2, k3, k4⟩ := id hcut
          have HCU := Lib.hid hcut
          have HT1 := Lib.hid k1
          have HB1 := Lib.hid k2
          have HU := Lib.hid (two_used k1)
          have HPN := Lib.hid (two_pins k1)
          have hus : used r1.1 ≤ n := k1.inv.room
          have d5 : decide (n < used r1.1) = false := decide_eq_false (by omega)
          have d6 : decide ((n : Int) < (used r1.1 : Nat)) = false := decide_eq_false (by omega)
          have HSUM := Lib.hid (sum_all k4)
          have HPB := Lib.hid (show pinned r1.1 ≤ 81 by have := k3.pins; omega)
          clear hcut k1 k2 k3 k4 HTA HBA HBD HCE HV HFEW HSM y0 y1 y2 y3
          go_upto_block 3 with fail
          go_cut [15] (fun nn wx => nn = .int .i64 ((sumTo r1.1 16 : Nat) : Int) ∧ wx = W5)
          case first =>
            go_wp2_with fail
            go_loopw [15, 16] (fun nn i w4 => ∃ k : Nat, k ≤ 16 ∧ nn = .int .i64 ((sumTo r1.1 k : Nat) : Int) ∧ i = .int .i64 (k : Int) ∧ w4 = W5) (fun _ i _ => 16 + 1 - (intOf i).toNat)
            case atStart => exact ⟨0, by omega, rfl, rfl, rfl⟩
            case round =>
              obtain ⟨k, hk, rfl, rfl, rfl⟩ := hrel
              have hsl := sum_le r1.1 k
              have hpb := HPB.out
              have hs2 : sumTo r1.1 k ≤ 1296 := Nat.le_trans hsl (Nat.le_trans (Nat.mul_le_mul hk hpb) (by decide))
              clear hsl hpb
              by_cases hkk : k < 16
              · have hc := (HB1.out.cell _).trans (pins_nth r1.1 hkk)
                have hs3 := sum_succ r1.1 k
                have hpo := pinOf_le ((k / 4 : Nat) : Int) ((k % 4 : Nat) : Int) r1.1
                have hpb := HPB.out
                obtain ⟨q, hq⟩ : ∃ q, q = k / 4 := ⟨_, rfl⟩
                obtain ⟨m, hm⟩ : ∃ m, m = k % 4 := ⟨_, rfl⟩
                rw [← hq, ← hm] at hc hs3 hpo
                generalize pinOf r1.1 (q : Int) (m : Int) = pv at hc hs3 hpo
                have t1 : (k : Int).tdiv 4 = (q : Int) := by rw [hq]; rfl
                have t2 : (k : Int).tmod 4 = (m : Int) := by rw [hm]; rfl
                have t3 : (k : Int) / 4 = (q : Int) := by omega
                have t4 : (k : Int) % 4 = (m : Int) := by omega
                have hq4 : (q : Int) < 4 := by omega
                have hm4 : (m : Int) < 4 := by omega
                have hpv : pv ≤ 81 := by omega
                have HS3 := Lib.hid hs3
                clear hq hm hpb hpo hs3
                go_wp2_with fail
                go_roundw
                case rel => exact ⟨k + 1, by omega, by rw [HS3.out]; go_num, by go_num, trivial⟩
                case measure => simp [intOf]; omega
              · obtain rfl : k = 16 := by omega
                go_wp2_with fail
                go_meet
                exact ⟨rfl, rfl⟩
          case rest =>
            obtain ⟨rfl, hw⟩ := hcut
            rw [hw]
            clear hw
            rw [HSUM.out]
            go_wp2_with fail
            refine HU.out.mono ?_
            rintro e w' ⟨rfl, rfl⟩
            have hp81 := HPB.out
            generalize pinned r1.1 = pn at HPN hp81 ⊢
            go_wp2_with fail
            refine HPN.out.mono ?_
            rintro e W6 ⟨rfl, hb6⟩
            have HC6 := Lib.hid (HCU.out.below hb6)
            clear hb6
            go_wp2_with fail
            go_roundw
            case rel => exact ⟨j + 1, by omega, by go_num, HC6⟩
            case measure => simp [intOf]; omega
    · obtain rfl : j = L.length := by omega
      obtain ⟨r, h2, -⟩ := ht.out
      have HB := Lib.hid h2.be
      clear h2
      go_wp2_with fail
      go_ret
      exact ⟨rfl, HB.out⟩

set_option maxRecDepth 100000 in
set_option maxHeartbeats 800000 in
theorem walk_no (a : Int) (A : Option Addr) (n c : Nat) (W : World) (h : ¬ (n ≤ 80 ∧ 0 ≤ a)) (hn : n ≤ c) (hm : c ≤ maxLen) :
    Calls Try.prog 4 #[.int .i64 a, .slice A n c] W (Yes W) := by
  unfold maxLen at hm
  go_enter Try.func4, Try.ntmps4
  go_wp2_with fail
  refine (alive_any _).mono ?_
  rintro e W1 ⟨rfl, hb1'⟩
  have HB1 := Lib.hid hb1'
  clear hb1'
  by_cases h0 : 80 < n
  · have e0 : decide (80 < n) = true := decide_eq_true h0
    have e0' : (80 : Int) < (n : Int) := by omega
    clear h
    go_wp2_with fail
    go_ret
    exact ⟨rfl, HB1.out⟩
  · have e0 : decide (80 < n) = false := decide_eq_false h0
    have e0' : decide ((80 : Int) < (n : Int)) = false := decide_eq_false (by omega)
    have h1 : a < 0 := by omega
    clear h
    go_wp2_with fail
    go_ret
    exact ⟨rfl, HB1.out⟩

set_option maxRecDepth 100000 in
theorem lifted (os : Os) (started : os.Started) (H : Type) (enc : TypeId × Value → H) :
    ReturnsInHanded {} Try.checked os 4 .any (Rows.clockRoomSpec.pre6 enc Try.prog Try.f4 Rows.clockRoomRow.domain false) (Rows.clockRoomSpec.post enc Try.prog Try.f4 false true false false) := by
  refine lift_true (C := Try.checked) own started (by kernel_rfl) Try.func4
    (ChangeSpec.witness6 (enc := enc) (C := Try.checked) false ⟨#[], #[.int .i64 0, .slice none 0 0], []⟩ 8 (by kernel_rfl) (by kernel_rfl) (by kernel_rfl) (by kernel_rfl))
    (by kernel_rfl) (by kernel_rfl) (by kernel_rfl) Try.underlying4 rfl ?_ ?_
  · intro ds hds
    match ds, hds with
    | [d1, d2], _ => exact ⟨rfl, rfl, rfl⟩
  · intro W base args ds p hval0 hA0 hlt _
    have hval : ∀ (j : Nat) t v, Try.f4.params[j]? = some t → args[j]? = some v → Value.okWide Try.prog W .any base t v := hval0
    have hA : DataW.TrodAll enc Try.prog W 0 (fun _ => true) true Try.f4.params.toList args.toList ds p := hA0
    rw [Try.params4] at hA hval
    obtain ⟨v0, vs0, d0, ds0, p0, q0, hargs, rfl, rfl, h0, r0⟩ := trodAll_cons hA
    obtain ⟨v1, vs1, d1, ds1, p1, q1, rfl, rfl, rfl, h1, r1⟩ := trodAll_cons r0
    obtain ⟨rfl, rfl, rfl⟩ := trodAll_nil r1
    obtain rfl : args = #[v0, v1] := by cases args; simp_all
    obtain ⟨a0, rfl, rfl, rfl, w0⟩ := open_int Try.underlying3 (hval 0 _ v0 rfl rfl) h0
    have b0 := i64_of w0
    obtain ⟨A1, c1, L1, rfl, hE1⟩ := Ck.open_acts (hval 1 _ v1 rfl rfl) h1 (fun x hx => hlt x (by simp [hx]))
    by_cases h : L1.length ≤ 80 ∧ 0 ≤ a0
    · obtain ⟨n, rfl⟩ := Int.eq_ofNat_of_zero_le h.2
      exact walk n A1 c1 L1 W (by omega) hE1 h.1
    · exact walk_no a0 A1 L1.length c1 W h hE1.len hE1.cap

theorem over : Rows.clockRoomRow.holds Try.pinned (OpenSpec.ofChange Rows.clockRoomSpec) :=
  OpenClaim.holds_of_wide 4 Try.f4 rfl rfl rfl rfl rfl rfl rfl ⟨rfl, rfl, rfl, rfl, rfl⟩ rfl rfl rfl rfl rfl (by kernel_rfl) Try.func4 (by kernel_rfl)
    (of_decide_eq_true (by kernel_rfl)) (by unfold Func.isWrapper; first | (rw [if_pos (by decide +kernel)]; kernel_rfl) | (rw [if_neg (by decide +kernel)]; exact ⟨rfl, rfl⟩))
    (fun os started H enc _ => lifted os started H enc)

theorem proved : Rows.ClockRoomSaid :=
  over
#print axioms proved
end Go.Proofs.Ytbeohfmikpbkhaa.clockRoom
