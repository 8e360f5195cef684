/- ClockWhole: a block that is got is as it was put, as long as it is there, whatever comes and goes: the law answers true for all arguments. -/
import Derived.Test.YtbeohfmikpbkhaaCoW
import Derived.Test.YtbeohfmikpbkhaaRows
import Derived.Deep.DeepCutAuto
import Derived.Deep.CutBlock
namespace Go.Proofs.Ytbeohfmikpbkhaa.clockWhole
set_option linter.unusedVariables false
set_option linter.unusedSimpArgs false
open Go.ChangeShapes Go.WideShapes Go.ChangeAt Go.RowKit Lift Go.Maps Ik Ck

theorem own : ownKnob Try.prog.godebug = none := by kernel_rfl

theorem wfn {j : Nat} (h : j ≤ 1000) : wf64 (j : Int) := by
  show (Lit.int .i64 (j : Int)).wf = true
  exact WalkArith.wf_i64 (by omega)
/-- The state ahead of each round. -/
def Pw (W : World) (g hp room : Nat) (j : Nat) (w : World) : Prop := ∃ Q was r, Two W w g Q room r ∧ Q hp ∧ Plc w hp Q was ∧ Tells was r.1 ∧ Few j r
def Mid (W : World) (g hp ha room : Nat) (d : Ac) (j : Nat) (w : World) : Prop := ∃ Q was r, Fr W w g hp ha room Q was d r ∧ Tells was r.1 ∧ Few j r
theorem Mid.pw {W w : World} {g hp ha room j k : Nat} {d : Ac} (h : Mid W g hp ha room d j w) (hk : j ≤ k) : Pw W g hp room k w := by
  obtain ⟨Q, was, r, h1, h2, h3⟩ := h
  exact ⟨Q, was, r, h1.two, h1.qh, h1.pl, h2, h3.more hk⟩
set_option maxRecDepth 100000 in
set_option maxHeartbeats 3200000 in
theorem walk (n : Nat) (A : Option Addr) (c : Nat) (L : List Ac) (W : World) (hn : n ≤ 1000) (hL : Acts W W.heap.size A c L) (h60 : L.length ≤ 60) :
    Calls Try.prog 6 #[.int .i64 (n : Int), .slice A L.length c] W (Yes W) := by
  have HL := Lib.hid hL
  have hlc := hL.len
  have hcm := hL.cap
  unfold maxLen at hcm
  have e1 : decide (60 < L.length) = false := decide_eq_false (by omega)
  have e1' : decide ((60 : Int) < (L.length : Int)) = false := decide_eq_false (by omega)
  have e2 : decide ((n : Int) < 0) = false := decide_eq_false (by omega)
  have e3 : decide (1000 < n) = false := decide_eq_false (by omega)
  have e3' : decide ((1000 : Int) < (n : Int)) = false := decide_eq_false (by omega)
  have hwn : wf64 (n : Int) := wfn hn
  clear hL
  go_enter Try.func6, Try.ntmps6
  go_wp2_with fail
  refine (alive_any _).mono ?_
  rintro e W1 ⟨rfl, hb1⟩
  have HN := Lib.hid (new_any (n : Int) hwn W1)
  rw [show roomO (n : Int) = n by unfold roomO; omega] at HN
  have HB1 := Lib.hid hb1
  clear hb1 hwn
  go_wp2_with fail
  refine HN.out.mono ?_
  rintro e W2 ⟨rfl, hc2, hb2⟩
  have HT : Hid (Ck.Own W W2 W1.heap.size (· = W1.heap.size) n ([], 0)) := Lib.hid (own_new rfl hc2 HB1.out hb2)
  clear hc2 hb2 HN e1 e1' e2 e3 e3'
  generalize W1.heap.size = g at HT ⊢
  clear HB1
  go_wp2_with fail
  have HP0 : Hid (Pw W g W2.heap.size n 0 (W2.alloc (.cells (Array.replicate 16 (.slice none 0 0)) 42))) := Lib.hid (by
    refine ⟨(· = W2.heap.size), fun _ _ => [], ([], 0), ?_, rfl, plc_new (Box.new W2 _ (List.replicate 16 (.slice none 0 0))), tells_new _, few_new⟩
    obtain ⟨Y, h⟩ : ∃ Y, Ck.Own W W2 g Y n ([], 0) := ⟨_, HT.out⟩
    exact Two.more (Q := fun _ => False) ⟨Y, h, fun k hk => hk.elim⟩ (Joins.below_alloc1 W2 _) fun k hk => .inr (by subst hk; exact ⟨Nat.le_refl _, (Box.new W2 42 (List.replicate 16 (.slice none 0 0))).lt⟩))
  change Hid (Pw W g W2.heap.size n 0 (W2.alloc (.cells #[.slice none 0 0, .slice none 0 0, .slice none 0 0, .slice none 0 0, .slice none 0 0, .slice none 0 0, .slice none 0 0, .slice none 0 0, .slice none 0 0, .slice none 0 0, .slice none 0 0, .slice none 0 0, .slice none 0 0, .slice none 0 0, .slice none 0 0, .slice none 0 0] 42))) at HP0
  generalize (W2.alloc (Obj.cells _ _)) = W3 at HP0 ⊢
  generalize W2.heap.size = hp at HP0 ⊢
  clear HT W2
  go_loopw [8] (fun i wr => ∃ j : Nat, j ≤ L.length ∧ i = .int .i64 (j : Int) ∧ Hid (Pw W g hp n (3 * j) wr)) (fun i _ => L.length + 1 - (intOf i).toNat)
  case atStart => exact ⟨0, Nat.zero_le _, rfl, HP0⟩
  case round =>
    obtain ⟨j, hj, rfl, ht⟩ := hrel
    clear HP0
    by_cases hlt : j < L.length
    · obtain ⟨d, hd⟩ : ∃ d, L[j]? = some d := ⟨_, List.getElem?_eq_getElem hlt⟩
      obtain ⟨ad, p, rfl, hpb, hpp, hrd⟩ := HL.out.reads hd
      have hok := HL.out.ok d (List.mem_of_getElem? hd)
      obtain ⟨Q0, was, r, h2, hq0, hpl, hte, hfew⟩ := ht.out
      obtain ⟨x0, x1, x2, x3⟩ := hrd wr h2.be
      have HOK := Lib.hid hok
      have HT2 := Lib.hid h2
      have HQ0 := Lib.hid hq0
      have HPL := Lib.hid hpl
      have HTE := Lib.hid hte
      have HFEW := Lib.hid hfew
      clear ht hd hrd hok h2 hq0 hpl hte hfew hpb
      go_upto_region 10 with fail
      obtain ⟨FF, hF, eF⟩ := and3 d.file
      obtain ⟨P, hP, eP⟩ := and3 d.off
      have hb3 := Joins.below_alloc1 wr (Obj.cells #[.int .i64 d.way, .int .i64 d.file, .int .i64 d.off, .slice d.ba d.b.length d.bc] 30)
      have bxa : Box (wr.alloc (Obj.cells #[.int .i64 d.way, .int .i64 d.file, .int .i64 d.off, .slice d.ba d.b.length d.bc] 30)) wr.heap.size 30 d.cells := Box.new wr _ d.cells
      have HFR : Hid (Fr W (wr.alloc (Obj.cells #[.int .i64 d.way, .int .i64 d.file, .int .i64 d.off, .slice d.ba d.b.length d.bc] 30)) g hp wr.heap.size n (fun k => Q0 k ∨ k = wr.heap.size) was d r) := Lib.hid (by
        obtain ⟨Y, h0, hR⟩ := id HT2.out
        have hlt := (hR hp HQ0.out).1
        exact ⟨HT2.out.more hb3 fun k hk => hk.elim .inl fun h => .inr ⟨h ▸ Nat.le_refl _, by rw [h]; exact bxa.lt⟩, .inl HQ0.out, .inr rfl, by omega, bxa, (HPL.out.stay HQ0.out (HT2.out.stay hb3)).more fun k hk => .inl hk⟩)
      clear bxa hb3 x0 x1 x2 x3 HT2 HPL HQ0
      generalize (wr.alloc (Obj.cells _ _)) = wa at HFR ⊢
      generalize (fun k => Q0 k ∨ k = wr.heap.size) = Q at HFR
      generalize wr.heap.size = ha at HFR ⊢
      clear wr
      have y0 : wa.cell? ⟨ha, 0, none⟩ = some (.int .i64 d.way) := HFR.out.bx.cell 0
      have y1 : wa.cell? ⟨ha, 1, none⟩ = some (.int .i64 d.file) := HFR.out.bx.cell 1
      have y2 : wa.cell? ⟨ha, 2, none⟩ = some (.int .i64 d.off) := HFR.out.bx.cell 2
      have y3 : wa.cell? ⟨ha, 3, none⟩ = some (.slice d.ba d.b.length d.bc) := HFR.out.bx.cell 3
      have hdl := Nat.le_trans HOK.out.bc HOK.out.bm
      unfold maxLen at hdl
      by_cases h100 : 100 < d.b.length
      · have b1 : decide (100 < d.b.length) = true := decide_eq_true h100
        have b2 : decide ((100 : Int) < (d.b.length : Int)) = true := decide_eq_true (by omega)
        go_wp2_with fail
        go_ret
        exact ⟨rfl, HFR.out.two.be⟩
      · have b1 : decide (100 < d.b.length) = false := decide_eq_false h100
        have b2 : decide ((100 : Int) < (d.b.length : Int)) = false := decide_eq_false (by omega)
        have HDL := Lib.hid (show d.b.length ≤ 100 by omega)
        clear h100
        have HWF : Hid (wf64 (FF : Int)) := Lib.hid (wfn (by omega))
        have HWP : Hid (wf64 (P : Int)) := Lib.hid (wfn (by omega))
        have hF4 : (FF : Int) < 4 := by omega
        have hP4 : (P : Int) < 4 := by omega
        have HPP := Lib.hid (show 0 ≤ (FF : Int) ∧ (FF : Int) < 4 ∧ 0 ≤ (P : Int) ∧ (P : Int) < 4 from ⟨by omega, by omega, by omega, by omega⟩)
        have HG := Lib.hid (two_get HFR.out.two (FF : Int) (P : Int) HWF.out HWP.out (by rw [HTE.out.pinned]; decide))
        go_wp2_with fail
        refine HG.out.mono ?_
        rintro e W5 ⟨A5, c5, bs5, -, rfl, -, ht5, hst5⟩
        have HFR5 := Lib.hid (HFR.out.stay ht5 hst5)
        obtain ⟨th, hth⟩ : ∃ th, th = (getC r (FF : Int) (P : Int)).2.isSome := ⟨_, rfl⟩
        rw [← hth]
        have HTH := Lib.hid hth
        clear hth ht5 hst5 HG HFR y0 y1 y2 y3
        go_upto_if 63 with fail
        go_cut [] (fun wx => ∃ r1, Fr W wx g hp ha n Q was d r1 ∧ Tells was r1.1 ∧ Few (3 * j + 1) r1 ∧ (th = true → find r1.1 (FF : Int) (P : Int) ≠ none) ∧ (th = false → find r1.1 (FF : Int) (P : Int) = none))
        case first =>
          rcases th
          · have HQ := Lib.hid (get_none HTE.out HTH.out.symm)
            go_wp2_with fail
            go_meet
            exact ⟨_, HFR5.out, by rw [HQ.out.1]; exact HTE.out, few_get HFEW.out _ _, fun h => (by cases h), fun _ => by rw [HQ.out.1]; exact HQ.out.2⟩
          · have HQ := Lib.hid (get_some HTE.out HTH.out.symm)
            have HR := Lib.hid (two_rel HFR5.out.two (FF : Int) (P : Int) HWF.out HWP.out)
            go_wp2_with fail
            refine HR.out.mono ?_
            rintro e W6 ⟨rfl, ht6, hst6⟩
            have HFR6 := Lib.hid (HFR5.out.stay ht6 hst6)
            clear ht6 hst6
            go_wp2_with fail
            go_meet
            exact ⟨_, HFR6.out, HQ.out.2.1, few_rel (few_get HFEW.out _ _) _ _, fun _ => HQ.out.2.2, fun h => (by cases h)⟩
        case rest =>
        obtain ⟨r1, k1, k2, k3, k4, k5⟩ := hcut
        generalize wc = W6 at k1 ⊢
        clear wc
        have HFR6 := Lib.hid k1
        have HTE6 := Lib.hid k2
        have HFEW6 := Lib.hid k3
        have HYE := Lib.hid k4
        have HNO := Lib.hid k5
        have y0 : W6.cell? ⟨ha, 0, none⟩ = some (.int .i64 d.way) := k1.bx.cell 0
        have y3 : W6.cell? ⟨ha, 3, none⟩ = some (.slice d.ba d.b.length d.bc) := k1.bx.cell 3
        clear k1 k2 k3 k4 k5 HFR5 HTH HTE HFEW
        go_upto_block 2 with fail
        go_cut [] (fun wx => Mid W g hp ha n d (3 * j + 2) wx)
        case first =>
          by_cases hw1 : d.way = 1
          · have e1 : (d.way == 1) = true := by rw [beq_iff_eq]; exact hw1
            have HPU := Lib.hid (two_put HFR6.out.two (FF : Int) (P : Int) d.ba d.bc d.b HWF.out HWP.out (HOK.out.bl.below HFR6.out.two.be) HOK.out.bn HDL.out HOK.out.b8 (by rw [HTE6.out.pinned]; decide) (by have := HFEW6.out.slots; omega))
            have HIN := Lib.hid HFR6.out.two.inv
            clear hw1
            go_wp2_with fail
            refine HPU.out.mono ?_
            rintro e W7 ⟨rfl, ht7, hst7⟩
            have HFR7 := Lib.hid (HFR6.out.stay ht7 hst7)
            have HFEW7 := Lib.hid (few_put HFEW6.out n (FF : Int) (P : Int) d.b)
            clear ht7 hst7 HPU
            rcases hok : (putC n r1 (FF : Int) (P : Int) d.b).2
            · have HSA := Lib.hid (put_same HIN.out HTE6.out HPP.out hok)
              clear hok y0 y3
              go_wp2_with fail
              go_meet
              exact ⟨_, _, _, HFR7.out, HSA.out, HFEW7.out⟩
            · rcases th
              · have HSA := Lib.hid (put_fresh HIN.out HTE6.out hF hP hok (HNO.out rfl))
                clear hok y0 y3
                generalize (putC n r1 (FF : Int) (P : Int) d.b).1 = r2 at HFR7 HSA HFEW7
                go_upto_region 21 with fail
                have HFRD := Lib.hid (HFR7.out.below (Below.refl _ W7).drew)
                obtain ⟨A8, c8, W8, hr8, how8, hb8⟩ := fresh_bytes d.ba d.bc W.heap.size d.b W7.drew (HOK.out.bl.below HFRD.out.two.be) (by have := HDL.out; omega)
                have HR8 := Lib.hid hr8
                have HOW8 := Lib.hid how8
                have HB8 := Lib.hid hb8
                clear hr8 how8 hb8
                refine wp_region_held_drew (S := fun w' => Hid (Keep (· = hp) W7.drew w')) (by kernel_rfl) (Lib.hid (Keep.refl _ _)) (fun hS => ?_)
                refine wpAnyH_take (i := 0) (v := ?_) rfl (by kernel_rfl) (by kernel_rfl) (by kernel_rfl) (fun _ _ _ h => h) (Or.inl ⟨by rfl, ?_⟩) hS ?_
                rotate_left
                · intro w hw
                  go_simp
                  try with_reducible rfl
                try simp only [Act.put, List.getElem_toArray, List.getElem_cons_succ, List.getElem_cons_zero, List.setIfInBounds_toArray, List.set_cons_zero, List.set_cons_succ]
                refine wpAnyH_take (i := 1) (v := ?_) rfl (by kernel_rfl) (by kernel_rfl) (by kernel_rfl) (fun _ _ _ h => h) (Or.inl ⟨by rfl, ?_⟩) hS ?_
                rotate_left
                · intro w hw
                  go_simp
                  try with_reducible rfl
                try simp only [Act.put, List.getElem_toArray, List.getElem_cons_succ, List.getElem_cons_zero, List.setIfInBounds_toArray, List.set_cons_zero, List.set_cons_succ]
                refine wpAnyH_take (i := 2) (v := ?_) rfl (by kernel_rfl) (by kernel_rfl) (by kernel_rfl) (fun _ _ _ h => h) (Or.inl ⟨by rfl, ?_⟩) hS ?_
                rotate_left
                · intro w hw
                  go_simp
                  try with_reducible rfl
                try simp only [Act.put, List.getElem_toArray, List.getElem_cons_succ, List.getElem_cons_zero, List.setIfInBounds_toArray, List.set_cons_zero, List.set_cons_succ]
                refine wpAnyH_take (i := 3) (v := ?_) rfl (by kernel_rfl) (by kernel_rfl) (by kernel_rfl) (fun _ _ _ h => h) (Or.inl ⟨by rfl, ?_⟩) hS ?_
                rotate_left
                · intro w hw
                  have q3 : w.cell? ⟨ha, 3, none⟩ = some (.slice d.ba d.b.length d.bc) := (HFRD.out.bx.keep hw.out HFRD.out.ne).cell 3
                  go_simp
                  try with_reducible rfl
                try simp only [Act.put, List.getElem_toArray, List.getElem_cons_succ, List.getElem_cons_zero, List.setIfInBounds_toArray, List.set_cons_zero, List.set_cons_succ]
                refine wpAnyH_take (i := 5) (v := ?_) rfl (by kernel_rfl) (by kernel_rfl) (by kernel_rfl) (fun _ _ _ h => h) (Or.inl ⟨by rfl, ?_⟩) hS ?_
                rotate_left
                · intro w hw
                  go_simp
                  try with_reducible rfl
                try simp only [Act.put, List.getElem_toArray, List.getElem_cons_succ, List.getElem_cons_zero, List.setIfInBounds_toArray, List.set_cons_zero, List.set_cons_succ]
                refine wpAnyH_ready (rs := [4]) (by kernel_rfl) (by simp) ?_
                refine (AllReadyH.cons rfl (fun K hK => ?_) AllReadyH.nil)
                refine held_append rfl _ _ 28 rfl rfl rfl HR8.out ?_
                refine hK.out _ _ (Lib.hid (below_keep HB8.out)) (fun hS => ?_)
                clear hK K
                try simp only [Act.put, List.getElem_toArray, List.getElem_cons_succ, List.getElem_cons_zero, List.setIfInBounds_toArray, List.set_cons_zero, List.set_cons_succ]
                refine wpAnyH_take (i := 6) (v := ?_) rfl (by kernel_rfl) (by kernel_rfl) (by kernel_rfl) (fun _ _ _ h => h) (Or.inl ⟨by rfl, ?_⟩) hS ?_
                rotate_left
                · intro w hw
                  go_simp
                  try with_reducible rfl
                try simp only [Act.put, List.getElem_toArray, List.getElem_cons_succ, List.getElem_cons_zero, List.setIfInBounds_toArray, List.set_cons_zero, List.set_cons_succ]
                refine wpAnyH_ready (rs := [7]) (by kernel_rfl) (by simp) ?_
                refine (AllReadyH.cons rfl (fun K hK => ?_) AllReadyH.nil)
                obtain ⟨A9, c9, p3, z3, -⟩ := (HFRD.out.below HB8.out).pl.at hF hP
                go_simp
                refine hK.out _ _ (Lib.hid ((below_keep (S := (· = hp)) HB8.out).setCell (p := ⟨hp, FF * 4 + P, none⟩) (.inr rfl) _)) (fun hS => ?_)
                clear hK K p3 z3
                try simp only [Act.put, List.getElem_toArray, List.getElem_cons_succ, List.getElem_cons_zero, List.setIfInBounds_toArray, List.set_cons_zero, List.set_cons_succ]
                refine wpAnyH_done (by kernel_rfl) ?_ _
                obtain ⟨S8, hfr⟩ := HFRD.out.set (c := c8) HB8.out HOW8.out hF hP
                have HFR8 := Lib.hid hfr
                clear hfr hS
                have HR := Lib.hid (two_rel HFR8.out.two (FF : Int) (P : Int) HWF.out HWP.out)
                go_wp2_with fail
                refine HR.out.mono ?_
                rintro e W9 ⟨rfl, ht9, hst9⟩
                have HFR9 := Lib.hid (HFR8.out.stay ht9 hst9)
                clear ht9 hst9
                go_wp2_with fail
                go_meet
                exact ⟨_, _, _, HFR9.out, HSA.out, few_rel HFEW7.out _ _⟩
              · have HSA := Lib.hid (put_there HIN.out HTE6.out HPP.out hok (HYE.out rfl))
                have HR := Lib.hid (two_rel HFR7.out.two (FF : Int) (P : Int) HWF.out HWP.out)
                clear hok y0 y3
                go_wp2_with fail
                refine HR.out.mono ?_
                rintro e W9 ⟨rfl, ht9, hst9⟩
                have HFR9 := Lib.hid (HFR7.out.stay ht9 hst9)
                clear ht9 hst9
                go_wp2_with fail
                go_meet
                exact ⟨_, _, _, HFR9.out, HSA.out, few_rel HFEW7.out _ _⟩
          · have e1 : (d.way == 1) = false := by rw [beq_eq_false_iff_ne]; exact hw1
            by_cases hw3 : d.way = 3
            · have e3 : (d.way == 3) = true := by rw [beq_iff_eq]; exact hw3
              have HD := Lib.hid (two_drop HFR6.out.two (FF : Int))
              clear hw1 hw3
              go_wp2_with fail
              refine HD.out.mono ?_
              rintro e W7 ⟨rfl, ht7, hst7⟩
              have HFR7 := Lib.hid (HFR6.out.stay ht7 hst7)
              clear ht7 hst7
              go_wp2_with fail
              go_meet
              exact ⟨_, _, _, HFR7.out, Tells.less (less_drop _ _) HTE6.out, (few_drop HFEW6.out _).more (by omega)⟩
            · have e3 : (d.way == 3) = false := by rw [beq_eq_false_iff_ne]; exact hw3
              clear hw1 hw3
              go_wp2_with fail
              go_meet
              exact ⟨_, _, _, HFR6.out, HTE6.out, HFEW6.out.more (by omega)⟩
        case rest =>
        obtain ⟨Q2, was2, r2, k1, k2, k3⟩ := hcut
        generalize wc = W7 at k1 ⊢
        clear wc
        have HFR7 := Lib.hid k1
        have HTE7 := Lib.hid k2
        have HFEW7 := Lib.hid k3
        have HG := Lib.hid (two_got k1.two (FF : Int) (P : Int) HWF.out HWP.out (by rw [k2.pinned]; decide))
        clear k1 k2 k3 HFR6 HTE6 HFEW6 HYE HNO y0 y3
        go_wp2_with fail
        refine HG.out.mono ?_
        rintro e W8 ⟨A8, c8, bs8, hbs8, rfl, how8, ht8, hst8⟩
        have HFR8 := Lib.hid (HFR7.out.got ht8 (fun k hk => .inl hk) hst8)
        have HOW8 := Lib.hid how8
        have HBS8 := Lib.hid hbs8
        clear ht8 hst8 HG how8 hbs8
        rcases hsm : (getC r2 (FF : Int) (P : Int)).2.isSome
        · have HQ := Lib.hid (get_none HTE7.out hsm)
          clear hsm
          have HM : Hid (Mid W g hp ha n d (3 * j + 3) W8) := Lib.hid ⟨_, _, _, HFR8.out, by rw [HQ.out.1]; exact HTE7.out, few_get HFEW7.out _ _⟩
          go_wp2_with fail
          go_roundw
          case rel => exact ⟨j + 1, by omega, by go_num, Lib.hid (HM.out.pw (by omega))⟩
          case measure => simp [intOf]; omega
        · have HQ := Lib.hid (get_some HTE7.out hsm)
          have HR := Lib.hid (two_rel HFR8.out.two (FF : Int) (P : Int) HWF.out HWP.out)
          clear hsm
          go_wp2_with fail
          refine HR.out.mono ?_
          rintro e W9 ⟨rfl, ht9, hst9⟩
          have HFR9 := Lib.hid (HFR8.out.stay ht9 hst9)
          have HM : Hid (Mid W g hp ha n d (3 * j + 3) W9) := Lib.hid ⟨_, _, _, HFR9.out, HQ.out.2.1, few_rel (few_get HFEW7.out _ _) _ _⟩
          have hl8 : LiesP W9 _ A8 (bs8.map vb) := HOW8.out.later hst9 fun _ h => h
          have hq9 : ∀ k, (Q2 k ∨ (W7.heap.size ≤ k ∧ k < W8.heap.size)) → k < W9.heap.size := fun k hk => by
            obtain ⟨Y, -, hR⟩ := HFR9.out.two
            exact (hR k hk).1
          have hl8' : Lies W9 W9.heap.size A8 (bs8.map vb) := hl8.lies hq9
          have HPL9 := Lib.hid (hq9 hp HFR9.out.qh)
          obtain ⟨A9, c9, p9, -, hl9⟩ := HFR9.out.pl.at hF hP
          have hl9' : Lies W9 W9.heap.size A9 ((was2 (FF : Int) (P : Int)).map vb) := hl9.lies hq9
          have CE9 := Lib.hid p9
          have he8 : bs8 = was2 (FF : Int) (P : Int) := HBS8.out.trans HQ.out.1
          obtain ⟨s, hs⟩ : ∃ s, s = str (was2 (FF : Int) (P : Int)) := ⟨_, rfl⟩
          have T1 : Hid (∀ w', Below W9.heap.size W9 w' → Sem.run Try.prog (convert 28 9 (.slice A8 bs8.length c8)) w' = .ok (.string s) w') := Lib.hid fun w' hb => by
            rw [hs, ← he8]
            exact run_string_lies (P := Try.prog) (c := c8) _ _ 5 Try.underlying28 Try.underlying5 Try.underlying9 (hl8'.below hb)
          have T2 : Hid (∀ w', Below W9.heap.size W9 w' → Sem.run Try.prog (convert 28 9 (.slice A9 (was2 (FF : Int) (P : Int)).length c9)) w' = .ok (.string s) w') := Lib.hid fun w' hb => by
            rw [hs]
            exact run_string_lies (P := Try.prog) (c := c9) _ _ 5 Try.underlying28 Try.underlying5 Try.underlying9 (hl9'.below hb)
          generalize bs8.length = n8 at T1 ⊢
          generalize (was2 (FF : Int) (P : Int)).length = n9 at T2 CE9
          clear ht9 hst9 hl8 hl8' hl9 hl9' p9 he8 hs hq9 HOW8 HBS8
          go_upto_region 29 with fail
          refine wp_region_held_drew (S := fun w' => Hid (Below W9.heap.size W9 w')) (by kernel_rfl) (Lib.hid (Below.refl _ _).drew) (fun hS => ?_)
          refine wpAnyH_take (i := 0) (v := ?_) rfl (by kernel_rfl) (by kernel_rfl) (by kernel_rfl) (fun _ _ _ h => h) (Or.inl ⟨by rfl, ?_⟩) hS ?_
          rotate_left
          · intro w hw
            go_simp
            try with_reducible rfl
          try simp only [Act.put, List.getElem_toArray, List.getElem_cons_succ, List.getElem_cons_zero, List.setIfInBounds_toArray, List.set_cons_zero, List.set_cons_succ]
          refine wpAnyH_take (i := 1) (v := ?_) rfl (by kernel_rfl) (by kernel_rfl) (by kernel_rfl) (fun _ _ _ h => h) (Or.inl ⟨by rfl, ?_⟩) hS ?_
          rotate_left
          · intro w hw
            have t1 := T1.out w hw.out
            go_simp
            try with_reducible rfl
          try simp only [Act.put, List.getElem_toArray, List.getElem_cons_succ, List.getElem_cons_zero, List.setIfInBounds_toArray, List.set_cons_zero, List.set_cons_succ]
          refine wpAnyH_take (i := 2) (v := ?_) rfl (by kernel_rfl) (by kernel_rfl) (by kernel_rfl) (fun _ _ _ h => h) (Or.inl ⟨by rfl, ?_⟩) hS ?_
          rotate_left
          · intro w hw
            go_simp
            try with_reducible rfl
          try simp only [Act.put, List.getElem_toArray, List.getElem_cons_succ, List.getElem_cons_zero, List.setIfInBounds_toArray, List.set_cons_zero, List.set_cons_succ]
          refine wpAnyH_take (i := 3) (v := ?_) rfl (by kernel_rfl) (by kernel_rfl) (by kernel_rfl) (fun _ _ _ h => h) (Or.inl ⟨by rfl, ?_⟩) hS ?_
          rotate_left
          · intro w hw
            go_simp
            try with_reducible rfl
          try simp only [Act.put, List.getElem_toArray, List.getElem_cons_succ, List.getElem_cons_zero, List.setIfInBounds_toArray, List.set_cons_zero, List.set_cons_succ]
          refine wpAnyH_take (i := 4) (v := ?_) rfl (by kernel_rfl) (by kernel_rfl) (by kernel_rfl) (fun _ _ _ h => h) (Or.inl ⟨by rfl, ?_⟩) hS ?_
          rotate_left
          · intro w hw
            go_simp
            try with_reducible rfl
          try simp only [Act.put, List.getElem_toArray, List.getElem_cons_succ, List.getElem_cons_zero, List.setIfInBounds_toArray, List.set_cons_zero, List.set_cons_succ]
          refine wpAnyH_take (i := 5) (v := ?_) rfl (by kernel_rfl) (by kernel_rfl) (by kernel_rfl) (fun _ _ _ h => h) (Or.inl ⟨by rfl, ?_⟩) hS ?_
          rotate_left
          · intro w hw
            go_simp
            try with_reducible rfl
          try simp only [Act.put, List.getElem_toArray, List.getElem_cons_succ, List.getElem_cons_zero, List.setIfInBounds_toArray, List.set_cons_zero, List.set_cons_succ]
          refine wpAnyH_take (i := 6) (v := ?_) rfl (by kernel_rfl) (by kernel_rfl) (by kernel_rfl) (fun _ _ _ h => h) (Or.inl ⟨by rfl, ?_⟩) hS ?_
          rotate_left
          · intro w hw
            have q6 := (hw.out.cell (p := ⟨hp, FF * 4 + P, none⟩) HPL9.out).trans CE9.out
            go_simp
            try with_reducible rfl
          try simp only [Act.put, List.getElem_toArray, List.getElem_cons_succ, List.getElem_cons_zero, List.setIfInBounds_toArray, List.set_cons_zero, List.set_cons_succ]
          refine wpAnyH_take (i := 7) (v := ?_) rfl (by kernel_rfl) (by kernel_rfl) (by kernel_rfl) (fun _ _ _ h => h) (Or.inl ⟨by rfl, ?_⟩) hS ?_
          rotate_left
          · intro w hw
            have t2 := T2.out w hw.out
            go_simp
            try with_reducible rfl
          try simp only [Act.put, List.getElem_toArray, List.getElem_cons_succ, List.getElem_cons_zero, List.setIfInBounds_toArray, List.set_cons_zero, List.set_cons_succ]
          refine wpAnyH_take (i := 8) (v := ?_) rfl (by kernel_rfl) (by kernel_rfl) (by kernel_rfl) (fun _ _ _ h => h) (Or.inl ⟨by rfl, ?_⟩) hS ?_
          rotate_left
          · intro w hw
            go_simp
            try with_reducible rfl
          try simp only [Act.put, List.getElem_toArray, List.getElem_cons_succ, List.getElem_cons_zero, List.setIfInBounds_toArray, List.set_cons_zero, List.set_cons_succ]
          refine wpAnyH_done (by kernel_rfl) ?_ _
          have HM2 : Hid (Pw W g hp n (3 * (j + 1)) W9.drew) := Lib.hid (by
            obtain ⟨Q, was, r, h1, h2, h3⟩ := HM.out
            have h4 := h1.below (Below.refl _ W9).drew
            exact ⟨Q, was, r, h4.two, h4.qh, h4.pl, h2, h3.more (by omega)⟩)
          go_wp2_with fail
          go_roundw
          case rel => exact ⟨j + 1, by omega, by go_num, HM2⟩
          case measure => simp [intOf]; omega
    · obtain rfl : j = L.length := by omega
      obtain ⟨Q0, was, r, h2, hq0, hpl, hte, hfew⟩ := ht.out
      have HB := Lib.hid h2.be
      have HPN := Lib.hid (two_pins h2)
      rw [hte.pinned] at HPN
      clear h2 hq0 hpl hte hfew
      go_wp2_with fail
      refine HPN.out.mono ?_
      rintro e W5 ⟨rfl, hb5⟩
      have HB5 := Lib.hid (HB.out.trans (hb5.mono HB.out.size))
      clear hb5
      go_wp2_with fail
      go_ret
      exact ⟨rfl, HB5.out⟩
set_option maxRecDepth 100000 in
set_option maxHeartbeats 800000 in
theorem walk_no (a : Int) (A : Option Addr) (n c : Nat) (W : World) (h : ¬ (n ≤ 60 ∧ 0 ≤ a ∧ a ≤ 1000)) (hn : n ≤ c) (hm : c ≤ maxLen) :
    Calls Try.prog 6 #[.int .i64 a, .slice A n c] W (Yes W) := by
  unfold maxLen at hm
  go_enter Try.func6, Try.ntmps6
  go_wp2_with fail
  refine (alive_any _).mono ?_
  rintro e W1 ⟨rfl, hb1'⟩
  have HB1 := Lib.hid hb1'
  clear hb1'
  by_cases h0 : 60 < n
  · have e0 : decide (60 < n) = true := decide_eq_true h0
    have e0' : (60 : Int) < (n : Int) := by omega
    clear h
    go_wp2_with fail
    go_ret
    exact ⟨rfl, HB1.out⟩
  · have e0 : decide (60 < n) = false := decide_eq_false h0
    have e0' : decide ((60 : Int) < (n : Int)) = false := decide_eq_false (by omega)
    by_cases h1 : a < 0
    · have d1 : decide (a < 0) = true := decide_eq_true h1
      clear h
      go_wp2_with fail
      go_ret
      exact ⟨rfl, HB1.out⟩
    · have d1 : decide (a < 0) = false := decide_eq_false h1
      have d2 : decide (1000 < a) = true := decide_eq_true (by omega)
      clear h
      go_wp2_with fail
      go_ret
      exact ⟨rfl, HB1.out⟩

set_option maxRecDepth 100000 in
theorem lifted (os : Os) (started : os.Started) (H : Type) (enc : TypeId × Value → H) :
    ReturnsInHanded {} Try.checked os 6 .any (Rows.clockWholeSpec.pre6 enc Try.prog Try.f6 Rows.clockWholeRow.domain false) (Rows.clockWholeSpec.post enc Try.prog Try.f6 false true false false) := by
  refine lift_true (C := Try.checked) own started (by kernel_rfl) Try.func6
    (ChangeSpec.witness6 (enc := enc) (C := Try.checked) false ⟨#[], #[.int .i64 0, .slice none 0 0], []⟩ 8 (by kernel_rfl) (by kernel_rfl) (by kernel_rfl) (by kernel_rfl))
    (by kernel_rfl) (by kernel_rfl) (by kernel_rfl) Try.underlying4 rfl ?_ ?_
  · intro ds hds
    match ds, hds with
    | [d1, d2], _ => exact ⟨rfl, rfl, rfl⟩
  · intro W base args ds p hval0 hA0 hlt _
    have hval : ∀ (j : Nat) t v, Try.f6.params[j]? = some t → args[j]? = some v → Value.okWide Try.prog W .any base t v := hval0
    have hA : DataW.TrodAll enc Try.prog W 0 (fun _ => true) true Try.f6.params.toList args.toList ds p := hA0
    rw [Try.params6] at hA hval
    obtain ⟨v0, vs0, d0, ds0, p0, q0, hargs, rfl, rfl, h0, r0⟩ := trodAll_cons hA
    obtain ⟨v1, vs1, d1, ds1, p1, q1, rfl, rfl, rfl, h1, r1⟩ := trodAll_cons r0
    obtain ⟨rfl, rfl, rfl⟩ := trodAll_nil r1
    obtain rfl : args = #[v0, v1] := by cases args; simp_all
    obtain ⟨a0, rfl, rfl, rfl, w0⟩ := open_int Try.underlying3 (hval 0 _ v0 rfl rfl) h0
    have b0 := i64_of w0
    obtain ⟨A1, c1, L1, rfl, hE1⟩ := Ck.open_acts (hval 1 _ v1 rfl rfl) h1 (fun x hx => hlt x (by simp [hx]))
    by_cases h : L1.length ≤ 60 ∧ 0 ≤ a0 ∧ a0 ≤ 1000
    · obtain ⟨n, rfl⟩ := Int.eq_ofNat_of_zero_le h.2.1
      exact walk n A1 c1 L1 W (by omega) hE1 h.1
    · exact walk_no a0 A1 L1.length c1 W h hE1.len hE1.cap

theorem over : Rows.clockWholeRow.holds Try.pinned (OpenSpec.ofChange Rows.clockWholeSpec) :=
  OpenClaim.holds_of_wide 6 Try.f6 rfl rfl rfl rfl rfl rfl rfl ⟨rfl, rfl, rfl, rfl, rfl⟩ rfl rfl rfl rfl rfl (by kernel_rfl) Try.func6 (by kernel_rfl)
    (of_decide_eq_true (by kernel_rfl)) (by unfold Func.isWrapper; first | (rw [if_pos (by decide +kernel)]; kernel_rfl) | (rw [if_neg (by decide +kernel)]; exact ⟨rfl, rfl⟩))
    (fun os started H enc _ => lifted os started H enc)

theorem proved : Rows.ClockWholeSaid :=
  over
#print axioms proved
end Go.Proofs.Ytbeohfmikpbkhaa.clockWhole
