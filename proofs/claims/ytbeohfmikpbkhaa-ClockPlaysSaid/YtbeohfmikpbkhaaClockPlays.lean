/- ClockPlays: for every row of calls the program's cache and the document's own answer the same and hold the same: the law answers true for all arguments. -/
import Derived.Test.YtbeohfmikpbkhaaCoP
import Derived.Test.YtbeohfmikpbkhaaRows
import Derived.Deep.DeepCutAuto
import Derived.Deep.CutBlock
namespace Go.Proofs.Ytbeohfmikpbkhaa.clockPlays
set_option linter.unusedVariables false
set_option linter.unusedSimpArgs false
open Go.ChangeShapes Go.WideShapes Go.ChangeAt Go.RowKit Lift Go.Maps Ik Ck

theorem own : ownKnob Try.prog.godebug = none := by kernel_rfl

theorem wfn {j : Nat} (h : j ≤ 1000) : wf64 (j : Int) := by
  show (Lit.int .i64 (j : Int)).wf = true
  exact WalkArith.wf_i64 (by omega)
/-- The state ahead of each round. -/
def Pp (W : World) (g go gr n1 n2 : Nat) (ro : R) (j : Nat) (w : World) : Prop := ∃ r, Tri W w g go gr n1 n2 (fun _ => False) r ro r ∧ Few j r
theorem Pp.same {W w : World} {g go gr n1 n2 j : Nat} {ro : R} (h : Pp W g go gr n1 n2 ro j w) (hj : j ≤ 1000) : Calls Try.prog 18 #[pt g, pt gr] w fun e w' => e = .returned (.bool true) ∧ Pp W g go gr n1 n2 ro j w' := by
  obtain ⟨r, h1, h2⟩ := h
  refine (tri_same h1 (by have := h2.slots; omega)).mono ?_
  rintro e w' ⟨rfl, h3⟩
  exact ⟨rfl, r, h3, h2⟩
theorem run_str {w : World} {B c : Nat} {A : Option Addr} {bs : List Nat} (hl : Lies w B A (bs.map vb)) : Sem.run Try.prog (convert 28 9 (.slice A bs.length c)) w = .ok (.string (str bs)) w :=
  run_string_lies (P := Try.prog) (c := c) _ _ 5 Try.underlying28 Try.underlying5 Try.underlying9 hl
set_option maxRecDepth 100000 in
set_option maxHeartbeats 3200000 in
theorem walk (a : Int) (A : Option Addr) (c : Nat) (L : List Ac) (W : World) (hwa : wf64 a) (hL : Acts W W.heap.size A c L) (h80 : L.length ≤ 80) :
    Calls Try.prog 3 #[.int .i64 a, .slice A L.length c] W (Yes W) := by
  have HL := Lib.hid hL
  have hlc := hL.len
  have hcm := hL.cap
  unfold maxLen at hcm
  have e1 : decide (80 < L.length) = false := decide_eq_false (by omega)
  have e1' : decide ((80 : Int) < (L.length : Int)) = false := decide_eq_false (by omega)
  have HWA := Lib.hid hwa
  clear hL hwa
  go_enter Try.func3, Try.ntmps3
  go_wp2_with fail
  refine (alive_any _).mono ?_
  rintro e W1 ⟨rfl, hb1⟩
  have HN := Lib.hid (new_any a HWA.out W1)
  have HB1 := Lib.hid hb1
  clear hb1
  go_wp2_with fail
  refine HN.out.mono ?_
  rintro e W2 ⟨rfl, hc2, hb2⟩
  have HN5 := Lib.hid (new_any 50 (by decide) W2)
  rw [show roomO 50 = 50 from by decide] at HN5
  have HC2 := Lib.hid hc2
  have HB2 := Lib.hid hb2
  clear hc2 hb2 HN
  go_wp2_with fail
  refine HN5.out.mono ?_
  rintro e W3 ⟨rfl, hc3, hb3⟩
  have HR := Lib.hid (rnew_any a W3)
  have HC3 := Lib.hid hc3
  have HB3 := Lib.hid hb3
  clear hc3 hb3 HN5
  go_wp2_with fail
  refine HR.out.mono ?_
  rintro e W4 ⟨rfl, hrc, hb4⟩
  have HT : Hid (Pp W W1.heap.size W2.heap.size W3.heap.size (roomO a) (roomy a) ([], 0) 0 W4) := Lib.hid (by
    have l2 := HC2.out.lt _ rfl
    have l3 := HC3.out.lt _ rfl
    have l4 := hrc.lt _ rfl
    have s1 := HB1.out.size
    have s2 := HB2.out.size
    have s3 := HB3.out.size
    have b23 : Below W2.heap.size W2 W4 := HB3.out.trans (hb4.mono s3)
    refine ⟨([], 0), ⟨(· = W1.heap.size), (· = W2.heap.size), (· = W3.heap.size), ⟨HC2.out.below b23, HC3.out.below hb4, hrc, fun k hk => ⟨by omega, id⟩, fun k hk => ⟨by omega, id⟩, fun k hk => ⟨by omega, id⟩, fun k hk ho => ?_, fun k hk ho => ?_, fun k hk ho => ?_, fun k hk => hk.elim, HB1.out.trans ((HB2.out.trans (b23.mono s2)).mono s1)⟩⟩, few_new⟩
    · omega
    · omega
    · omega)
  have HRM := Lib.hid (rooms a)
  clear hrc hb4 HR HC2 HC3 HB2 HB3 HB1 HWA e1 e1'
  generalize W1.heap.size = g at HT ⊢
  generalize W2.heap.size = go at HT ⊢
  generalize W3.heap.size = gr at HT ⊢
  generalize roomO a = n1 at HT HRM
  generalize roomy a = n2 at HT HRM
  clear W1 W2 W3
  go_wp2_with fail
  go_loopw [9] (fun i wr => ∃ (j : Nat) (ro : R), j ≤ L.length ∧ i = .int .i64 (j : Int) ∧ Hid (Pp W g go gr n1 n2 ro j wr) ∧ Hid (Few j ro)) (fun i _ => L.length + 1 - (intOf i).toNat)
  case atStart => exact ⟨0, _, Nat.zero_le _, rfl, HT, Lib.hid few_new⟩
  case round =>
    obtain ⟨j, ro, hj, rfl, ht, hro⟩ := hrel
    clear HT
    by_cases hlt : j < L.length
    · obtain ⟨d, hd⟩ : ∃ d, L[j]? = some d := ⟨_, List.getElem?_eq_getElem hlt⟩
      obtain ⟨ad, p, rfl, hpb, hpp, hrd⟩ := HL.out.reads hd
      have hok := HL.out.ok d (List.mem_of_getElem? hd)
      obtain ⟨r, h2, hfew⟩ := ht.out
      obtain ⟨x0, x1, x2, x3⟩ := hrd wr h2.be
      have HOK := Lib.hid hok
      have HT2 := Lib.hid h2
      have HFEW := Lib.hid hfew
      clear ht hd hrd hok h2 hfew hpb
      go_upto_region 11 with fail
      have hb3 := Joins.below_alloc1 wr (Obj.cells #[.int .i64 d.way, .int .i64 d.file, .int .i64 d.off, .slice d.ba d.b.length d.bc] 30)
      have bxa : Box (wr.alloc (Obj.cells #[.int .i64 d.way, .int .i64 d.file, .int .i64 d.off, .slice d.ba d.b.length d.bc] 30)) wr.heap.size 30 d.cells := Box.new wr _ d.cells
      have HTA : Hid (Tri W (wr.alloc (Obj.cells #[.int .i64 d.way, .int .i64 d.file, .int .i64 d.off, .slice d.ba d.b.length d.bc] 30)) g go gr n1 n2 (· = wr.heap.size) r ro r) := Lib.hid (HT2.out.more hb3 fun k hk => .inr ⟨Nat.le_of_eq hk.symm, by rw [hk]; exact bxa.lt⟩)
      have HBD := Lib.hid bxa
      clear bxa hb3 x0 x1 x2 x3 HT2
      generalize (wr.alloc (Obj.cells _ _)) = wa at HTA HBD ⊢
      generalize wr.heap.size = ha at HTA HBD ⊢
      clear wr
      have y3 : wa.cell? ⟨ha, 3, none⟩ = some (.slice d.ba d.b.length d.bc) := HBD.out.cell 3
      have hdl := Nat.le_trans HOK.out.bc HOK.out.bm
      unfold maxLen at hdl
      by_cases h100 : 100 < d.b.length
      · have b1 : decide (100 < d.b.length) = true := decide_eq_true h100
        have b2 : decide ((100 : Int) < (d.b.length : Int)) = true := decide_eq_true (by omega)
        go_wp2_with fail
        go_ret
        exact ⟨rfl, HTA.out.be⟩
      · have b1 : decide (100 < d.b.length) = false := decide_eq_false h100
        have b2 : decide ((100 : Int) < (d.b.length : Int)) = false := decide_eq_false (by omega)
        have HDL := Lib.hid (show d.b.length ≤ 100 by omega)
        clear h100
        have HPO := Lib.hid (tri_oput HTA.out (j : Int) (j : Int) (wfn (by omega)) (wfn (by omega)) (by have := hro.out.pins; omega) (by have := hro.out.slots; omega))
        have HFO := Lib.hid (few_put hro.out 50 (j : Int) (j : Int) [1])
        go_wp2_with fail
        refine HPO.out.mono ?_
        rintro e W5 ⟨rfl, ht5, hst5⟩
        have HT5 := Lib.hid ht5
        have HB5 : Hid (Box W5 ha 30 d.cells) := Lib.hid (HBD.out.at_block (hst5 ha rfl))
        have HCE : Hid (∀ w, Stay (· = ha) W5 w → w.cell? ⟨ha, 0, none⟩ = some (.int .i64 d.way) ∧ w.cell? ⟨ha, 1, none⟩ = some (.int .i64 d.file) ∧ w.cell? ⟨ha, 2, none⟩ = some (.int .i64 d.off) ∧ w.cell? ⟨ha, 3, none⟩ = some (.slice d.ba d.b.length d.bc)) := Lib.hid fun w hs => by
          have hb := HB5.out.at_block (hs ha rfl)
          exact ⟨hb.cell 0, hb.cell 1, hb.cell 2, hb.cell 3⟩
        clear ht5 hst5 HPO HTA HBD y3 hro
        generalize (putC 50 ro (j : Int) (j : Int) [1]).1 = ro1 at HT5 HFO
        obtain ⟨y0, y1, y2, y3⟩ := HCE.out W5 (fun _ _ => rfl)
        have HPB := Lib.hid (show pinned r.1 + 1 ≤ 1000 by have := HFEW.out.pins; omega)
        have HSB := Lib.hid (show r.1.length + 1 ≤ 1000 by have := HFEW.out.slots; omega)
        go_upto_block 2 with fail
        go_cut [] (fun wx => Pp W g go gr n1 n2 ro1 (j + 1) wx)
        case first =>
          by_cases hw0 : d.way = 0
          · have e0 : (d.way == 0) = true := by rw [beq_iff_eq]; exact hw0
            have HG := Lib.hid (tri_got HT5.out d.file d.off HOK.out.w1 HOK.out.w2 HPB.out)
            clear hw0
            go_wp2_with fail
            refine HG.out.mono ?_
            rintro e W6 ⟨A6, c6, bs6, hbs6, rfl, hl6, ht6, hst6⟩
            have HL6 := Lib.hid hl6
            have HT6 := Lib.hid ht6
            obtain ⟨z0, z1, z2, z3⟩ := HCE.out W6 hst6
            have HG7 := Lib.hid (tri_rgot ht6 d.file d.off HPB.out)
            rw [← hbs6] at HG7
            clear hl6 ht6 hst6 HG y0 y1 y2 y3
            have HBS6 := Lib.hid hbs6
            clear hbs6
            rcases hsm : (getC r d.file d.off).2.isSome
            all_goals
              rw [hsm] at HG7
              go_wp2_with fail
              refine HG7.out.mono ?_
              rintro e W7 ⟨A7, c7, bs7, hbs7, rfl, hl7, ht7, hst7⟩
              have hl6' : Lies W7 W7.heap.size A6 (bs6.map vb) := (HL6.out.later hst7 fun _ h => .inl h).lies fun k hk => ht7.qlt hk
              have hl7' : Lies W7 W7.heap.size A7 (bs7.map vb) := hl7.lies fun k hk => ht7.qlt hk
              have he : bs7 = bs6 := hbs7
              subst he
              have t1 := run_str (c := c6) hl6'
              have t2 := run_str (c := c7) hl7'
              have HP7 : Hid (Pp W g go gr n1 n2 ro1 (j + 1) W7) := Lib.hid ⟨_, ht7.none, few_get HFEW.out _ _⟩
              generalize str bs7 = s at t1 t2
              clear hl6' hl7' hbs7 hl7 ht7 hst7 z0 z1 z2 z3
              go_wp2_with fail
              go_meet
              exact HP7.out
          · have e0 : (d.way == 0) = false := by rw [beq_eq_false_iff_ne]; exact hw0
            by_cases hw1 : d.way = 1
            · have e1 : (d.way == 1) = true := by rw [beq_iff_eq]; exact hw1
              clear hw0 hw1
              obtain ⟨A6, c6, W6, hr6, how6, hb6⟩ := fresh_bytes d.ba d.bc W.heap.size d.b W5 (HOK.out.bl.below HT5.out.be) (by have := HDL.out; omega)
              obtain ⟨hnil, gb, hgb⟩ := own_rowB how6 rfl HOK.out.b8
              have HR6 := Lib.hid hr6
              have HT6 : Hid (Tri W W6 g go gr n1 n2 (Plus W5 W6 (· = ha)) r ro1 r) := Lib.hid (HT5.out.more hb6 fun k hk => hk)
              have HL6 : Hid (LiesP W6 (Plus W5 W6 (· = ha)) A6 (d.b.map vb)) := Lib.hid ((LiesP.of_own how6).later (fun _ _ => rfl) fun k hk => .inr ⟨hk.1, hk.2.1⟩)
              have hha := HT5.out.qlt rfl
              have HGB : Hid (0 < d.b.length → A6 = some ⟨gb, 0, none⟩ ∧ gb ≠ ha ∧ Plus W5 W6 (· = ha) gb ∧ RowB W6 gb d.b.length) := Lib.hid fun h => by
                obtain ⟨h1, h2, h3, h4⟩ := hgb h
                exact ⟨h1, by omega, .inr ⟨h2, h3⟩, h4⟩
              have hst6 : Stay (· = ha) W5 W6 := HT5.out.stay hb6
              obtain ⟨z0, z1, z2, z3⟩ := HCE.out W6 hst6
              have HST6 := Lib.hid hst6
              have HPU := Lib.hid (tri_put HT6.out d.file d.off A6 c6 d.b.length d.b HOK.out.w1 HOK.out.w2 rfl HL6.out hnil HDL.out HOK.out.b8 HPB.out HSB.out)
              rw [put_rooms d.file d.off d.b HT6.out.used_le HDL.out HRM.out] at HPU
              have HFP := Lib.hid (few_put HFEW.out n2 d.file d.off d.b)
              obtain ⟨hc6, hcm6⟩ : d.b.length ≤ c6 ∧ c6 ≤ 2 ^ 63 - 1 := by
                obtain ⟨_, _, hv, hc, hm, _⟩ := own_parts how6
                injection hv with _ _ hv
                subst hv
                exact ⟨hc, hm⟩
              have hN100 : d.b.length ≤ 100 := HDL.out
              have HQH : Hid (Plus W5 W6 (· = ha) ha) := Lib.hid (.inl rfl)
              have HRP : Hid (∀ w, Tri W w g go gr n1 n2 (Plus W5 W6 (· = ha)) (putC n2 r d.file d.off d.b).1 ro1 r → Calls Try.prog (13) #[pt gr, .int .i64 d.file, .int .i64 d.off, .slice d.ba d.b.length d.bc] w fun e w' => e = .returned (.bool (putC n2 r d.file d.off d.b).2) ∧ Tri W w' g go gr n1 n2 (Plus W5 W6 (· = ha)) (putC n2 r d.file d.off d.b).1 ro1 (putC n2 r d.file d.off d.b).1 ∧ Stay (Plus W5 W6 (· = ha)) w w') :=
                Lib.hid fun w h => tri_rput h d.file d.off d.ba d.bc d.b HT6.out.inv.fine (HOK.out.bl.below h.be) HDL.out HOK.out.b8 HPB.out HSB.out
              clear how6 hb6 hnil hgb hha hst6 HL6
              generalize (putC n2 r d.file d.off d.b).1 = r' at HPU HRP HFP
              generalize (putC n2 r d.file d.off d.b).2 = ok at HPU HRP
              generalize Plus W5 W6 (· = ha) = Q2 at HPU HRP HGB HQH HT6
              go_upto_region 22 with (at_builtin; refine wpList_append_run rfl _ _ 28 rfl rfl rfl HR6.out ?_)
              go_wp2_with fail
              refine HPU.out.mono ?_
              rintro e W7 ⟨rfl, ht7, hst7⟩
              have HXI : Hid (Tri W W7 g go gr n1 n2 Q2 r' ro1 r ∧ Box W7 ha 30 d.cells ∧ (0 < d.b.length → RowB W7 gb d.b.length)) := Lib.hid ⟨ht7, (HB5.out.at_block (HST6.out ha rfl)).at_block (hst7 ha HQH.out), fun h => (HGB.out h).2.2.2.at_block (hst7 gb (HGB.out h).2.2.1)⟩
              have HGC : Hid (0 < d.b.length → A6 = some ⟨gb, 0, none⟩ ∧ gb ≠ ha ∧ Q2 gb) := Lib.hid fun h => ⟨(HGB.out h).1, (HGB.out h).2.1, (HGB.out h).2.2.1⟩
              clear ht7 hst7 HPU HGB HST6 HR6 z0 z1 z2 z3 y0 y1 y2 y3
              go_wp2_with fail
              go_loopw [17] (fun i wr => ∃ k : Nat, k ≤ d.b.length ∧ i = .int .i64 (k : Int) ∧ Hid (Tri W wr g go gr n1 n2 Q2 r' ro1 r ∧ Box wr ha 30 d.cells ∧ (0 < d.b.length → RowB wr gb d.b.length))) (fun i _ => d.b.length + 1 - (intOf i).toNat)
              case atStart => exact ⟨0, Nat.zero_le _, rfl, HXI⟩
              case round =>
                obtain ⟨k, hk, rfl, hx⟩ := hrel
                by_cases hkk : k < d.b.length
                · obtain ⟨hA, hne, hq⟩ := HGC.out (by omega)
                  subst hA
                  obtain ⟨x, hx8, q1, q2⟩ := (hx.out.2.2 (by omega)).cell hkk
                  obtain ⟨y, hy8, ex⟩ := xor_byte hx8
                  have HY := Lib.hid hy8
                  have HQ := Lib.hid hq
                  have HNE := Lib.hid hne
                  clear hq hne
                  go_wp2_with fail
                  go_roundw
                  case rel => exact ⟨k + 1, by omega, by go_num, Lib.hid ⟨hx.out.1.set (p := ⟨gb, k, none⟩) HQ.out _, hx.out.2.1.setOther (Ne.symm HNE.out) _, fun h => (hx.out.2.2 h).set k HY.out⟩⟩
                  case measure => simp [intOf]; omega
                · obtain rfl : k = d.b.length := by omega
                  have z1 : wr.cell? ⟨ha, 1, none⟩ = some (.int .i64 d.file) := hx.out.2.1.cell 1
                  have z2 : wr.cell? ⟨ha, 2, none⟩ = some (.int .i64 d.off) := hx.out.2.1.cell 2
                  have z3 : wr.cell? ⟨ha, 3, none⟩ = some (.slice d.ba d.b.length d.bc) := hx.out.2.1.cell 3
                  have HRQ := Lib.hid (HRP.out wr hx.out.1)
                  go_wp2_with fail
                  refine HRQ.out.mono ?_
                  rintro e W8 ⟨rfl, ht8, -⟩
                  have HT8 := Lib.hid ht8
                  clear ht8
                  go_wp2_with fail
                  go_meet
                  exact ⟨_, HT8.out.none, HFP.out⟩
            · have e1 : (d.way == 1) = false := by rw [beq_eq_false_iff_ne]; exact hw1
              by_cases hw2 : d.way = 2
              · have e2 : (d.way == 2) = true := by rw [beq_iff_eq]; exact hw2
                clear hw0 hw1 hw2
                go_upto_region 30 with fail
                refine wp_region_held_drew (S := fun w' => Hid (Stay (· = ha) W5 w')) (by kernel_rfl) (Lib.hid fun k _ => rfl) (fun hS => ?_)
                refine wpAnyH_take (i := 0) (v := ?_) rfl (by kernel_rfl) (by kernel_rfl) (by kernel_rfl) (fun _ _ _ h => h) (Or.inl ⟨by rfl, ?_⟩) hS ?_
                rotate_left
                · intro w hw
                  go_simp
                  try with_reducible rfl
                try simp only [Act.put, List.getElem_toArray, List.getElem_cons_succ, List.getElem_cons_zero, List.setIfInBounds_toArray, List.set_cons_zero, List.set_cons_succ]
                refine wpAnyH_take (i := 1) (v := ?_) rfl (by kernel_rfl) (by kernel_rfl) (by kernel_rfl) (fun _ _ _ h => h) (Or.inl ⟨by rfl, ?_⟩) hS ?_
                rotate_left
                · intro w hw
                  go_simp
                  try with_reducible rfl
                try simp only [Act.put, List.getElem_toArray, List.getElem_cons_succ, List.getElem_cons_zero, List.setIfInBounds_toArray, List.set_cons_zero, List.set_cons_succ]
                refine wpAnyH_take (i := 2) (v := ?_) rfl (by kernel_rfl) (by kernel_rfl) (by kernel_rfl) (fun _ _ _ h => h) (Or.inl ⟨by rfl, ?_⟩) hS ?_
                rotate_left
                · intro w hw
                  obtain ⟨z0, z1, z2, z3⟩ := HCE.out w hw.out
                  go_simp
                  try with_reducible rfl
                try simp only [Act.put, List.getElem_toArray, List.getElem_cons_succ, List.getElem_cons_zero, List.setIfInBounds_toArray, List.set_cons_zero, List.set_cons_succ]
                refine wpAnyH_take (i := 3) (v := ?_) rfl (by kernel_rfl) (by kernel_rfl) (by kernel_rfl) (fun _ _ _ h => h) (Or.inl ⟨by rfl, ?_⟩) hS ?_
                rotate_left
                · intro w hw
                  go_simp
                  try with_reducible rfl
                try simp only [Act.put, List.getElem_toArray, List.getElem_cons_succ, List.getElem_cons_zero, List.setIfInBounds_toArray, List.set_cons_zero, List.set_cons_succ]
                refine wpAnyH_take (i := 4) (v := ?_) rfl (by kernel_rfl) (by kernel_rfl) (by kernel_rfl) (fun _ _ _ h => h) (Or.inl ⟨by rfl, ?_⟩) hS ?_
                rotate_left
                · intro w hw
                  obtain ⟨z0, z1, z2, z3⟩ := HCE.out w hw.out
                  go_simp
                  try with_reducible rfl
                try simp only [Act.put, List.getElem_toArray, List.getElem_cons_succ, List.getElem_cons_zero, List.setIfInBounds_toArray, List.set_cons_zero, List.set_cons_succ]
                refine wpAnyH_take (i := 6) (v := ?_) rfl (by kernel_rfl) (by kernel_rfl) (by kernel_rfl) (fun _ _ _ h => h) (Or.inl ⟨by rfl, ?_⟩) hS ?_
                rotate_left
                · intro w hw
                  go_simp
                  try with_reducible rfl
                try simp only [Act.put, List.getElem_toArray, List.getElem_cons_succ, List.getElem_cons_zero, List.setIfInBounds_toArray, List.set_cons_zero, List.set_cons_succ]
                refine wpAnyH_take (i := 7) (v := ?_) rfl (by kernel_rfl) (by kernel_rfl) (by kernel_rfl) (fun _ _ _ h => h) (Or.inl ⟨by rfl, ?_⟩) hS ?_
                rotate_left
                · intro w hw
                  go_simp
                  try with_reducible rfl
                try simp only [Act.put, List.getElem_toArray, List.getElem_cons_succ, List.getElem_cons_zero, List.setIfInBounds_toArray, List.set_cons_zero, List.set_cons_succ]
                refine wpAnyH_take (i := 8) (v := ?_) rfl (by kernel_rfl) (by kernel_rfl) (by kernel_rfl) (fun _ _ _ h => h) (Or.inl ⟨by rfl, ?_⟩) hS ?_
                rotate_left
                · intro w hw
                  obtain ⟨z0, z1, z2, z3⟩ := HCE.out w hw.out
                  go_simp
                  try with_reducible rfl
                try simp only [Act.put, List.getElem_toArray, List.getElem_cons_succ, List.getElem_cons_zero, List.setIfInBounds_toArray, List.set_cons_zero, List.set_cons_succ]
                refine wpAnyH_take (i := 9) (v := ?_) rfl (by kernel_rfl) (by kernel_rfl) (by kernel_rfl) (fun _ _ _ h => h) (Or.inl ⟨by rfl, ?_⟩) hS ?_
                rotate_left
                · intro w hw
                  go_simp
                  try with_reducible rfl
                try simp only [Act.put, List.getElem_toArray, List.getElem_cons_succ, List.getElem_cons_zero, List.setIfInBounds_toArray, List.set_cons_zero, List.set_cons_succ]
                refine wpAnyH_take (i := 10) (v := ?_) rfl (by kernel_rfl) (by kernel_rfl) (by kernel_rfl) (fun _ _ _ h => h) (Or.inl ⟨by rfl, ?_⟩) hS ?_
                rotate_left
                · intro w hw
                  obtain ⟨z0, z1, z2, z3⟩ := HCE.out w hw.out
                  go_simp
                  try with_reducible rfl
                try simp only [Act.put, List.getElem_toArray, List.getElem_cons_succ, List.getElem_cons_zero, List.setIfInBounds_toArray, List.set_cons_zero, List.set_cons_succ]
                have HTD := Lib.hid (HT5.out.below (Below.refl _ W5).drew)
                have HG := Lib.hid (tri_rel HTD.out d.file d.off HOK.out.w1 HOK.out.w2)
                refine wpAnyH_ready (rs := [5]) (by kernel_rfl) (by simp) ?_
                refine (AllReadyH.cons rfl (fun K hK => ?_) AllReadyH.nil)
                go_simp
                refine HG.out.mono ?_
                rintro e W6 ⟨rfl, ht6, hst6⟩
                have hst5 : Stay (· = ha) W5 W6 := fun k hk => hst6 k hk
                have HT6 := Lib.hid ht6
                have HST := Lib.hid hst5
                have HG2 := Lib.hid (tri_rrel HT6.out d.file d.off)
                generalize (relC r d.file d.off).2 = v at HG2
                refine hK.out _ _ (Lib.hid hst5) (fun hS => ?_)
                clear hK K ht6 hst6 hst5 HG HTD
                try simp only [Act.put, List.getElem_toArray, List.getElem_cons_succ, List.getElem_cons_zero, List.setIfInBounds_toArray, List.set_cons_zero, List.set_cons_succ]
                refine wpAnyH_ready (rs := [11]) (by kernel_rfl) (by simp) ?_
                refine (AllReadyH.cons rfl (fun K hK => ?_) AllReadyH.nil)
                go_simp
                refine HG2.out.mono ?_
                rintro e W7 ⟨rfl, ht7, hst7⟩
                have HT7 := Lib.hid ht7
                refine hK.out _ _ (Lib.hid fun k hk => (hst7 k hk).trans (HST.out k hk)) (fun hS => ?_)
                clear hK K ht7 hst7 HG2
                try simp only [Act.put, List.getElem_toArray, List.getElem_cons_succ, List.getElem_cons_zero, List.setIfInBounds_toArray, List.set_cons_zero, List.set_cons_succ]
                refine wpAnyH_take (i := 12) (v := ?_) rfl (by kernel_rfl) (by kernel_rfl) (by kernel_rfl) (fun _ _ _ h => h) (Or.inl ⟨by rfl, ?_⟩) hS ?_
                rotate_left
                · intro w hw
                  go_simp
                  try with_reducible rfl
                try simp only [Act.put, List.getElem_toArray, List.getElem_cons_succ, List.getElem_cons_zero, List.setIfInBounds_toArray, List.set_cons_zero, List.set_cons_succ]
                refine wpAnyH_done (by kernel_rfl) ?_ _
                go_wp2_with fail
                go_meet
                exact ⟨_, HT7.out.none, (few_rel HFEW.out _ _).more (by omega)⟩
              · have e2 : (d.way == 2) = false := by rw [beq_eq_false_iff_ne]; exact hw2
                by_cases hw3 : d.way = 3
                · have e3 : (d.way == 3) = true := by rw [beq_iff_eq]; exact hw3
                  clear hw0 hw1 hw2 hw3
                  go_upto_region 33 with fail
                  refine wp_region_held_drew (S := fun w' => Hid (Stay (· = ha) W5 w')) (by kernel_rfl) (Lib.hid fun k _ => rfl) (fun hS => ?_)
                  refine wpAnyH_take (i := 0) (v := ?_) rfl (by kernel_rfl) (by kernel_rfl) (by kernel_rfl) (fun _ _ _ h => h) (Or.inl ⟨by rfl, ?_⟩) hS ?_
                  rotate_left
                  · intro w hw
                    go_simp
                    try with_reducible rfl
                  try simp only [Act.put, List.getElem_toArray, List.getElem_cons_succ, List.getElem_cons_zero, List.setIfInBounds_toArray, List.set_cons_zero, List.set_cons_succ]
                  refine wpAnyH_take (i := 1) (v := ?_) rfl (by kernel_rfl) (by kernel_rfl) (by kernel_rfl) (fun _ _ _ h => h) (Or.inl ⟨by rfl, ?_⟩) hS ?_
                  rotate_left
                  · intro w hw
                    go_simp
                    try with_reducible rfl
                  try simp only [Act.put, List.getElem_toArray, List.getElem_cons_succ, List.getElem_cons_zero, List.setIfInBounds_toArray, List.set_cons_zero, List.set_cons_succ]
                  refine wpAnyH_take (i := 2) (v := ?_) rfl (by kernel_rfl) (by kernel_rfl) (by kernel_rfl) (fun _ _ _ h => h) (Or.inl ⟨by rfl, ?_⟩) hS ?_
                  rotate_left
                  · intro w hw
                    obtain ⟨z0, z1, z2, z3⟩ := HCE.out w hw.out
                    go_simp
                    try with_reducible rfl
                  try simp only [Act.put, List.getElem_toArray, List.getElem_cons_succ, List.getElem_cons_zero, List.setIfInBounds_toArray, List.set_cons_zero, List.set_cons_succ]
                  refine wpAnyH_take (i := 4) (v := ?_) rfl (by kernel_rfl) (by kernel_rfl) (by kernel_rfl) (fun _ _ _ h => h) (Or.inl ⟨by rfl, ?_⟩) hS ?_
                  rotate_left
                  · intro w hw
                    go_simp
                    try with_reducible rfl
                  try simp only [Act.put, List.getElem_toArray, List.getElem_cons_succ, List.getElem_cons_zero, List.setIfInBounds_toArray, List.set_cons_zero, List.set_cons_succ]
                  refine wpAnyH_take (i := 5) (v := ?_) rfl (by kernel_rfl) (by kernel_rfl) (by kernel_rfl) (fun _ _ _ h => h) (Or.inl ⟨by rfl, ?_⟩) hS ?_
                  rotate_left
                  · intro w hw
                    go_simp
                    try with_reducible rfl
                  try simp only [Act.put, List.getElem_toArray, List.getElem_cons_succ, List.getElem_cons_zero, List.setIfInBounds_toArray, List.set_cons_zero, List.set_cons_succ]
                  refine wpAnyH_take (i := 6) (v := ?_) rfl (by kernel_rfl) (by kernel_rfl) (by kernel_rfl) (fun _ _ _ h => h) (Or.inl ⟨by rfl, ?_⟩) hS ?_
                  rotate_left
                  · intro w hw
                    obtain ⟨z0, z1, z2, z3⟩ := HCE.out w hw.out
                    go_simp
                    try with_reducible rfl
                  try simp only [Act.put, List.getElem_toArray, List.getElem_cons_succ, List.getElem_cons_zero, List.setIfInBounds_toArray, List.set_cons_zero, List.set_cons_succ]
                  have HTD := Lib.hid (HT5.out.below (Below.refl _ W5).drew)
                  have HG := Lib.hid (tri_drop HTD.out d.file)
                  refine wpAnyH_ready (rs := [3]) (by kernel_rfl) (by simp) ?_
                  refine (AllReadyH.cons rfl (fun K hK => ?_) AllReadyH.nil)
                  go_simp
                  refine HG.out.mono ?_
                  rintro e W6 ⟨rfl, ht6, hst6⟩
                  have hst5 : Stay (· = ha) W5 W6 := fun k hk => hst6 k hk
                  have HT6 := Lib.hid ht6
                  have HST := Lib.hid hst5
                  have HG2 := Lib.hid (tri_rdrop HT6.out d.file HT5.out.inv.fine)
                  generalize (dropC r d.file).2 = v at HG2
                  refine hK.out _ _ (Lib.hid hst5) (fun hS => ?_)
                  clear hK K ht6 hst6 hst5 HG HTD
                  try simp only [Act.put, List.getElem_toArray, List.getElem_cons_succ, List.getElem_cons_zero, List.setIfInBounds_toArray, List.set_cons_zero, List.set_cons_succ]
                  refine wpAnyH_ready (rs := [7]) (by kernel_rfl) (by simp) ?_
                  refine (AllReadyH.cons rfl (fun K hK => ?_) AllReadyH.nil)
                  go_simp
                  refine HG2.out.mono ?_
                  rintro e W7 ⟨rfl, ht7, hst7⟩
                  have HT7 := Lib.hid ht7
                  refine hK.out _ _ (Lib.hid fun k hk => (hst7 k hk).trans (HST.out k hk)) (fun hS => ?_)
                  clear hK K ht7 hst7 HG2
                  try simp only [Act.put, List.getElem_toArray, List.getElem_cons_succ, List.getElem_cons_zero, List.setIfInBounds_toArray, List.set_cons_zero, List.set_cons_succ]
                  refine wpAnyH_take (i := 8) (v := ?_) rfl (by kernel_rfl) (by kernel_rfl) (by kernel_rfl) (fun _ _ _ h => h) (Or.inl ⟨by rfl, ?_⟩) hS ?_
                  rotate_left
                  · intro w hw
                    go_simp
                    try with_reducible rfl
                  try simp only [Act.put, List.getElem_toArray, List.getElem_cons_succ, List.getElem_cons_zero, List.setIfInBounds_toArray, List.set_cons_zero, List.set_cons_succ]
                  refine wpAnyH_done (by kernel_rfl) ?_ _
                  go_wp2_with fail
                  go_meet
                  exact ⟨_, HT7.out.none, (few_drop HFEW.out _).more (by omega)⟩
                · have e3 : (d.way == 3) = false := by rw [beq_eq_false_iff_ne]; exact hw3
                  clear hw0 hw1 hw2 hw3
                  go_wp2_with fail
                  go_meet
                  exact ⟨r, HT5.out.none, HFEW.out.more (by omega)⟩
        case rest =>
        generalize wc = W8 at hcut ⊢
        clear wc
        have HSA := Lib.hid (hcut.same (by omega))
        clear hcut HT5 HB5 HCE y0 y1 y2 y3
        go_wp2_with fail
        refine HSA.out.mono ?_
        rintro e W9 ⟨rfl, ht9⟩
        have HT9 := Lib.hid ht9
        clear ht9
        go_wp2_with fail
        go_roundw
        case rel => exact ⟨j + 1, ro1, by omega, by go_num, HT9, HFO⟩
        case measure => simp [intOf]; omega
    · obtain rfl : j = L.length := by omega
      obtain ⟨r, h2, -⟩ := ht.out
      have HB := Lib.hid h2.be
      clear h2
      go_wp2_with fail
      go_ret
      exact ⟨rfl, HB.out⟩
set_option maxRecDepth 100000 in
set_option maxHeartbeats 800000 in
theorem walk_no (a : Int) (A : Option Addr) (n c : Nat) (W : World) (h : ¬ n ≤ 80) (hn : n ≤ c) (hm : c ≤ maxLen) :
    Calls Try.prog 3 #[.int .i64 a, .slice A n c] W (Yes W) := by
  unfold maxLen at hm
  go_enter Try.func3, Try.ntmps3
  go_wp2_with fail
  refine (alive_any _).mono ?_
  rintro e W1 ⟨rfl, hb1'⟩
  have HB1 := Lib.hid hb1'
  have e0 : decide (80 < n) = true := decide_eq_true (by omega)
  have e0' : (80 : Int) < (n : Int) := by omega
  clear hb1' h
  go_wp2_with fail
  go_ret
  exact ⟨rfl, HB1.out⟩

set_option maxRecDepth 100000 in
theorem lifted (os : Os) (started : os.Started) (H : Type) (enc : TypeId × Value → H) :
    ReturnsInHanded {} Try.checked os 3 .any (Rows.clockPlaysSpec.pre6 enc Try.prog Try.f3 Rows.clockPlaysRow.domain false) (Rows.clockPlaysSpec.post enc Try.prog Try.f3 false true false false) := by
  refine lift_true (C := Try.checked) own started (by kernel_rfl) Try.func3
    (ChangeSpec.witness6 (enc := enc) (C := Try.checked) false ⟨#[], #[.int .i64 0, .slice none 0 0], []⟩ 8 (by kernel_rfl) (by kernel_rfl) (by kernel_rfl) (by kernel_rfl))
    (by kernel_rfl) (by kernel_rfl) (by kernel_rfl) Try.underlying4 rfl ?_ ?_
  · intro ds hds
    match ds, hds with
    | [d1, d2], _ => exact ⟨rfl, rfl, rfl⟩
  · intro W base args ds p hval0 hA0 hlt _
    have hval : ∀ (j : Nat) t v, Try.f3.params[j]? = some t → args[j]? = some v → Value.okWide Try.prog W .any base t v := hval0
    have hA : DataW.TrodAll enc Try.prog W 0 (fun _ => true) true Try.f3.params.toList args.toList ds p := hA0
    rw [Try.params3] at hA hval
    obtain ⟨v0, vs0, d0, ds0, p0, q0, hargs, rfl, rfl, h0, r0⟩ := trodAll_cons hA
    obtain ⟨v1, vs1, d1, ds1, p1, q1, rfl, rfl, rfl, h1, r1⟩ := trodAll_cons r0
    obtain ⟨rfl, rfl, rfl⟩ := trodAll_nil r1
    obtain rfl : args = #[v0, v1] := by cases args; simp_all
    obtain ⟨a0, rfl, rfl, rfl, w0⟩ := open_int Try.underlying3 (hval 0 _ v0 rfl rfl) h0
    have b0 := i64_of w0
    obtain ⟨A1, c1, L1, rfl, hE1⟩ := Ck.open_acts (hval 1 _ v1 rfl rfl) h1 (fun x hx => hlt x (by simp [hx]))
    by_cases h : L1.length ≤ 80
    · exact walk a0 A1 c1 L1 W w0 hE1 h
    · exact walk_no a0 A1 L1.length c1 W h hE1.len hE1.cap

theorem over : Rows.clockPlaysRow.holds Try.pinned (OpenSpec.ofChange Rows.clockPlaysSpec) :=
  OpenClaim.holds_of_wide 3 Try.f3 rfl rfl rfl rfl rfl rfl rfl ⟨rfl, rfl, rfl, rfl, rfl⟩ rfl rfl rfl rfl rfl (by kernel_rfl) Try.func3 (by kernel_rfl)
    (of_decide_eq_true (by kernel_rfl)) (by unfold Func.isWrapper; first | (rw [if_pos (by decide +kernel)]; kernel_rfl) | (rw [if_neg (by decide +kernel)]; exact ⟨rfl, rfl⟩))
    (fun os started H enc _ => lifted os started H enc)

theorem proved : Rows.ClockPlaysSaid :=
  over
#print axioms proved
end Go.Proofs.Ytbeohfmikpbkhaa.clockPlays
