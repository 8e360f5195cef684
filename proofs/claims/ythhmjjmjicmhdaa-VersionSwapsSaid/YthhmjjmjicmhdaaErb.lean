/- The document's own: EditBytes. -/
import Derived.Test.YthhmjjmjicmhdaaErs
import Derived.Test.YthhmjjmjicmhdaaPutw
import Derived.Test.YthhmjjmjicmhdaaOwn
namespace Go.Proofs.Ythhmjjmjicmhdaa.Ed
set_option linter.unusedVariables false
set_option linter.unusedSimpArgs false
open Go.RowKit Lift Ik Vn Vw Bt
theorem enc_le (x : Nat) : (enc x).length ≤ 10 := (enc_len x).2
theorem wrap_u64 {f : Nat} (h : f < 18446744073709551616) : IntKind.u64.wrap (f : Int) = (f : Int) := by rw [IntKind.wrap_u64]; omega
/-- What every step of the writing keeps. -/
structure Wr (w : World) (x : X) (B : Nat) (wr : World) : Prop where
  be : Below w.heap.size w wr
  ok : x.Ok wr B
  bx : Box wr w.heap.size 26 [.slice x.addA x.add.length x.addC, .slice x.dropA x.drop.length x.dropC, .int .i64 x.next, .int .i64 x.log, .int .u64 (x.seq : Int)]
theorem Wr.below {w wr w' : World} {x : X} {B : Nat} (h : Wr w x B wr) (hB : B ≤ w.heap.size) (hb : Below wr.heap.size wr w') : Wr w x B w' :=
  ⟨h.be.trans (hb.mono h.be.size), h.ok.below (hb.mono (Nat.le_trans hB h.be.size)), h.bx.below hb h.bx.lt⟩
set_option maxRecDepth 100000 in
set_option maxHeartbeats 12800000 in
theorem rbytes_any (x : X) (B : Nat) (w : World) (hx : x.Ok w B) (hB : B ≤ w.heap.size) :
    Calls Try.prog 17 #[x.v] w (Made w.heap.size w (bytesE x.e)) := by
  have b5 := Nat.le_trans hx.add.len hx.add.cap
  have b6 := Nat.le_trans hx.dc hx.dm
  have hba := Joins.below_alloc1 w (.cells #[.slice x.addA x.add.length x.addC, .slice x.dropA x.drop.length x.dropC, .int .i64 x.next, .int .i64 x.log, .int .u64 (x.seq : Int)] 26)
  have HW1 : Hid (Wr w x B (w.alloc (.cells #[.slice x.addA x.add.length x.addC, .slice x.dropA x.drop.length x.dropC, .int .i64 x.next, .int .i64 x.log, .int .u64 (x.seq : Int)] 26))) := Lib.hid ⟨hba, hx.below (hba.mono hB), Box.new w 26 [.slice x.addA x.add.length x.addC, .slice x.dropA x.drop.length x.dropC, .int .i64 x.next, .int .i64 x.log, .int .u64 (x.seq : Int)]⟩
  have HR := Lib.hid (rright_any x B _ HW1.out.ok (Nat.le_trans hB hba.size))
  clear hx hba
  unfold maxLen at b5 b6
  go_enter Try.func17, Try.ntmps17
  go_wp2_with fail
  refine HR.out.mono ?_
  rintro e W2 ⟨rfl, hb2⟩
  have HW2 := Lib.hid (HW1.out.below hB hb2)
  clear hb2 HR HW1
  rcases hri : right x.e
  · have HE : Hid (bytesE x.e = []) := Lib.hid (by unfold bytesE; rw [hri]; rfl)
    clear hri
    go_wp2_with fail
    go_ret
    rw [HE.out]
    exact ⟨_, rfl, World.ownsRow_nil _ _ _ _, HW2.out.be⟩
  · have HE : Hid (bytesE x.e = encE x.e) := Lib.hid (by unfold bytesE; rw [hri]; rfl)
    obtain ⟨r1, r2, r3, r4, r5, r6, r7, r8, r9⟩ := right_parts hri
    have ha100 : x.add.length ≤ 100 := by unfold X.e at r1; simpa using r1
    have hd100 : x.drop.length ≤ 100 := r2
    have n3 : 0 ≤ x.next ∧ x.next ≤ 1099511627776 := of_decide_eq_true r3
    have n4 : 0 ≤ x.log ∧ x.log ≤ 1099511627776 := of_decide_eq_true r4
    have HR8 : Hid (∀ d, d ∈ x.add → okR d.ru = true) := Lib.hid fun d hd => r8 d.ru (List.mem_map_of_mem hd)
    have HR9 := Lib.hid r9
    have hseq : x.seq ≤ 72057594037927935 := r5
    have e1 := wrap_u64 (f := x.add.length) (by omega)
    have e2 := wrap_u64 (f := x.drop.length) (by omega)
    clear hri r1 r2 r3 r4 r5 r6 r7 r8 r9
    have p0 : W2.cell? ⟨w.heap.size, 0, none⟩ = some (.slice x.addA x.add.length x.addC) := HW2.out.bx.cell 0
    have HC := Lib.hid (putv_calls none 0 x.add.length [] W2 (.inl rfl) (by decide) (by omega))
    rw [List.nil_append] at HC
    go_wp2_with fail
    refine HC.out.mono ?_
    intro e W3 hm
    obtain ⟨Ai, ci, rfl, -, -, hl3, hb3⟩ := hm.parts
    have HWi := Lib.hid (HW2.out.below hB hb3)
    have HLi := Lib.hid hl3
    clear hm hl3 hb3 HC p0 HW2
    go_wp2_with fail
    go_loopw [3, 4] (fun v i wr => ∃ (k : Nat) (A : Option Addr) (c : Nat) (P : List Nat), k ≤ x.add.length ∧ i = .int .i64 (k : Int) ∧ v = .slice A P.length c ∧ Hid (Wr w x B wr) ∧ Hid (Lies wr wr.heap.size A (P.map vb)) ∧ Hid (P = enc x.add.length ++ ((x.add.take k).map D.ru).flatMap encR) ∧ Hid (P.length ≤ 10 + 600 * k)) (fun _ i _ => x.add.length + 1 - (intOf i).toNat)
    case atStart => exact ⟨0, Ai, ci, _, Nat.zero_le _, rfl, rfl, HWi, HLi, Lib.hid (by simp), Lib.hid (enc_le _)⟩
    case round =>
      obtain ⟨k, A0, c0, P0, hk, rfl, rfl, hw, HP, hPe, hPl⟩ := hrel
      have p0 : wr.cell? ⟨w.heap.size, 0, none⟩ = some (.slice x.addA x.add.length x.addC) := hw.out.bx.cell 0
      by_cases hlt : k < x.add.length
      · obtain ⟨d, hd⟩ : ∃ d, x.add[k]? = some d := ⟨_, List.getElem?_eq_getElem hlt⟩
        obtain ⟨ad, p, hA, -, hpp, q0, q1, q2, q3, q4, q5⟩ := hw.out.ok.add.place hd
        rw [hA] at p0
        have HOK := Lib.hid (hw.out.ok.add.ok d (List.mem_of_getElem? hd))
        obtain ⟨o1, o2, o3, o4, o5, -, o7⟩ := okR_parts (HR8.out d (List.mem_of_getElem? hd))
        have HD := Lib.hid hd
        obtain ⟨f, hf⟩ : ∃ f : Nat, d.file = (f : Int) := ⟨d.file.toNat, by have : 1 ≤ d.file := o1.1; omega⟩
        obtain ⟨b, hb⟩ : ∃ f : Nat, d.bytes = (f : Int) := ⟨d.bytes.toNat, by have : 1 ≤ d.bytes := o2.1; omega⟩
        obtain ⟨n, hn⟩ : ∃ f : Nat, d.count = (f : Int) := ⟨d.count.toNat, by have : 1 ≤ d.count := o3.1; omega⟩
        have hf2 : f ≤ 1099511627776 := by have : d.file ≤ 1099511627776 := o1.2; omega
        have hb2 : b ≤ 16777216 := by have : d.bytes ≤ 16777216 := o2.2; omega
        have hn2 : n ≤ 16777216 := by have : d.count ≤ 16777216 := o3.2; omega
        have hl1 : d.first.length ≤ 256 := o4.2
        have hl2 : d.last.length ≤ 256 := o5.2
        have hsq : d.seq ≤ 72057594037927935 := o7.2
        rw [hf] at q0
        rw [hb] at q1
        rw [hn] at q2
        have HEN : Hid (encR d.ru = enc f ++ enc b ++ enc n ++ enc d.first.length ++ d.first ++ enc d.last.length ++ d.last ++ enc d.seq) := Lib.hid (by
          unfold encR encI text D.ru
          simp only [hf, hb, hn, Int.toNat_natCast, List.append_assoc, List.append_nil])
        have hpl := hPl.out
        have f1 := wrap_u64 (f := f) (by omega)
        have f2 := wrap_u64 (f := b) (by omega)
        have f3 := wrap_u64 (f := n) (by omega)
        have f4 := wrap_u64 (f := d.first.length) (by omega)
        have f5 := wrap_u64 (f := d.last.length) (by omega)
        have g1 := enc_le f
        have g2 := enc_le b
        have g3 := enc_le n
        have g4 := enc_le d.first.length
        have g5 := enc_le d.last.length
        have g6 := enc_le d.seq
        clear hA hd hf hb hn o1 o2 o3 o4 o5 o7
        obtain ⟨P1, hP1⟩ : ∃ P', P' = P0 ++ enc f ++ enc b ++ enc n := ⟨_, rfl⟩
        obtain ⟨P2, hP2⟩ : ∃ P', P' = P1 ++ enc d.first.length ++ d.first := ⟨_, rfl⟩
        obtain ⟨P3, hP3⟩ : ∃ P', P' = P2 ++ enc d.last.length ++ d.last := ⟨_, rfl⟩
        have l1 : P1.length ≤ P0.length + 30 := by rw [hP1]; simp only [List.length_append]; omega
        have l2 : P2.length ≤ P1.length + 266 := by rw [hP2]; simp only [List.length_append]; omega
        have l3 : P3.length ≤ P2.length + 266 := by rw [hP3]; simp only [List.length_append]; omega
        have HP1 := Lib.hid hP1
        have HP2 := Lib.hid hP2
        have HP3 := Lib.hid hP3
        clear hP1 hP2 hP3
        go_upto_region 8 with fail
        have hb3 := Joins.below_alloc1 wr (Obj.cells #[.int .i64 (f : Int), .int .i64 (b : Int), .int .i64 (n : Int), .slice d.firstA d.first.length d.firstC, .slice d.lastA d.last.length d.lastC, .int .u64 (d.seq : Int)] 41)
        have HBR : Hid (Box (wr.alloc (Obj.cells #[.int .i64 (f : Int), .int .i64 (b : Int), .int .i64 (n : Int), .slice d.firstA d.first.length d.firstC, .slice d.lastA d.last.length d.lastC, .int .u64 (d.seq : Int)] 41)) wr.heap.size 41 [.int .i64 (f : Int), .int .i64 (b : Int), .int .i64 (n : Int), .slice d.firstA d.first.length d.firstC, .slice d.lastA d.last.length d.lastC, .int .u64 (d.seq : Int)]) := Lib.hid (Box.new wr 41 [.int .i64 (f : Int), .int .i64 (b : Int), .int .i64 (n : Int), .slice d.firstA d.first.length d.firstC, .slice d.lastA d.last.length d.lastC, .int .u64 (d.seq : Int)])
        have HWB := Lib.hid (hw.out.below hB hb3)
        have HPA := Lib.hid ((HP.out.below hb3).up hb3.size)
        clear hb3 q0 q1 q2 q3 q4 q5 p0 hw HP HOK
        generalize (wr.alloc (Obj.cells _ _)) = wa at HBR HWB HPA ⊢
        generalize wr.heap.size = gr at HBR ⊢
        clear wr
        have HP := Lib.hid HPA.out
        clear HPA
        go_cut [3] (fun v wx => ∃ A c, v = .slice A P1.length c ∧ Wr w x B wx ∧ Box wx gr 41 [.int .i64 (f : Int), .int .i64 (b : Int), .int .i64 (n : Int), .slice d.firstA d.first.length d.firstC, .slice d.lastA d.last.length d.lastC, .int .u64 (d.seq : Int)] ∧ Lies wx wx.heap.size A (P1.map vb))
        case first =>
          refine wp_region_held_drew (S := fun w' => Hid (Below wa.heap.size wa w')) (by kernel_rfl) (Lib.hid (Below.refl _ _).drew) (fun hS => ?_)
          have hp0 := HP.out
          have HB0 : Hid (Below wa.heap.size wa wa.drew) := Lib.hid (Below.refl _ _).drew
          have HL0 : Hid (Lies wa.drew wa.drew.heap.size A0 (P0.map vb)) := Lib.hid hp0
          clear hp0
          refine wpAnyH_take (i := 0) (v := ?_) rfl (by kernel_rfl) (by kernel_rfl) (by kernel_rfl) (fun _ _ _ h => h) (Or.inl ⟨by rfl, ?_⟩) hS ?_
          rotate_left
          · intro w hw
            go_simp
            try with_reducible rfl
          try simp only [Act.put, List.getElem_toArray, List.getElem_cons_succ, List.getElem_cons_zero, List.setIfInBounds_toArray, List.set_cons_zero, List.set_cons_succ]
          refine wpAnyH_take (i := 1) (v := ?_) rfl (by kernel_rfl) (by kernel_rfl) (by kernel_rfl) (fun _ _ _ h => h) (Or.inl ⟨by rfl, ?_⟩) hS ?_
          rotate_left
          · intro w hw
            go_simp
            try with_reducible rfl
          try simp only [Act.put, List.getElem_toArray, List.getElem_cons_succ, List.getElem_cons_zero, List.setIfInBounds_toArray, List.set_cons_zero, List.set_cons_succ]
          refine wpAnyH_take (i := 2) (v := ?_) rfl (by kernel_rfl) (by kernel_rfl) (by kernel_rfl) (fun _ _ _ h => h) (Or.inl ⟨by rfl, ?_⟩) hS ?_
          rotate_left
          · intro w hw
            have q : w.cell? ⟨gr, 0, none⟩ = some (.int .i64 (f : Int)) := (HBR.out.below hw.out HBR.out.lt).cell 0
            go_simp
            try with_reducible rfl
          try simp only [Act.put, List.getElem_toArray, List.getElem_cons_succ, List.getElem_cons_zero, List.setIfInBounds_toArray, List.set_cons_zero, List.set_cons_succ]
          refine wpAnyH_take (i := 3) (v := ?_) rfl (by kernel_rfl) (by kernel_rfl) (by kernel_rfl) (fun _ _ _ h => h) (Or.inl ⟨by rfl, ?_⟩) hS ?_
          rotate_left
          · intro w hw
            go_simp
            try with_reducible rfl
          try simp only [Act.put, List.getElem_toArray, List.getElem_cons_succ, List.getElem_cons_zero, List.setIfInBounds_toArray, List.set_cons_zero, List.set_cons_succ]
          refine wpAnyH_take (i := 5) (v := ?_) rfl (by kernel_rfl) (by kernel_rfl) (by kernel_rfl) (fun _ _ _ h => h) (Or.inl ⟨by rfl, ?_⟩) hS ?_
          rotate_left
          · intro w hw
            go_simp
            try with_reducible rfl
          try simp only [Act.put, List.getElem_toArray, List.getElem_cons_succ, List.getElem_cons_zero, List.setIfInBounds_toArray, List.set_cons_zero, List.set_cons_succ]
          refine wpAnyH_take (i := 6) (v := ?_) rfl (by kernel_rfl) (by kernel_rfl) (by kernel_rfl) (fun _ _ _ h => h) (Or.inl ⟨by rfl, ?_⟩) hS ?_
          rotate_left
          · intro w hw
            have q : w.cell? ⟨gr, 1, none⟩ = some (.int .i64 (b : Int)) := (HBR.out.below hw.out HBR.out.lt).cell 1
            go_simp
            try with_reducible rfl
          try simp only [Act.put, List.getElem_toArray, List.getElem_cons_succ, List.getElem_cons_zero, List.setIfInBounds_toArray, List.set_cons_zero, List.set_cons_succ]
          refine wpAnyH_take (i := 7) (v := ?_) rfl (by kernel_rfl) (by kernel_rfl) (by kernel_rfl) (fun _ _ _ h => h) (Or.inl ⟨by rfl, ?_⟩) hS ?_
          rotate_left
          · intro w hw
            go_simp
            try with_reducible rfl
          try simp only [Act.put, List.getElem_toArray, List.getElem_cons_succ, List.getElem_cons_zero, List.setIfInBounds_toArray, List.set_cons_zero, List.set_cons_succ]
          refine wpAnyH_take (i := 9) (v := ?_) rfl (by kernel_rfl) (by kernel_rfl) (by kernel_rfl) (fun _ _ _ h => h) (Or.inl ⟨by rfl, ?_⟩) hS ?_
          rotate_left
          · intro w hw
            go_simp
            try with_reducible rfl
          try simp only [Act.put, List.getElem_toArray, List.getElem_cons_succ, List.getElem_cons_zero, List.setIfInBounds_toArray, List.set_cons_zero, List.set_cons_succ]
          refine wpAnyH_take (i := 10) (v := ?_) rfl (by kernel_rfl) (by kernel_rfl) (by kernel_rfl) (fun _ _ _ h => h) (Or.inl ⟨by rfl, ?_⟩) hS ?_
          rotate_left
          · intro w hw
            have q : w.cell? ⟨gr, 2, none⟩ = some (.int .i64 (n : Int)) := (HBR.out.below hw.out HBR.out.lt).cell 2
            go_simp
            try with_reducible rfl
          try simp only [Act.put, List.getElem_toArray, List.getElem_cons_succ, List.getElem_cons_zero, List.setIfInBounds_toArray, List.set_cons_zero, List.set_cons_succ]
          refine wpAnyH_take (i := 11) (v := ?_) rfl (by kernel_rfl) (by kernel_rfl) (by kernel_rfl) (fun _ _ _ h => h) (Or.inl ⟨by rfl, ?_⟩) hS ?_
          rotate_left
          · intro w hw
            go_simp
            try with_reducible rfl
          try simp only [Act.put, List.getElem_toArray, List.getElem_cons_succ, List.getElem_cons_zero, List.setIfInBounds_toArray, List.set_cons_zero, List.set_cons_succ]
          obtain ⟨Q1, hq⟩ : ∃ Q, Q = P0 ++ enc f := ⟨_, rfl⟩
          have HC0 := Lib.hid (putv_calls A0 c0 (f) (P0) wa.drew HL0.out (by omega) (by omega))
          rw [← hq] at HC0
          have lq1 : Q1.length ≤ P0.length + 10 := by rw [hq, List.length_append]; omega
          have HQ1 := Lib.hid hq
          clear hq
          refine wpAnyH_ready (rs := [4]) (by kernel_rfl) (by simp) ?_
          refine (AllReadyH.cons rfl (fun K hK => ?_) AllReadyH.nil)
          go_simp
          refine HC0.out.mono ?_
          intro e V1 hm
          obtain ⟨v, rfl, ho, hb⟩ := hm
          have HO1 := Lib.hid ho
          obtain ⟨A1, c1, rfl, -, -, hl⟩ := own_parts ho
          have HL1 := Lib.hid hl
          have HB1 : Hid (Below wa.heap.size wa V1) := Lib.hid (HB0.out.trans (hb.mono HB0.out.size))
          refine hK.out _ _ HB1 (fun hS => ?_)
          clear hK K ho hl hb HC0
          try simp only [Act.put, List.getElem_toArray, List.getElem_cons_succ, List.getElem_cons_zero, List.setIfInBounds_toArray, List.set_cons_zero, List.set_cons_succ]
          obtain ⟨Q2, hq⟩ : ∃ Q, Q = Q1 ++ enc b := ⟨_, rfl⟩
          have HC1 := Lib.hid (putv_calls A1 c1 (b) (Q1) V1 HL1.out (by omega) (by omega))
          rw [← hq] at HC1
          have lq2 : Q2.length ≤ Q1.length + 10 := by rw [hq, List.length_append]; omega
          have HQ2 := Lib.hid hq
          clear hq
          refine wpAnyH_ready (rs := [8]) (by kernel_rfl) (by simp) ?_
          refine (AllReadyH.cons rfl (fun K hK => ?_) AllReadyH.nil)
          go_simp
          refine HC1.out.mono ?_
          intro e V2 hm
          obtain ⟨v, rfl, ho, hb⟩ := hm
          have HO2 := Lib.hid ho
          obtain ⟨A2, c2, rfl, -, -, hl⟩ := own_parts ho
          have HL2 := Lib.hid hl
          have HB2 : Hid (Below wa.heap.size wa V2) := Lib.hid (HB1.out.trans (hb.mono HB1.out.size))
          refine hK.out _ _ HB2 (fun hS => ?_)
          clear hK K ho hl hb HC1
          try simp only [Act.put, List.getElem_toArray, List.getElem_cons_succ, List.getElem_cons_zero, List.setIfInBounds_toArray, List.set_cons_zero, List.set_cons_succ]
          obtain ⟨Q3, hq⟩ : ∃ Q, Q = Q2 ++ enc n := ⟨_, rfl⟩
          have HC2 := Lib.hid (putv_calls A2 c2 (n) (Q2) V2 HL2.out (by omega) (by omega))
          rw [← hq] at HC2
          have lq3 : Q3.length ≤ Q2.length + 10 := by rw [hq, List.length_append]; omega
          have HQ3 := Lib.hid hq
          clear hq
          refine wpAnyH_ready (rs := [12]) (by kernel_rfl) (by simp) ?_
          refine (AllReadyH.cons rfl (fun K hK => ?_) AllReadyH.nil)
          go_simp
          refine HC2.out.mono ?_
          intro e V3 hm
          obtain ⟨v, rfl, ho, hb⟩ := hm
          have HO3 := Lib.hid ho
          obtain ⟨A3, c3, rfl, -, -, hl⟩ := own_parts ho
          have HL3 := Lib.hid hl
          have HB3 : Hid (Below wa.heap.size wa V3) := Lib.hid (HB2.out.trans (hb.mono HB2.out.size))
          refine hK.out _ _ HB3 (fun hS => ?_)
          clear hK K ho hl hb HC2
          try simp only [Act.put, List.getElem_toArray, List.getElem_cons_succ, List.getElem_cons_zero, List.setIfInBounds_toArray, List.set_cons_zero, List.set_cons_succ]
          refine wpAnyH_take (i := 13) (v := ?_) rfl (by kernel_rfl) (by kernel_rfl) (by kernel_rfl) (fun _ _ _ h => h) (Or.inl ⟨by rfl, ?_⟩) hS ?_
          rotate_left
          · intro w hw
            go_simp
            try with_reducible rfl
          try simp only [Act.put, List.getElem_toArray, List.getElem_cons_succ, List.getElem_cons_zero, List.setIfInBounds_toArray, List.set_cons_zero, List.set_cons_succ]
          refine wpAnyH_done (by kernel_rfl) ?_ _
          have HE : Q3 = P1 := by rw [HP1.out, HQ3.out, HQ2.out, HQ1.out]
          rw [HE] at HL3
          go_wp2_with fail
          go_meet
          exact ⟨_, _, by rw [HE], HWB.out.below hB HB3.out, HBR.out.below HB3.out HBR.out.lt, HL3.out⟩
        case rest =>
        obtain ⟨A3, c3, rfl, hw3, hb3, hl3⟩ := hcut
        generalize wc = V3 at hw3 hb3 hl3 ⊢
        clear wc HP HWB HBR
        have HWB := Lib.hid hw3
        have HBR := Lib.hid hb3
        have HP := Lib.hid hl3
        clear hw3 hb3 hl3
        go_upto_region 9 with fail
        go_cut [3] (fun v wx => ∃ A c, v = .slice A P2.length c ∧ Wr w x B wx ∧ Box wx gr 41 [.int .i64 (f : Int), .int .i64 (b : Int), .int .i64 (n : Int), .slice d.firstA d.first.length d.firstC, .slice d.lastA d.last.length d.lastC, .int .u64 (d.seq : Int)] ∧ Lies wx wx.heap.size A (P2.map vb))
        case first =>
          refine wp_region_held_drew (S := fun w' => Hid (Below V3.heap.size V3 w')) (by kernel_rfl) (Lib.hid (Below.refl _ _).drew) (fun hS => ?_)
          have hp0 := HP.out
          have HB3 : Hid (Below V3.heap.size V3 V3.drew) := Lib.hid (Below.refl _ _).drew
          have HL3 : Hid (Lies V3.drew V3.drew.heap.size A3 (P1.map vb)) := Lib.hid hp0
          clear hp0
          refine wpAnyH_take (i := 0) (v := ?_) rfl (by kernel_rfl) (by kernel_rfl) (by kernel_rfl) (fun _ _ _ h => h) (Or.inl ⟨by rfl, ?_⟩) hS ?_
          rotate_left
          · intro w hw
            go_simp
            try with_reducible rfl
          try simp only [Act.put, List.getElem_toArray, List.getElem_cons_succ, List.getElem_cons_zero, List.setIfInBounds_toArray, List.set_cons_zero, List.set_cons_succ]
          refine wpAnyH_take (i := 1) (v := ?_) rfl (by kernel_rfl) (by kernel_rfl) (by kernel_rfl) (fun _ _ _ h => h) (Or.inl ⟨by rfl, ?_⟩) hS ?_
          rotate_left
          · intro w hw
            go_simp
            try with_reducible rfl
          try simp only [Act.put, List.getElem_toArray, List.getElem_cons_succ, List.getElem_cons_zero, List.setIfInBounds_toArray, List.set_cons_zero, List.set_cons_succ]
          refine wpAnyH_take (i := 2) (v := ?_) rfl (by kernel_rfl) (by kernel_rfl) (by kernel_rfl) (fun _ _ _ h => h) (Or.inl ⟨by rfl, ?_⟩) hS ?_
          rotate_left
          · intro w hw
            have q : w.cell? ⟨gr, 3, none⟩ = some (.slice d.firstA d.first.length d.firstC) := (HBR.out.below hw.out HBR.out.lt).cell 3
            go_simp
            try with_reducible rfl
          try simp only [Act.put, List.getElem_toArray, List.getElem_cons_succ, List.getElem_cons_zero, List.setIfInBounds_toArray, List.set_cons_zero, List.set_cons_succ]
          refine wpAnyH_take (i := 3) (v := ?_) rfl (by kernel_rfl) (by kernel_rfl) (by kernel_rfl) (fun _ _ _ h => h) (Or.inl ⟨by rfl, ?_⟩) hS ?_
          rotate_left
          · intro w hw
            go_simp
            try with_reducible rfl
          try simp only [Act.put, List.getElem_toArray, List.getElem_cons_succ, List.getElem_cons_zero, List.setIfInBounds_toArray, List.set_cons_zero, List.set_cons_succ]
          refine wpAnyH_take (i := 4) (v := ?_) rfl (by kernel_rfl) (by kernel_rfl) (by kernel_rfl) (fun _ _ _ h => h) (Or.inl ⟨by rfl, ?_⟩) hS ?_
          rotate_left
          · intro w hw
            go_simp
            try with_reducible rfl
          try simp only [Act.put, List.getElem_toArray, List.getElem_cons_succ, List.getElem_cons_zero, List.setIfInBounds_toArray, List.set_cons_zero, List.set_cons_succ]
          refine wpAnyH_take (i := 6) (v := ?_) rfl (by kernel_rfl) (by kernel_rfl) (by kernel_rfl) (fun _ _ _ h => h) (Or.inl ⟨by rfl, ?_⟩) hS ?_
          rotate_left
          · intro w hw
            go_simp
            try with_reducible rfl
          try simp only [Act.put, List.getElem_toArray, List.getElem_cons_succ, List.getElem_cons_zero, List.setIfInBounds_toArray, List.set_cons_zero, List.set_cons_succ]
          refine wpAnyH_take (i := 7) (v := ?_) rfl (by kernel_rfl) (by kernel_rfl) (by kernel_rfl) (fun _ _ _ h => h) (Or.inl ⟨by rfl, ?_⟩) hS ?_
          rotate_left
          · intro w hw
            have q : w.cell? ⟨gr, 3, none⟩ = some (.slice d.firstA d.first.length d.firstC) := (HBR.out.below hw.out HBR.out.lt).cell 3
            go_simp
            try with_reducible rfl
          try simp only [Act.put, List.getElem_toArray, List.getElem_cons_succ, List.getElem_cons_zero, List.setIfInBounds_toArray, List.set_cons_zero, List.set_cons_succ]
          obtain ⟨Q4, hq⟩ : ∃ Q, Q = P1 ++ enc d.first.length := ⟨_, rfl⟩
          have HC3 := Lib.hid (putv_calls A3 c3 (d.first.length) (P1) V3.drew HL3.out (by omega) (by omega))
          rw [← hq] at HC3
          have lq4 : Q4.length ≤ P1.length + 10 := by rw [hq, List.length_append]; omega
          have HQ4 := Lib.hid hq
          clear hq
          refine wpAnyH_ready (rs := [5]) (by kernel_rfl) (by simp) ?_
          refine (AllReadyH.cons rfl (fun K hK => ?_) AllReadyH.nil)
          go_simp
          refine HC3.out.mono ?_
          intro e V4 hm
          obtain ⟨v, rfl, ho, hb⟩ := hm
          have HO4 := Lib.hid ho
          obtain ⟨A4, c4, rfl, -, -, hl⟩ := own_parts ho
          have HL4 := Lib.hid hl
          have HB4 : Hid (Below V3.heap.size V3 V4) := Lib.hid (HB3.out.trans (hb.mono HB3.out.size))
          refine hK.out _ _ HB4 (fun hS => ?_)
          clear hK K ho hl hb HC3
          try simp only [Act.put, List.getElem_toArray, List.getElem_cons_succ, List.getElem_cons_zero, List.setIfInBounds_toArray, List.set_cons_zero, List.set_cons_succ]
          have HF : Hid (Lies V4 B d.firstA (d.first.map vb)) := Lib.hid (((HWB.out.ok.add.ok d (List.mem_of_getElem? HD.out)).fl.later (fun k hk => HB4.out.block k (Nat.lt_of_lt_of_le hk (Nat.le_trans hB HWB.out.be.size))) fun _ h => h).lies fun _ h => h)
          obtain ⟨v, V5, hr, ho, hb, -⟩ := run_append_lies (P := Try.prog) (w := V4) (base := V3.drew.heap.size) (m := d.first.length) (c := d.firstC) 29 29 5 (.int .u8 0) 1 1 Try.underlying29 (by kernel_rfl) rfl (by decide)
            (fun u hu => by simp at hu; obtain ⟨_, _, rfl⟩ := hu; rfl) HO4.out HF.out (by simp) (by unfold maxLen; omega) (by omega) HB4.out.size
          rw [← List.length_append, ← List.map_append] at ho
          obtain ⟨Q5, hq⟩ : ∃ Q, Q = Q4 ++ d.first := ⟨_, rfl⟩
          rw [← hq] at ho
          have HQ5 := Lib.hid hq
          clear hq
          obtain ⟨A5, c5, rfl, -, -, hl⟩ := own_parts ho
          have HRA := Lib.hid hr
          have HL5 := Lib.hid hl
          have HB5 : Hid (Below V3.heap.size V3 V5) := Lib.hid (HB4.out.trans hb)
          clear hr ho hl hb
          refine wpAnyH_ready (rs := [8]) (by kernel_rfl) (by simp) ?_
          refine (AllReadyH.cons rfl (fun K hK => ?_) AllReadyH.nil)
          refine held_append rfl _ _ 29 rfl rfl rfl HRA.out ?_
          refine hK.out _ _ HB5 (fun hS => ?_)
          clear hK K
          try simp only [Act.put, List.getElem_toArray, List.getElem_cons_succ, List.getElem_cons_zero, List.setIfInBounds_toArray, List.set_cons_zero, List.set_cons_succ]
          refine wpAnyH_take (i := 9) (v := ?_) rfl (by kernel_rfl) (by kernel_rfl) (by kernel_rfl) (fun _ _ _ h => h) (Or.inl ⟨by rfl, ?_⟩) hS ?_
          rotate_left
          · intro w hw
            go_simp
            try with_reducible rfl
          try simp only [Act.put, List.getElem_toArray, List.getElem_cons_succ, List.getElem_cons_zero, List.setIfInBounds_toArray, List.set_cons_zero, List.set_cons_succ]
          refine wpAnyH_done (by kernel_rfl) ?_ _
          have HE : Q5 = P2 := by rw [HP2.out, HQ5.out, HQ4.out]
          rw [HE] at HL5
          go_wp2_with fail
          go_meet
          exact ⟨_, _, by rw [HE], HWB.out.below hB HB5.out, HBR.out.below HB5.out HBR.out.lt, HL5.out⟩
        case rest =>
        obtain ⟨A5, c5, rfl, hw3, hb3, hl3⟩ := hcut
        generalize wc = V5 at hw3 hb3 hl3 ⊢
        clear wc HP HWB HBR
        have HWB := Lib.hid hw3
        have HBR := Lib.hid hb3
        have HP := Lib.hid hl3
        clear hw3 hb3 hl3
        go_upto_region 10 with fail
        go_cut [3] (fun v wx => ∃ A c, v = .slice A P3.length c ∧ Wr w x B wx ∧ Box wx gr 41 [.int .i64 (f : Int), .int .i64 (b : Int), .int .i64 (n : Int), .slice d.firstA d.first.length d.firstC, .slice d.lastA d.last.length d.lastC, .int .u64 (d.seq : Int)] ∧ Lies wx wx.heap.size A (P3.map vb))
        case first =>
          refine wp_region_held_drew (S := fun w' => Hid (Below V5.heap.size V5 w')) (by kernel_rfl) (Lib.hid (Below.refl _ _).drew) (fun hS => ?_)
          have hp0 := HP.out
          have HB5 : Hid (Below V5.heap.size V5 V5.drew) := Lib.hid (Below.refl _ _).drew
          have HL5 : Hid (Lies V5.drew V5.drew.heap.size A5 (P2.map vb)) := Lib.hid hp0
          clear hp0
          refine wpAnyH_take (i := 0) (v := ?_) rfl (by kernel_rfl) (by kernel_rfl) (by kernel_rfl) (fun _ _ _ h => h) (Or.inl ⟨by rfl, ?_⟩) hS ?_
          rotate_left
          · intro w hw
            go_simp
            try with_reducible rfl
          try simp only [Act.put, List.getElem_toArray, List.getElem_cons_succ, List.getElem_cons_zero, List.setIfInBounds_toArray, List.set_cons_zero, List.set_cons_succ]
          refine wpAnyH_take (i := 1) (v := ?_) rfl (by kernel_rfl) (by kernel_rfl) (by kernel_rfl) (fun _ _ _ h => h) (Or.inl ⟨by rfl, ?_⟩) hS ?_
          rotate_left
          · intro w hw
            go_simp
            try with_reducible rfl
          try simp only [Act.put, List.getElem_toArray, List.getElem_cons_succ, List.getElem_cons_zero, List.setIfInBounds_toArray, List.set_cons_zero, List.set_cons_succ]
          refine wpAnyH_take (i := 2) (v := ?_) rfl (by kernel_rfl) (by kernel_rfl) (by kernel_rfl) (fun _ _ _ h => h) (Or.inl ⟨by rfl, ?_⟩) hS ?_
          rotate_left
          · intro w hw
            have q : w.cell? ⟨gr, 4, none⟩ = some (.slice d.lastA d.last.length d.lastC) := (HBR.out.below hw.out HBR.out.lt).cell 4
            go_simp
            try with_reducible rfl
          try simp only [Act.put, List.getElem_toArray, List.getElem_cons_succ, List.getElem_cons_zero, List.setIfInBounds_toArray, List.set_cons_zero, List.set_cons_succ]
          refine wpAnyH_take (i := 3) (v := ?_) rfl (by kernel_rfl) (by kernel_rfl) (by kernel_rfl) (fun _ _ _ h => h) (Or.inl ⟨by rfl, ?_⟩) hS ?_
          rotate_left
          · intro w hw
            go_simp
            try with_reducible rfl
          try simp only [Act.put, List.getElem_toArray, List.getElem_cons_succ, List.getElem_cons_zero, List.setIfInBounds_toArray, List.set_cons_zero, List.set_cons_succ]
          refine wpAnyH_take (i := 4) (v := ?_) rfl (by kernel_rfl) (by kernel_rfl) (by kernel_rfl) (fun _ _ _ h => h) (Or.inl ⟨by rfl, ?_⟩) hS ?_
          rotate_left
          · intro w hw
            go_simp
            try with_reducible rfl
          try simp only [Act.put, List.getElem_toArray, List.getElem_cons_succ, List.getElem_cons_zero, List.setIfInBounds_toArray, List.set_cons_zero, List.set_cons_succ]
          refine wpAnyH_take (i := 6) (v := ?_) rfl (by kernel_rfl) (by kernel_rfl) (by kernel_rfl) (fun _ _ _ h => h) (Or.inl ⟨by rfl, ?_⟩) hS ?_
          rotate_left
          · intro w hw
            go_simp
            try with_reducible rfl
          try simp only [Act.put, List.getElem_toArray, List.getElem_cons_succ, List.getElem_cons_zero, List.setIfInBounds_toArray, List.set_cons_zero, List.set_cons_succ]
          refine wpAnyH_take (i := 7) (v := ?_) rfl (by kernel_rfl) (by kernel_rfl) (by kernel_rfl) (fun _ _ _ h => h) (Or.inl ⟨by rfl, ?_⟩) hS ?_
          rotate_left
          · intro w hw
            have q : w.cell? ⟨gr, 4, none⟩ = some (.slice d.lastA d.last.length d.lastC) := (HBR.out.below hw.out HBR.out.lt).cell 4
            go_simp
            try with_reducible rfl
          try simp only [Act.put, List.getElem_toArray, List.getElem_cons_succ, List.getElem_cons_zero, List.setIfInBounds_toArray, List.set_cons_zero, List.set_cons_succ]
          obtain ⟨Q6, hq⟩ : ∃ Q, Q = P2 ++ enc d.last.length := ⟨_, rfl⟩
          have HC5 := Lib.hid (putv_calls A5 c5 (d.last.length) (P2) V5.drew HL5.out (by omega) (by omega))
          rw [← hq] at HC5
          have lq6 : Q6.length ≤ P2.length + 10 := by rw [hq, List.length_append]; omega
          have HQ6 := Lib.hid hq
          clear hq
          refine wpAnyH_ready (rs := [5]) (by kernel_rfl) (by simp) ?_
          refine (AllReadyH.cons rfl (fun K hK => ?_) AllReadyH.nil)
          go_simp
          refine HC5.out.mono ?_
          intro e V6 hm
          obtain ⟨v, rfl, ho, hb⟩ := hm
          have HO6 := Lib.hid ho
          obtain ⟨A6, c6, rfl, -, -, hl⟩ := own_parts ho
          have HL6 := Lib.hid hl
          have HB6 : Hid (Below V5.heap.size V5 V6) := Lib.hid (HB5.out.trans (hb.mono HB5.out.size))
          refine hK.out _ _ HB6 (fun hS => ?_)
          clear hK K ho hl hb HC5
          try simp only [Act.put, List.getElem_toArray, List.getElem_cons_succ, List.getElem_cons_zero, List.setIfInBounds_toArray, List.set_cons_zero, List.set_cons_succ]
          have HF : Hid (Lies V6 B d.lastA (d.last.map vb)) := Lib.hid (((HWB.out.ok.add.ok d (List.mem_of_getElem? HD.out)).ll.later (fun k hk => HB6.out.block k (Nat.lt_of_lt_of_le hk (Nat.le_trans hB HWB.out.be.size))) fun _ h => h).lies fun _ h => h)
          obtain ⟨v, V7, hr, ho, hb, -⟩ := run_append_lies (P := Try.prog) (w := V6) (base := V5.drew.heap.size) (m := d.last.length) (c := d.lastC) 29 29 5 (.int .u8 0) 1 1 Try.underlying29 (by kernel_rfl) rfl (by decide)
            (fun u hu => by simp at hu; obtain ⟨_, _, rfl⟩ := hu; rfl) HO6.out HF.out (by simp) (by unfold maxLen; omega) (by omega) HB6.out.size
          rw [← List.length_append, ← List.map_append] at ho
          obtain ⟨Q7, hq⟩ : ∃ Q, Q = Q6 ++ d.last := ⟨_, rfl⟩
          rw [← hq] at ho
          have HQ7 := Lib.hid hq
          clear hq
          obtain ⟨A7, c7, rfl, -, -, hl⟩ := own_parts ho
          have HRA := Lib.hid hr
          have HL7 := Lib.hid hl
          have HB7 : Hid (Below V5.heap.size V5 V7) := Lib.hid (HB6.out.trans hb)
          clear hr ho hl hb
          refine wpAnyH_ready (rs := [8]) (by kernel_rfl) (by simp) ?_
          refine (AllReadyH.cons rfl (fun K hK => ?_) AllReadyH.nil)
          refine held_append rfl _ _ 29 rfl rfl rfl HRA.out ?_
          refine hK.out _ _ HB7 (fun hS => ?_)
          clear hK K
          try simp only [Act.put, List.getElem_toArray, List.getElem_cons_succ, List.getElem_cons_zero, List.setIfInBounds_toArray, List.set_cons_zero, List.set_cons_succ]
          refine wpAnyH_take (i := 9) (v := ?_) rfl (by kernel_rfl) (by kernel_rfl) (by kernel_rfl) (fun _ _ _ h => h) (Or.inl ⟨by rfl, ?_⟩) hS ?_
          rotate_left
          · intro w hw
            go_simp
            try with_reducible rfl
          try simp only [Act.put, List.getElem_toArray, List.getElem_cons_succ, List.getElem_cons_zero, List.setIfInBounds_toArray, List.set_cons_zero, List.set_cons_succ]
          refine wpAnyH_done (by kernel_rfl) ?_ _
          have HE : Q7 = P3 := by rw [HP3.out, HQ7.out, HQ6.out]
          rw [HE] at HL7
          go_wp2_with fail
          go_meet
          exact ⟨_, _, by rw [HE], HWB.out.below hB HB7.out, HBR.out.below HB7.out HBR.out.lt, HL7.out⟩
        case rest =>
        obtain ⟨A7, c7, rfl, hw3, hb3, hl3⟩ := hcut
        generalize wc = V7 at hw3 hb3 hl3 ⊢
        clear wc HP HWB HBR
        have HWB := Lib.hid hw3
        have HBR := Lib.hid hb3
        have HP := Lib.hid hl3
        clear hw3 hb3 hl3
        have HC := Lib.hid (putv_calls A7 c7 d.seq P3 V7 HP.out (by omega) (by omega))
        have q5 : V7.cell? ⟨gr, 5, none⟩ = some (.int .u64 (d.seq : Int)) := HBR.out.cell 5
        go_wp2_with fail
        refine HC.out.mono ?_
        intro e W9 hm
        obtain ⟨A9, c9, rfl, -, -, hl9, hb9⟩ := hm.parts
        have HW9 := Lib.hid (HWB.out.below hB hb9)
        have HL9 := Lib.hid hl9
        clear hm hl9 hb9 HC q5
        go_wp2_with fail
        go_roundw
        case rel => exact ⟨k + 1, A9, c9, P3 ++ enc d.seq, by omega, by go_num, by rw [List.length_append], HW9, HL9, Lib.hid (by
          rw [List.take_add_one, HD.out, HP3.out, HP2.out, HP1.out, hPe.out]
          simp only [Option.toList_some, List.map_append, List.map_cons, List.map_nil, List.flatMap_append, List.flatMap_cons, List.flatMap_nil, List.append_nil, HEN.out, List.append_assoc]), Lib.hid (by simp only [List.length_append]; omega)⟩
        case measure => simp [intOf]; omega
      · obtain rfl : k = x.add.length := by omega
        have HPE1 : Hid (P0 = enc x.add.length ++ (x.add.map D.ru).flatMap encR) := Lib.hid (by have := hPe.out; rw [List.take_length] at this; exact this)
        have hpl := hPl.out
        have p1 : wr.cell? ⟨w.heap.size, 1, none⟩ = some (.slice x.dropA x.drop.length x.dropC) := hw.out.bx.cell 1
        have HC := Lib.hid (putv_calls A0 c0 x.drop.length P0 wr HP.out (by omega) (by omega))
        obtain ⟨Pd, hPd⟩ : ∃ P, P = P0 ++ enc x.drop.length := ⟨_, rfl⟩
        rw [← hPd] at HC
        have lpd : Pd.length ≤ P0.length + 10 := by rw [hPd, List.length_append]; have := enc_le x.drop.length; omega
        have HPD := Lib.hid hPd
        clear hPd hPe hPl
        go_wp2_with fail
        refine HC.out.mono ?_
        intro e W4 hm
        obtain ⟨Ad, cd, rfl, -, -, hl4, hb4⟩ := hm.parts
        have HW4 := Lib.hid (hw.out.below hB hb4)
        have HL4 := Lib.hid hl4
        clear hm hl4 hb4 HC p1 p0 hw HP
        go_wp2_with fail
        go_loopw [3, 6] (fun v i wr => ∃ (j : Nat) (A : Option Addr) (c : Nat) (P : List Nat), j ≤ x.drop.length ∧ i = .int .i64 (j : Int) ∧ v = .slice A P.length c ∧ Hid (Wr w x B wr) ∧ Hid (Lies wr wr.heap.size A (P.map vb)) ∧ Hid (P = Pd ++ (x.drop.take j).flatMap encI) ∧ Hid (P.length ≤ Pd.length + 10 * j)) (fun _ i _ => x.drop.length + 1 - (intOf i).toNat)
        case atStart => exact ⟨0, Ad, cd, _, Nat.zero_le _, rfl, rfl, HW4, HL4, Lib.hid (by simp), Lib.hid (by omega)⟩
        case round =>
          obtain ⟨j, A1, c1, P1, hj, rfl, rfl, hw, HP, hPe, hPl⟩ := hrel
          have hp1 : wr.cell? ⟨w.heap.size, 1, none⟩ = some (.slice x.dropA x.drop.length x.dropC) := hw.out.bx.cell 1
          have hpm := hPl.out
          by_cases hlt : j < x.drop.length
          · obtain ⟨z, hz⟩ : ∃ z, x.drop[j]? = some z := ⟨_, List.getElem?_eq_getElem hlt⟩
            obtain ⟨ad, hA, -, hc⟩ := hw.out.ok.dl.place (by rw [List.length_map]; omega)
            have hc1 := hc j _ (by rw [List.getElem?_map, hz]; rfl)
            rw [hA] at hp1
            have hoz := of_decide_eq_true (HR9.out z (List.mem_of_getElem? hz))
            obtain ⟨f, hf⟩ : ∃ f : Nat, z = (f : Int) := ⟨z.toNat, by omega⟩
            subst hf
            have hf2 : f ≤ 1099511627776 := by omega
            have HZ := Lib.hid hz
            have f1 := wrap_u64 (f := f) (by omega)
            have g1 := enc_le f
            have HC := Lib.hid (putv_calls A1 c1 f P1 wr HP.out (by omega) (by omega))
            clear hA hc hz hoz
            go_wp2_with fail
            refine HC.out.mono ?_
            intro e W5 hm
            obtain ⟨A5, c5, rfl, -, -, hl5, hb5⟩ := hm.parts
            have HW5 := Lib.hid (hw.out.below hB hb5)
            have HL5 := Lib.hid hl5
            clear hm hl5 hb5 HC hp1 hc1
            go_wp2_with fail
            go_roundw
            case rel => exact ⟨j + 1, A5, c5, P1 ++ enc f, by omega, by go_num, by first | rfl | rw [List.length_append], HW5, HL5, Lib.hid (by
              rw [List.take_add_one, HZ.out, hPe.out]
              simp only [Option.toList_some, List.flatMap_append, List.flatMap_cons, List.flatMap_nil, List.append_nil, List.append_assoc, encI, Int.toNat_natCast]), Lib.hid (by simp only [List.length_append]; omega)⟩
            case measure => simp [intOf]; omega
          · obtain rfl : j = x.drop.length := by omega
            have HPE2 : Hid (P1 = Pd ++ x.drop.flatMap encI) := Lib.hid (by have := hPe.out; rw [List.take_length] at this; exact this)
            obtain ⟨nx, hnx⟩ : ∃ f : Nat, x.next = (f : Int) := ⟨x.next.toNat, by omega⟩
            obtain ⟨lg, hlg⟩ : ∃ f : Nat, x.log = (f : Int) := ⟨x.log.toNat, by omega⟩
            have q2 : nx ≤ 1099511627776 := by omega
            have q3 : lg ≤ 1099511627776 := by omega
            have f1 := wrap_u64 (f := nx) (by omega)
            have f2 := wrap_u64 (f := lg) (by omega)
            have g1 := enc_le nx
            have g2 := enc_le lg
            have g3 := enc_le x.seq
            have HBX : Hid (Box wr w.heap.size 26 [.slice x.addA x.add.length x.addC, .slice x.dropA x.drop.length x.dropC, .int .i64 (nx : Int), .int .i64 (lg : Int), .int .u64 (x.seq : Int)]) := Lib.hid (by have := hw.out.bx; rw [hnx, hlg] at this; exact this)
            have HEN : Hid (encE x.e = P1 ++ enc nx ++ enc lg ++ enc x.seq) := Lib.hid (by
              rw [HPE2.out, HPD.out, HPE1.out]
              unfold encE X.e
              simp only [List.length_map, List.append_assoc, List.append_nil, encI, hnx, hlg, Int.toNat_natCast])
            have HBE := Lib.hid hw.out.be
            clear hPe hPl hnx hlg n3 n4
            go_upto_region 17 with fail
            refine wp_region_held_drew (S := fun w' => Hid (Below wr.heap.size wr w')) (by kernel_rfl) (Lib.hid (Below.refl _ _).drew) (fun hS => ?_)
            have hp0 := HP.out
            have HB1 : Hid (Below wr.heap.size wr wr.drew) := Lib.hid (Below.refl _ _).drew
            have HL1 : Hid (Lies wr.drew wr.drew.heap.size A1 (P1.map vb)) := Lib.hid hp0
            clear hp0
            refine wpAnyH_take (i := 0) (v := ?_) rfl (by kernel_rfl) (by kernel_rfl) (by kernel_rfl) (fun _ _ _ h => h) (Or.inl ⟨by rfl, ?_⟩) hS ?_
            rotate_left
            · intro wi hw
              go_simp
              try with_reducible rfl
            try simp only [Act.put, List.getElem_toArray, List.getElem_cons_succ, List.getElem_cons_zero, List.setIfInBounds_toArray, List.set_cons_zero, List.set_cons_succ]
            refine wpAnyH_take (i := 1) (v := ?_) rfl (by kernel_rfl) (by kernel_rfl) (by kernel_rfl) (fun _ _ _ h => h) (Or.inl ⟨by rfl, ?_⟩) hS ?_
            rotate_left
            · intro wi hw
              go_simp
              try with_reducible rfl
            try simp only [Act.put, List.getElem_toArray, List.getElem_cons_succ, List.getElem_cons_zero, List.setIfInBounds_toArray, List.set_cons_zero, List.set_cons_succ]
            refine wpAnyH_take (i := 2) (v := ?_) rfl (by kernel_rfl) (by kernel_rfl) (by kernel_rfl) (fun _ _ _ h => h) (Or.inl ⟨by rfl, ?_⟩) hS ?_
            rotate_left
            · intro wi hw
              have q : wi.cell? ⟨w.heap.size, 2, none⟩ = some (.int .i64 (nx : Int)) := (HBX.out.below hw.out HBX.out.lt).cell 2
              go_simp
              try with_reducible rfl
            try simp only [Act.put, List.getElem_toArray, List.getElem_cons_succ, List.getElem_cons_zero, List.setIfInBounds_toArray, List.set_cons_zero, List.set_cons_succ]
            refine wpAnyH_take (i := 3) (v := ?_) rfl (by kernel_rfl) (by kernel_rfl) (by kernel_rfl) (fun _ _ _ h => h) (Or.inl ⟨by rfl, ?_⟩) hS ?_
            rotate_left
            · intro wi hw
              go_simp
              try with_reducible rfl
            try simp only [Act.put, List.getElem_toArray, List.getElem_cons_succ, List.getElem_cons_zero, List.setIfInBounds_toArray, List.set_cons_zero, List.set_cons_succ]
            refine wpAnyH_take (i := 5) (v := ?_) rfl (by kernel_rfl) (by kernel_rfl) (by kernel_rfl) (fun _ _ _ h => h) (Or.inl ⟨by rfl, ?_⟩) hS ?_
            rotate_left
            · intro wi hw
              go_simp
              try with_reducible rfl
            try simp only [Act.put, List.getElem_toArray, List.getElem_cons_succ, List.getElem_cons_zero, List.setIfInBounds_toArray, List.set_cons_zero, List.set_cons_succ]
            refine wpAnyH_take (i := 6) (v := ?_) rfl (by kernel_rfl) (by kernel_rfl) (by kernel_rfl) (fun _ _ _ h => h) (Or.inl ⟨by rfl, ?_⟩) hS ?_
            rotate_left
            · intro wi hw
              have q : wi.cell? ⟨w.heap.size, 3, none⟩ = some (.int .i64 (lg : Int)) := (HBX.out.below hw.out HBX.out.lt).cell 3
              go_simp
              try with_reducible rfl
            try simp only [Act.put, List.getElem_toArray, List.getElem_cons_succ, List.getElem_cons_zero, List.setIfInBounds_toArray, List.set_cons_zero, List.set_cons_succ]
            refine wpAnyH_take (i := 7) (v := ?_) rfl (by kernel_rfl) (by kernel_rfl) (by kernel_rfl) (fun _ _ _ h => h) (Or.inl ⟨by rfl, ?_⟩) hS ?_
            rotate_left
            · intro wi hw
              go_simp
              try with_reducible rfl
            try simp only [Act.put, List.getElem_toArray, List.getElem_cons_succ, List.getElem_cons_zero, List.setIfInBounds_toArray, List.set_cons_zero, List.set_cons_succ]
            refine wpAnyH_take (i := 9) (v := ?_) rfl (by kernel_rfl) (by kernel_rfl) (by kernel_rfl) (fun _ _ _ h => h) (Or.inl ⟨by rfl, ?_⟩) hS ?_
            rotate_left
            · intro wi hw
              go_simp
              try with_reducible rfl
            try simp only [Act.put, List.getElem_toArray, List.getElem_cons_succ, List.getElem_cons_zero, List.setIfInBounds_toArray, List.set_cons_zero, List.set_cons_succ]
            refine wpAnyH_take (i := 10) (v := ?_) rfl (by kernel_rfl) (by kernel_rfl) (by kernel_rfl) (fun _ _ _ h => h) (Or.inl ⟨by rfl, ?_⟩) hS ?_
            rotate_left
            · intro wi hw
              have q : wi.cell? ⟨w.heap.size, 4, none⟩ = some (.int .u64 (x.seq : Int)) := (HBX.out.below hw.out HBX.out.lt).cell 4
              go_simp
              try with_reducible rfl
            try simp only [Act.put, List.getElem_toArray, List.getElem_cons_succ, List.getElem_cons_zero, List.setIfInBounds_toArray, List.set_cons_zero, List.set_cons_succ]
            obtain ⟨Q2, hq⟩ : ∃ Q, Q = P1 ++ enc nx := ⟨_, rfl⟩
            have HC1 := Lib.hid (putv_calls A1 c1 (nx) (P1) wr.drew HL1.out (by omega) (by omega))
            rw [← hq] at HC1
            have lq2 : Q2.length ≤ P1.length + 10 := by rw [hq, List.length_append]; omega
            have HQ2 := Lib.hid hq
            clear hq
            refine wpAnyH_ready (rs := [4]) (by kernel_rfl) (by simp) ?_
            refine (AllReadyH.cons rfl (fun K hK => ?_) AllReadyH.nil)
            go_simp
            refine HC1.out.mono ?_
            intro e V2 hm
            obtain ⟨v, rfl, ho, hb⟩ := hm
            have HO2 := Lib.hid ho
            obtain ⟨A2, c2, rfl, -, -, hl⟩ := own_parts ho
            have HL2 := Lib.hid hl
            have HB2 : Hid (Below wr.heap.size wr V2) := Lib.hid (HB1.out.trans (hb.mono HB1.out.size))
            refine hK.out _ _ HB2 (fun hS => ?_)
            clear hK K ho hl hb HC1
            try simp only [Act.put, List.getElem_toArray, List.getElem_cons_succ, List.getElem_cons_zero, List.setIfInBounds_toArray, List.set_cons_zero, List.set_cons_succ]
            obtain ⟨Q3, hq⟩ : ∃ Q, Q = Q2 ++ enc lg := ⟨_, rfl⟩
            have HC2 := Lib.hid (putv_calls A2 c2 (lg) (Q2) V2 HL2.out (by omega) (by omega))
            rw [← hq] at HC2
            have lq3 : Q3.length ≤ Q2.length + 10 := by rw [hq, List.length_append]; omega
            have HQ3 := Lib.hid hq
            clear hq
            refine wpAnyH_ready (rs := [8]) (by kernel_rfl) (by simp) ?_
            refine (AllReadyH.cons rfl (fun K hK => ?_) AllReadyH.nil)
            go_simp
            refine HC2.out.mono ?_
            intro e V3 hm
            obtain ⟨v, rfl, ho, hb⟩ := hm
            have HO3 := Lib.hid ho
            obtain ⟨A3, c3, rfl, -, -, hl⟩ := own_parts ho
            have HL3 := Lib.hid hl
            have HB3 : Hid (Below wr.heap.size wr V3) := Lib.hid (HB2.out.trans (hb.mono HB2.out.size))
            refine hK.out _ _ HB3 (fun hS => ?_)
            clear hK K ho hl hb HC2
            try simp only [Act.put, List.getElem_toArray, List.getElem_cons_succ, List.getElem_cons_zero, List.setIfInBounds_toArray, List.set_cons_zero, List.set_cons_succ]
            obtain ⟨Q4, hq⟩ : ∃ Q, Q = Q3 ++ enc x.seq := ⟨_, rfl⟩
            have HC3 := Lib.hid (putv_calls A3 c3 (x.seq) (Q3) V3 HL3.out (by omega) (by omega))
            rw [← hq] at HC3
            have lq4 : Q4.length ≤ Q3.length + 10 := by rw [hq, List.length_append]; omega
            have HQ4 := Lib.hid hq
            clear hq
            refine wpAnyH_ready (rs := [11]) (by kernel_rfl) (by simp) ?_
            refine (AllReadyH.cons rfl (fun K hK => ?_) AllReadyH.nil)
            go_simp
            refine HC3.out.mono ?_
            intro e V4 hm
            obtain ⟨v, rfl, ho, hb⟩ := hm
            have HO4 := Lib.hid ho
            obtain ⟨A4, c4, rfl, -, -, hl⟩ := own_parts ho
            have HL4 := Lib.hid hl
            have HB4 : Hid (Below wr.heap.size wr V4) := Lib.hid (HB3.out.trans (hb.mono HB3.out.size))
            refine hK.out _ _ HB4 (fun hS => ?_)
            clear hK K ho hl hb HC3
            try simp only [Act.put, List.getElem_toArray, List.getElem_cons_succ, List.getElem_cons_zero, List.setIfInBounds_toArray, List.set_cons_zero, List.set_cons_succ]
            refine wpAnyH_take (i := 12) (v := ?_) rfl (by kernel_rfl) (by kernel_rfl) (by kernel_rfl) (fun _ _ _ h => h) (Or.inl ⟨by rfl, ?_⟩) hS ?_
            rotate_left
            · intro wi hw
              go_simp
              try with_reducible rfl
            try simp only [Act.put, List.getElem_toArray, List.getElem_cons_succ, List.getElem_cons_zero, List.setIfInBounds_toArray, List.set_cons_zero, List.set_cons_succ]
            refine wpAnyH_done (by kernel_rfl) ?_ _
            have HF : Q4 = encE x.e := by rw [HEN.out, HQ4.out, HQ3.out, HQ2.out]
            go_wp2_with fail
            go_ret
            rw [HE.out, ← HF]
            exact ⟨_, rfl, own_lower HO4.out (Nat.le_trans HBE.out.size HB3.out.size), HBE.out.trans (HB4.out.mono HBE.out.size)⟩
end Go.Proofs.Ythhmjjmjicmhdaa.Ed
