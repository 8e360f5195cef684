/- Package edit: Bytes. -/
import Derived.Test.YthhmjjmjicmhdaaEp3
namespace Go.Proofs.Ythhmjjmjicmhdaa.Ed
set_option linter.unusedVariables false
set_option linter.unusedSimpArgs false
open Go.RowKit Lift Ik Vn Bt
/-- What the writing of an edit keeps. -/
structure Wo (w : World) (x : X) (B : Nat) (v : Value) (P : List Nat) (wr : World) : Prop where
  wb : Wb w x B wr
  own : wr.ownsRow w.heap.size 5 1 v P.length (P.map vb)
section
variable {w wr w' : World} {x : X} {B : Nat} {v v' : Value} {P P' : List Nat}
theorem Wo.below (h : Wo w x B v P wr) (hB : B ≤ w.heap.size) (hb : Below wr.heap.size wr w') : Wo w x B v P w' := ⟨h.wb.below hB hb, own_later h.own hb⟩
theorem Wo.grew (h : Wo w x B v P wr) (hB : B ≤ w.heap.size) (ho : w'.ownsRow w.heap.size 5 1 v' P'.length (P'.map vb)) (hon : Onto v v' wr w') : Wo w x B v' P' w' := by
  have hb := hon.below h.own h.wb.be.size
  exact ⟨⟨h.wb.be.trans hb, h.wb.ok.below (hb.mono hB), h.wb.bx.keep hon.keep (own_apart h.own h.wb.bx (by decide))⟩, ho⟩
theorem Wb.cells (h : Wb w x B wr) : wr.cell? ⟨w.heap.size, 0, none⟩ = some (.slice x.addA x.add.length x.addC) ∧ wr.cell? ⟨w.heap.size, 1, none⟩ = some (.slice x.dropA x.drop.length x.dropC) ∧ wr.cell? ⟨w.heap.size, 2, none⟩ = some (.int .i64 x.next) ∧ wr.cell? ⟨w.heap.size, 3, none⟩ = some (.int .i64 x.log) ∧ wr.cell? ⟨w.heap.size, 4, none⟩ = some (.int .u64 (x.seq : Int)) :=
  ⟨h.bx.cell 0, h.bx.cell 1, h.bx.cell 2, h.bx.cell 3, h.bx.cell 4⟩
theorem Wb.load (h : Wb w x B wr) : Sem.run Try.prog (loadVar 26 ⟨w.heap.size, 0, none⟩) wr = .ok x.v wr := by
  have hl := run_loadVar_row (P := Try.prog) wr w.heap.size 26 26 #[.slice x.addA x.add.length x.addC, .slice x.dropA x.drop.length x.dropC, .int .i64 x.next, .int .i64 x.log, .int .u64 (x.seq : Int)] (0, 0) _ h.bx Try.underlying26 rfl (by kernel_rfl)
  exact hl
end
set_option maxRecDepth 100000 in
set_option maxHeartbeats 6400000 in
theorem obytes_any (x : X) (B : Nat) (w : World) (hx : x.Ok w B) (hB : B ≤ w.heap.size) : Calls Try.prog 14 #[x.v] w (Made w.heap.size w (bytesE x.e)) := by
  have b5 := Nat.le_trans hx.add.len hx.add.cap
  have b6 := Nat.le_trans hx.dc hx.dm
  have b7 := hx.sq
  have HW1 := Lib.hid (Wb.new hx hB)
  have HR := Lib.hid (oright_any x B _ HW1.out.ok (Nat.le_trans hB HW1.out.be.size))
  clear hx
  unfold maxLen at b5 b6
  have ql := HW1.out.load
  obtain ⟨q0, q1, q2, q3, q4⟩ := HW1.out.cells
  go_enter Try.func14, Try.ntmps14
  go_wp2_with fail
  refine HR.out.mono ?_
  rintro e W2 ⟨rfl, hb2⟩
  have HW2 := Lib.hid (HW1.out.below hB hb2)
  clear hb2 HR HW1 ql q0 q1 q2 q3 q4
  rcases hri : right x.e
  · have HE : Hid (bytesE x.e = []) := Lib.hid (by unfold bytesE; rw [hri]; rfl)
    clear hri
    go_wp2_with fail
    go_ret
    rw [HE.out]
    exact ⟨_, rfl, World.ownsRow_nil _ _ _ _, HW2.out.be⟩
  · have HE : Hid (bytesE x.e = encE x.e) := Lib.hid (by unfold bytesE; rw [hri]; rfl)
    obtain ⟨r1, r2, r3, r4, r5, -, -, r8, r9⟩ := right_parts hri
    have ha100 : x.add.length ≤ 100 := by unfold X.e at r1; simpa using r1
    have hd100 : x.drop.length ≤ 100 := r2
    have HN3 : Hid (0 ≤ x.next ∧ x.next ≤ 1099511627776) := Lib.hid (of_decide_eq_true r3)
    have HN4 : Hid (0 ≤ x.log ∧ x.log ≤ 1099511627776) := Lib.hid (of_decide_eq_true r4)
    have HR8 : Hid (∀ d, d ∈ x.add → okR d.ru = true) := Lib.hid fun d hd => r8 d.ru (List.mem_map_of_mem hd)
    have HR9 : Hid (∀ z, z ∈ x.drop → 0 ≤ z ∧ z ≤ 9223372036854775807) := Lib.hid fun z hz => by have := of_decide_eq_true (r9 z hz); omega
    clear hri r1 r2 r3 r4 r5 r8 r9
    -- the number of runs
    have HW3 : Hid (Wo w x B (.slice none 0 0) [] W2) := Lib.hid ⟨HW2.out, World.ownsRow_nil _ _ _ _⟩
    have hb1 := Joins.below_alloc1 W2 (.cells #[.int .i64 (x.add.length : Int)] 3)
    have HI := Lib.hid (oints_any w.heap.size 1 (.slice none 0 0) (some ⟨W2.heap.size, 0, none⟩) [] [(x.add.length : Int)] (W2.alloc (.cells #[.int .i64 (x.add.length : Int)] 3)) (own_later HW3.out.own hb1) (Nat.le_trans HW2.out.be.size hb1.size) (off_new HW3.out.own #[.int .i64 (x.add.length : Int)] 3) (by simp) (by decide)
      (fun z hz => by simp at hz; subst hz; omega) (by simp) (by simp))
    have HW4 := Lib.hid (HW3.out.below hB hb1)
    obtain ⟨q0, q1, q2, q3, q4⟩ := HW2.out.cells
    clear hb1 HW2 HW3
    go_wp2_with fail
    refine HI.out.mono ?_
    rintro e W5 ⟨v5, rfl, ho5, hon5⟩
    have e5 : [] ++ [(x.add.length : Int)].flatMap encI = enc x.add.length := by simp [encI]
    rw [e5] at ho5
    have HW5 := Lib.hid (HW4.out.grew hB ho5 hon5)
    clear ho5 hon5 e5 HI HW4 q0 q1 q2 q3 q4
    obtain ⟨q0, q1, q2, q3, q4⟩ := HW5.out.wb.cells
    go_wp2_with fail
    go_loopw [3, 17] (fun v i wr => ∃ (k : Nat) (P : List Nat), k ≤ x.add.length ∧ i = .int .i64 (k : Int) ∧ Hid (Wo w x B v P wr) ∧ Hid (P = enc x.add.length ++ ((x.add.take k).map D.ru).flatMap encR) ∧ Hid (P.length ≤ 10 + 600 * k)) (fun _ i _ => x.add.length + 1 - (intOf i).toNat)
    case atStart => exact ⟨0, _, Nat.zero_le _, rfl, HW5, Lib.hid (by simp), Lib.hid (oenc_le _)⟩
    case round =>
      obtain ⟨k, P0, hk, rfl, hw, hPe, hPl⟩ := hrel
      clear q0 q1 q2 q3 q4
      by_cases hlt : k < x.add.length
      · obtain ⟨d, hd⟩ : ∃ d, x.add[k]? = some d := ⟨_, List.getElem?_eq_getElem hlt⟩
        obtain ⟨ad, p, hA, -, hpp, p0, p1, p2, p3, p4, p5⟩ := hw.out.wb.ok.add.place hd
        have pl := load_run p0 p1 p2 p3 p4 p5
        have HD := Lib.hid hd
        have HOK := Lib.hid (hw.out.wb.ok.add.ok d (List.mem_of_getElem? hd))
        have HRD := Lib.hid (HR8.out d (List.mem_of_getElem? hd))
        rw [hA]
        clear hd hA
        go_upto_region 7 with fail
        have hba := Joins.below_alloc1 wr (.cells #[.int .i64 d.file, .int .i64 d.bytes, .int .i64 d.count, .slice d.firstA d.first.length d.firstC, .slice d.lastA d.last.length d.lastC, .int .u64 (d.seq : Int)] 41)
        have HBX : Hid (Box (wr.alloc (.cells #[.int .i64 d.file, .int .i64 d.bytes, .int .i64 d.count, .slice d.firstA d.first.length d.firstC, .slice d.lastA d.last.length d.lastC, .int .u64 (d.seq : Int)] 41)) wr.heap.size 41 d.cells) := Lib.hid (Box.new wr 41 d.cells)
        have HW6 := Lib.hid (hw.out.below hB hba)
        have HOK6 := Lib.hid (HOK.out.later (fun j hj => hba.block j (Nat.lt_of_lt_of_le hj (Nat.le_trans hB hw.out.wb.be.size))) fun _ h => h)
        clear hba pl p0 p1 p2 p3 p4 p5 HOK hw
        generalize wr.alloc (.cells #[.int .i64 d.file, .int .i64 d.bytes, .int .i64 d.count, .slice d.firstA d.first.length d.firstC, .slice d.lastA d.last.length d.lastC, .int .u64 (d.seq : Int)] 41) = w1 at *
        obtain ⟨X, hX⟩ : ∃ X, X = wr.heap.size := ⟨_, rfl⟩
        rw [← hX] at HBX ⊢
        clear hX
        have pl : Sem.run Try.prog (loadVar 41 ⟨X, 0, none⟩) w1 = .ok d.v w1 := load_run (HBX.out.cell 0) (HBX.out.cell 1) (HBX.out.cell 2) (HBX.out.cell 3) (HBX.out.cell 4) (HBX.out.cell 5)
        have p0 := HBX.out.cell 0
        have p1 := HBX.out.cell 1
        have p2 := HBX.out.cell 2
        have p3 := HBX.out.cell 3
        have p4 := HBX.out.cell 4
        have p5 := HBX.out.cell 5
        simp only [D.cells, List.getElem?_cons_succ, List.getElem?_cons_zero] at p0 p1 p2 p3 p4 p5
        have HAR := Lib.hid (oarun_any d w.heap.size B _ P0 w1 HOK6.out hB HRD.out HW6.out.own HW6.out.wb.be.size (by have := hPl.out; omega))
        go_wp2_with fail
        refine HAR.out.mono ?_
        rintro e w2 ⟨v2, rfl, ho2, hon2⟩
        have HW7 := Lib.hid (HW6.out.grew hB ho2 hon2)
        have HL7 : Hid ((P0 ++ encR d.ru).length ≤ 10 + 600 * (k + 1)) := Lib.hid (by have := oencR_len HRD.out; have := hPl.out; rw [List.length_append]; omega)
        have HE7 : Hid (P0 ++ encR d.ru = enc x.add.length ++ ((x.add.take (k + 1)).map D.ru).flatMap encR) := Lib.hid (by
          rw [hPe.out, List.take_add_one, HD.out, List.map_append, List.flatMap_append, List.append_assoc]
          simp)
        clear ho2 hon2 pl p0 p1 p2 p3 p4 p5 HAR HW6
        go_wp2_with fail
        go_roundw
        case rel => exact ⟨k + 1, _, by omega, by go_num, HW7, HE7, HL7⟩
        case measure => simp [intOf]; omega
      · obtain rfl : k = x.add.length := by omega
        rw [List.take_length] at hPe
        have hPl := hPl.out
        -- the number of files
        have hb1 := Joins.below_alloc1 wr (.cells #[.int .i64 (x.drop.length : Int)] 3)
        have HI := Lib.hid (oints_any w.heap.size 1 _ (some ⟨wr.heap.size, 0, none⟩) P0 [(x.drop.length : Int)] (wr.alloc (.cells #[.int .i64 (x.drop.length : Int)] 3)) (own_later hw.out.own hb1) (Nat.le_trans hw.out.wb.be.size hb1.size) (off_new hw.out.own #[.int .i64 (x.drop.length : Int)] 3) (by simp) (by decide)
          (fun z hz => by simp at hz; subst hz; omega) (by simp) (by omega))
        have HW6 := Lib.hid (hw.out.below hB hb1)
        obtain ⟨q0, q1, q2, q3, q4⟩ := hw.out.wb.cells
        clear hb1 hw
        go_wp2_with fail
        refine HI.out.mono ?_
        rintro e W7 ⟨v7, rfl, ho7, hon7⟩
        have e7 : [(x.drop.length : Int)].flatMap encI = enc x.drop.length := by simp [encI]
        rw [e7] at ho7
        have HW7 := Lib.hid (HW6.out.grew hB ho7 hon7)
        have l7 := oenc_le x.drop.length
        clear ho7 hon7 e7 HI HW6 q0 q1 q2 q3 q4
        obtain ⟨q0, q1, q2, q3, q4⟩ := HW7.out.wb.cells
        -- the files
        have HJ := Lib.hid (oints_any w.heap.size x.dropC v7 x.dropA (P0 ++ enc x.drop.length) x.drop W7 HW7.out.own HW7.out.wb.be.size (Off.old (HW7.out.wb.ok.dl.up hB) HW7.out.wb.be.size HW7.out.own) HW7.out.wb.ok.dc HW7.out.wb.ok.dm HR9.out (by omega) (by rw [List.length_append]; omega))
        go_wp2_with fail
        refine HJ.out.mono ?_
        rintro e W8 ⟨v8, rfl, ho8, hon8⟩
        have HW8 := Lib.hid (HW7.out.grew hB ho8 hon8)
        have l8 := oflat_len (f := encI) (n := 10) (l := x.drop) fun z _ => oenc_le z.toNat
        clear ho8 hon8 HJ HW7 q0 q1 q2 q3 q4
        obtain ⟨q0, q1, q2, q3, q4⟩ := HW8.out.wb.cells
        obtain ⟨P8, hP8⟩ : ∃ P8, P8 = P0 ++ enc x.drop.length ++ x.drop.flatMap encI := ⟨_, rfl⟩
        have l9 : P8.length ≤ 100000 := by rw [hP8]; simp only [List.length_append]; omega
        rw [← hP8] at HW8
        have HP8 := Lib.hid hP8
        clear hP8 l7 l8
        -- Next and Log
        have hb9 := Joins.below_alloc1 W8 (.cells #[.int .i64 x.next, .int .i64 x.log] 3)
        have HK := Lib.hid (oints_any w.heap.size 2 _ (some ⟨W8.heap.size, 0, none⟩) P8 [x.next, x.log] (W8.alloc (.cells #[.int .i64 x.next, .int .i64 x.log] 3)) (own_later HW8.out.own hb9) (Nat.le_trans HW8.out.wb.be.size hb9.size) (off_new HW8.out.own #[.int .i64 x.next, .int .i64 x.log] 3) (by simp) (by decide)
          (fun z hz => by
            have h3 := HN3.out
            have h4 := HN4.out
            simp at hz
            rcases hz with rfl | rfl <;> omega) (by simp) (by omega))
        have HW9 := Lib.hid (HW8.out.below hB hb9)
        clear hb9 HW8
        go_wp2_with fail
        refine HK.out.mono ?_
        rintro e W10 ⟨v10, rfl, ho10, hon10⟩
        have e10 : [x.next, x.log].flatMap encI = encI x.next ++ encI x.log := by simp
        rw [e10] at ho10
        have HW10 := Lib.hid (HW9.out.grew hB ho10 hon10)
        have l10 := oenc_le x.next.toNat
        have l11 := oenc_le x.log.toNat
        clear ho10 hon10 e10 HK HW9 q0 q1 q2 q3 q4
        obtain ⟨q0, q1, q2, q3, q4⟩ := HW10.out.wb.cells
        -- Seq
        have HN := Lib.hid (onum_any w.heap.size x.seq v10 (P8 ++ (encI x.next ++ encI x.log)) W10 HW10.out.own HW10.out.wb.be.size (by unfold encI; simp only [List.length_append]; omega) b7)
        clear l10 l11
        go_wp2_with fail
        refine HN.out.mono ?_
        rintro e W11 ⟨v11, rfl, ho11, hon11⟩
        have HW11 := Lib.hid (HW10.out.grew hB ho11 hon11)
        clear ho11 hon11 HN HW10 q0 q1 q2 q3 q4
        go_wp2_with fail
        go_ret
        have HZ : bytesE x.e = P8 ++ (encI x.next ++ encI x.log) ++ enc x.seq := by
          rw [HE.out, HP8.out, hPe.out]
          unfold encE X.e
          simp
        rw [HZ]
        exact ⟨_, rfl, HW11.out.own, HW11.out.wb.be⟩
end Go.Proofs.Ythhmjjmjicmhdaa.Ed
