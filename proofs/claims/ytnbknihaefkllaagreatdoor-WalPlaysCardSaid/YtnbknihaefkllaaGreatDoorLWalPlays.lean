/- Proved: for any batches, integers and bytes, WalPlays of butterylaw8 answers true (for arbitrary sequences of batches, crashes and failures, also on a file with arbitrary content, Append, Recover and the disk agree with the definition), and its arguments read as before. Conditions: none beyond what the given card states: the two tables of the standard library that it ties hold what the program text lays. -/
import Derived.Test.YtnbknihaefkllaaGreatDoorM5
import Derived.Test.YtnbknihaefkllaaGreatDoorM1
import Derived.Test.YtnbknihaefkllaaGreatDoorM3
import Derived.Test.YtnbknihaefkllaaGreatDoorM4
import Derived.Deep.QuietTactic
import Derived.BigQuiet
import Derived.Test.YtnbknihaefkllaaGreatDoorTie
import Derived.Test.YtnbknihaefkllaaGreatDoorCards
import Derived.SevenTiedAt
namespace Go.Proofs.YtnbknihaefkllaaGreatDoor.walPlays
set_option linter.unusedVariables false
set_option linter.unusedSimpArgs false
open Go.ChangeShapes Go.WideShapes Go.ChangeAt Go.RowKit Lift Ik Wl
open Bt (O D Ops OpsP opsO)
open Dk (MS FM hit appendM crashM)

theorem own : ownKnob Tryz.prog.godebug = none := by kernel_rfl

set_option maxRecDepth 100000 in
set_option maxHeartbeats 800000 in
theorem walk_no (rm kp : Int) (A A2 A3 A5 : Option Addr) (c c2 c3 c5 : Nat) (L : List G) (zs fs : List Int) (js : List Nat) (w : World) (hc : L.length ≤ c) (hm : c ≤ maxLen) (hc2 : zs.length ≤ c2) (hm2 : c2 ≤ maxLen) (hc3 : fs.length ≤ c3) (hm3 : c3 ≤ maxLen) (hc5 : js.length ≤ c5) (hm5 : c5 ≤ maxLen) (h : 12 < L.length ∨ zs.length < L.length ∨ 40 < fs.length ∨ 400 < js.length) : Calls Tryz.prog 3 #[.int .i64 rm, .slice A L.length c, .slice A2 zs.length c2, .slice A3 fs.length c3, .int .i64 kp, .slice A5 js.length c5] w (Wl.Yes w) := by
  unfold maxLen at hm hm2 hm3 hm5
  by_cases h1 : 12 < L.length
  · go_enter Tryz.func3, Tryz.ntmps3
    go_wp2_with fail
    refine (alive_any _).mono ?_; rintro e W1 ⟨rfl, hb1⟩
    have HB1 := Lib.hid hb1
    clear hb1
    go_wp2_with fail
    go_ret
    exact ⟨rfl, HB1.out⟩
  · by_cases h2 : zs.length < L.length
    · go_enter Tryz.func3, Tryz.ntmps3
      go_wp2_with fail
      refine (alive_any _).mono ?_; rintro e W1 ⟨rfl, hb1⟩
      have HB1 := Lib.hid hb1
      clear hb1
      go_wp2_with fail
      go_ret
      exact ⟨rfl, HB1.out⟩
    · by_cases h3 : 40 < fs.length
      · go_enter Tryz.func3, Tryz.ntmps3
        go_wp2_with fail
        refine (alive_any _).mono ?_; rintro e W1 ⟨rfl, hb1⟩
        have HB1 := Lib.hid hb1
        clear hb1
        go_wp2_with fail
        go_ret
        exact ⟨rfl, HB1.out⟩
      · have h4 : 400 < js.length := by omega
        go_enter Tryz.func3, Tryz.ntmps3
        go_wp2_with fail
        refine (alive_any _).mono ?_; rintro e W1 ⟨rfl, hb1⟩
        have HB1 := Lib.hid hb1
        clear hb1
        go_wp2_with fail
        go_ret
        exact ⟨rfl, HB1.out⟩
theorem free_d {B g gr : Nat} {w0 w : World} {S Sr : Nat → Prop} {md mr : MS} {rm : Int} {A : Option Addr} {xs : List Value} (h : Two B w0 w g S md gr Sr rm mr) (hl : Lies w0 B A xs) : LiesP w (fun k => ¬ S k ∧ k < w.heap.size) A xs :=
  (hl.below h.low).p fun k hk => ⟨fun hs => absurd (h.ds k hs) (Nat.not_le_of_lt hk), Nat.lt_of_lt_of_le hk h.size⟩
theorem free_r {B g gr : Nat} {w0 w : World} {S Sr : Nat → Prop} {md mr : MS} {rm : Int} {A : Option Addr} {xs : List Value} (h : Two B w0 w g S md gr Sr rm mr) (hl : Lies w0 B A xs) : LiesP w (fun k => ¬ Sr k ∧ k < w.heap.size) A xs :=
  (hl.below h.low).p fun k hk => ⟨fun hs => absurd (h.rs k hs) (Nat.not_le_of_lt hk), Nat.lt_of_lt_of_le hk h.size⟩
set_option maxRecDepth 100000 in
set_option maxHeartbeats 6400000 in
theorem walk (rm kp : Int) (A A2 A3 A5 : Option Addr) (c c2 c3 c5 : Nat) (L : List G) (zs fs : List Int) (js : List Nat) (w : World) (hrm : (Lit.int .i64 rm).wf = true) (hkp : (Lit.int .i64 kp).wf = true) (hB : Bats w w.heap.size A c L) (hl2 : Lies w w.heap.size A2 (zs.map (Value.int .i64))) (hc2 : zs.length ≤ c2) (hm2 : c2 ≤ maxLen)
    (hl3 : Lies w w.heap.size A3 (fs.map (Value.int .i64))) (hc3 : fs.length ≤ c3) (hm3 : c3 ≤ maxLen) (hw3 : ∀ n, n ∈ fs → (Lit.int .i64 n).wf = true) (hl5 : Lies w w.heap.size A5 (js.map vb)) (hc5 : js.length ≤ c5) (hm5 : c5 ≤ maxLen) (h85 : ∀ x, x ∈ js → x < 256)
    (h12 : L.length ≤ 12) (hzl : L.length ≤ zs.length) (h40 : fs.length ≤ 40) (h400 : js.length ≤ 400) : Calls Tryz.prog 3 #[.int .i64 rm, .slice A L.length c, .slice A2 zs.length c2, .slice A3 fs.length c3, .int .i64 kp, .slice A5 js.length c5] w (Wl.Yes w) := by
  have HB := Lib.hid hB
  have HKP := Lib.hid hkp
  have HRM := Lib.hid hrm
  have hLc := hB.len
  have hLm := hB.cap
  have HL2 := Lib.hid hl2
  have HL3 := Lib.hid hl3
  have HL5 := Lib.hid hl5
  have H85 := Lib.hid h85
  have HW3 := Lib.hid hw3
  unfold maxLen at hLm hm2 hm3 hm5
  clear hB hkp hrm hl2 hl3 hl5 h85 hw3
  go_enter Tryz.func3, Tryz.ntmps3
  go_wp2_with fail
  refine (alive_any _).mono ?_; rintro e W1 ⟨rfl, hb1⟩
  have HB1 := Lib.hid hb1
  clear hb1
  go_wp2_with fail
  refine (Dk.new_own rm HRM.out W1 HB1.out.size HB1.out).mono ?_
  rintro e W2 ⟨g, S2, rfl, hO2, _, _, _⟩
  have O2 := Lib.hid hO2
  clear hO2
  go_wp2_with fail
  refine (Rk.rnew_any rm HRM.out W2).mono ?_
  rintro e W3 ⟨gr, Sr, rfl, hA, hS, hb⟩
  have T3 : Hid (Two w.heap.size w W3 g S2 (Dk.newM rm) gr Sr rm (Dk.newM rm)) := Lib.hid ⟨O2.out.1.below hb, hA, O2.out.2.1, fun k hk => Nat.le_trans (O2.out.size (Nat.le_refl _)) (hS k hk), fun k hk hr => by have := O2.out.1.lt k hk; have := hS k hr; omega,
    O2.out.2.2.trans (hb.mono (O2.out.size (Nat.le_refl _))), Nat.le_refl _⟩
  clear hA hS hb O2
  go_wp2_with fail
  refine (Dk.append_any lN A5 c5 js T3.out.d (by show 0 ≤ 1000000; decide) (free_d T3.out HL5.out) hc5 (by omega) H85.out).mono ?_
  intro e W4 ht
  obtain ⟨S', rfl, hA, hK, hS⟩ := ht
  have T4 := Lib.hid (T3.out.dd hA hK hS)
  clear hA hK hS T3
  go_wp2_with fail
  refine (rappend_any lN A5 c5 js (by decide) T4.out.r (by show 0 ≤ 1000000; decide) (free_r T4.out HL5.out) (by omega) H85.out).mono ?_
  intro e W5 ht
  obtain ⟨S', rfl, hA, hK, hS⟩ := ht
  have T5 := Lib.hid (T4.out.rr hA hK hS)
  clear hA hK hS T4
  have hbd1 := bud_append (Dk.newM rm) lN js
  have hnb : bud (Dk.newM rm) = 0 := rfl
  generalize (appendM (Dk.newM rm) lN js).2 = m1 at *
  have hf1 : m1.failed = 0 := by unfold bud at hbd1 hnb; omega
  obtain ⟨v6, W6, hr6, hown6, hb6, _⟩ := run_append_lies (P := Tryz.prog) (w := W5) (base := W5.heap.size) (m := fs.length) (c := c3) 23 23 3 (.int .i64 0) 1 8 Tryz.underlying23 (by kernel_rfl) rfl (by decide)
    (fun u hu => by simp at hu; obtain ⟨_, _, rfl⟩ := hu; rfl) (World.ownsRow_nil _ _ _ _) (HL3.out.below T5.out.low) (by simp) (by unfold maxLen; omega) (by omega) (Nat.le_refl _)
  rw [Nat.zero_add, List.nil_append] at hown6
  obtain ⟨A6, c6, rfl, hc6, hm6, hl6⟩ := own_parts hown6
  have h06 : A6 = none → fs.length = 0 ∧ c6 = 0 := fun e => by subst e; exact Dk.own_none hown6
  have T6 := Lib.hid (T5.out.below hb6)
  have HF6 := Lib.hid (Dk.fail_any A6 c6 fs T6.out.d hl6 (by omega) h06 HW3.out)
  have HR6 := Lib.hid hr6
  clear hr6 hown6 hb6 hl6 h06 T5
  go_wp2_with (at_builtin; refine wpList_append_run rfl _ _ 23 rfl rfl rfl HR6.out ?_)
  refine (HF6.out).mono ?_
  intro e W7 ht
  obtain ⟨S', rfl, hA, hK, hS⟩ := ht
  have T7 := Lib.hid (T6.out.dd hA hK hS)
  clear hA hK hS T6
  go_wp2_with fail
  refine (Rk.rfail_any A3 c3 fs T7.out.r ((HL3.out.below T7.out.low).up T7.out.size) (by omega) HW3.out).mono ?_
  intro e W8 ht
  obtain ⟨S', rfl, hA, hK, hS⟩ := ht
  have T8 := Lib.hid (T7.out.rr hA hK hS)
  clear hA hK hS T7
  go_wp2_with fail
  have HBD0 : Hid (bud ({ m1 with armed := fs } : MS) ≤ 40) := Lib.hid (by unfold bud; simp only; omega)
  clear hbd1 hnb HF6 HR6
  go_loopw [16] (fun i wr => ∃ (j : Nat) (S Sr : Nat → Prop) (m : MS), i = .int .i64 (j : Int) ∧ j ≤ L.length ∧ Hid (bud m ≤ 40) ∧ Hid (Two w.heap.size w wr g S m gr Sr rm m)) (fun i _ => L.length + 1 - (intOf i).toNat)
  case atStart => exact ⟨0, _, _, _, rfl, by omega, HBD0, T8⟩
  case round =>
    obtain ⟨j, S, Sr, m, rfl, hj, HBD, T⟩ := hrel
    have hbm : m.failed ≤ 40 := by have := HBD.out; unfold bud at this; omega
    by_cases hlt : j < L.length
    · have dl : decide (j < L.length) = true := decide_eq_true hlt
      obtain ⟨d, hd⟩ : ∃ d, L[j]? = some d := ⟨_, List.getElem?_eq_getElem hlt⟩
      obtain ⟨z, hz⟩ : ∃ z, zs[j]? = some z := ⟨_, List.getElem?_eq_getElem (by omega)⟩
      obtain ⟨ad, p, hA, hp, hl⟩ := HB.out.load (w' := w) hd
      obtain ⟨ad2, hA2, _, hcz⟩ := (HL2.out.below T.out.low).place (by rw [List.length_map]; omega)
      subst hA
      subst hA2
      have hzz : wr.cell? (ad2.add j) = some (.int .i64 z) := hcz j _ (by rw [List.getElem?_map, hz]; rfl)
      have HZ := Lib.hid fun (w' : World) (hb : Below w.heap.size w w') => (show w'.cell? (ad2.add j) = some (.int .i64 z) by
        obtain ⟨ad3, hA3, _, hc3'⟩ := (HL2.out.below hb).place (by rw [List.length_map]; omega)
        cases hA3
        exact hc3' j _ (by rw [List.getElem?_map, hz]; rfl))
      have HL := Lib.hid hl
      have hds := HB.out.num hd
      have HO := Lib.hid fun (w' : World) (hb : Below w.heap.size w w') => ((HB.out.below hb).ops hd).up hb.size
      obtain ⟨r0, r1, r2⟩ := hl wr T.out.low
      have HBIG := Lib.hid (Bt.big_any d.a d.c _ d.l wr (HO.out wr T.out.low))
      clear hcz hd hz hl
      go_wp2_with fail
      refine HBIG.out.mono ?_; rintro e w' ⟨rfl, rfl⟩
      cases hbg : Bt.bigB d.l
      · generalize hsy : (bits BinOp.and IntKind.i64 z 1 == 1) = sy
        clear hbg HBIG
        go_wp2_with fail
        have T1 := Lib.hid (T.out.below (Below.refl _ _).drew)
        refine wp_region_held_drew (S := fun w' => Hid (Below w.heap.size w w')) (by kernel_rfl) (Lib.hid T.out.low.drew) (fun hS => ?_)
        refine wpAnyH_take (i := 0) (v := ?_) rfl (by kernel_rfl) (by kernel_rfl) (by kernel_rfl) (fun _ _ _ h => h) (Or.inl ⟨by rfl, ?_⟩) hS ?_
        rotate_left
        · intro w hw
          go_simp
          try with_reducible rfl
        try simp only [Act.put, List.getElem_toArray, List.getElem_cons_succ, List.getElem_cons_zero, List.setIfInBounds_toArray, List.set_cons_zero, List.set_cons_succ]
        refine wpAnyH_take (i := 1) (v := ?_) rfl (by kernel_rfl) (by kernel_rfl) (by kernel_rfl) (fun _ _ _ h => h) (Or.inl ⟨by rfl, ?_⟩) hS ?_
        rotate_left
        · intro w hw
          go_simp
          try with_reducible rfl
        try simp only [Act.put, List.getElem_toArray, List.getElem_cons_succ, List.getElem_cons_zero, List.setIfInBounds_toArray, List.set_cons_zero, List.set_cons_succ]
        refine wpAnyH_take (i := 2) (v := ?_) rfl (by kernel_rfl) (by kernel_rfl) (by kernel_rfl) (fun _ _ _ h => h) (Or.inl ⟨by rfl, ?_⟩) hS ?_
        rotate_left
        · intro w hw
          go_simp
          try with_reducible rfl
        try simp only [Act.put, List.getElem_toArray, List.getElem_cons_succ, List.getElem_cons_zero, List.setIfInBounds_toArray, List.set_cons_zero, List.set_cons_succ]
        refine wpAnyH_take (i := 3) (v := ?_) rfl (by kernel_rfl) (by kernel_rfl) (by kernel_rfl) (fun _ _ _ h => h) (Or.inl ⟨by rfl, ?_⟩) hS ?_
        rotate_left
        · intro w hw
          go_simp
          try with_reducible rfl
        try simp only [Act.put, List.getElem_toArray, List.getElem_cons_succ, List.getElem_cons_zero, List.setIfInBounds_toArray, List.set_cons_zero, List.set_cons_succ]
        refine wpAnyH_take (i := 4) (v := ?_) rfl (by kernel_rfl) (by kernel_rfl) (by kernel_rfl) (fun _ _ _ h => h) (Or.inl ⟨by rfl, ?_⟩) hS ?_
        rotate_left
        · intro w hw
          obtain ⟨r0, r1, r2⟩ := HL.out w hw.out
          go_simp
          try with_reducible rfl
        try simp only [Act.put, List.getElem_toArray, List.getElem_cons_succ, List.getElem_cons_zero, List.setIfInBounds_toArray, List.set_cons_zero, List.set_cons_succ]
        refine wpAnyH_take (i := 5) (v := ?_) rfl (by kernel_rfl) (by kernel_rfl) (by kernel_rfl) (fun _ _ _ h => h) (Or.inl ⟨by rfl, ?_⟩) hS ?_
        rotate_left
        · intro w hw
          go_simp
          try with_reducible rfl
        try simp only [Act.put, List.getElem_toArray, List.getElem_cons_succ, List.getElem_cons_zero, List.setIfInBounds_toArray, List.set_cons_zero, List.set_cons_succ]
        refine wpAnyH_take (i := 8) (v := ?_) rfl (by kernel_rfl) (by kernel_rfl) (by kernel_rfl) (fun _ _ _ h => h) (Or.inl ⟨by rfl, ?_⟩) hS ?_
        rotate_left
        · intro w hw
          go_simp
          try with_reducible rfl
        try simp only [Act.put, List.getElem_toArray, List.getElem_cons_succ, List.getElem_cons_zero, List.setIfInBounds_toArray, List.set_cons_zero, List.set_cons_succ]
        refine wpAnyH_take (i := 9) (v := ?_) rfl (by kernel_rfl) (by kernel_rfl) (by kernel_rfl) (fun _ _ _ h => h) (Or.inl ⟨by rfl, ?_⟩) hS ?_
        rotate_left
        · intro w hw
          go_simp
          try with_reducible rfl
        try simp only [Act.put, List.getElem_toArray, List.getElem_cons_succ, List.getElem_cons_zero, List.setIfInBounds_toArray, List.set_cons_zero, List.set_cons_succ]
        refine wpAnyH_take (i := 10) (v := ?_) rfl (by kernel_rfl) (by kernel_rfl) (by kernel_rfl) (fun _ _ _ h => h) (Or.inl ⟨by rfl, ?_⟩) hS ?_
        rotate_left
        · intro w hw
          go_simp
          try with_reducible rfl
        try simp only [Act.put, List.getElem_toArray, List.getElem_cons_succ, List.getElem_cons_zero, List.setIfInBounds_toArray, List.set_cons_zero, List.set_cons_succ]
        refine wpAnyH_take (i := 11) (v := ?_) rfl (by kernel_rfl) (by kernel_rfl) (by kernel_rfl) (fun _ _ _ h => h) (Or.inl ⟨by rfl, ?_⟩) hS ?_
        rotate_left
        · intro w hw
          go_simp
          try with_reducible rfl
        try simp only [Act.put, List.getElem_toArray, List.getElem_cons_succ, List.getElem_cons_zero, List.setIfInBounds_toArray, List.set_cons_zero, List.set_cons_succ]
        refine wpAnyH_take (i := 12) (v := ?_) rfl (by kernel_rfl) (by kernel_rfl) (by kernel_rfl) (fun _ _ _ h => h) (Or.inl ⟨by rfl, ?_⟩) hS ?_
        rotate_left
        · intro w hw
          obtain ⟨r0, r1, r2⟩ := HL.out w hw.out
          go_simp
          try with_reducible rfl
        try simp only [Act.put, List.getElem_toArray, List.getElem_cons_succ, List.getElem_cons_zero, List.setIfInBounds_toArray, List.set_cons_zero, List.set_cons_succ]
        refine wpAnyH_take (i := 13) (v := ?_) rfl (by kernel_rfl) (by kernel_rfl) (by kernel_rfl) (fun _ _ _ h => h) (Or.inl ⟨by rfl, ?_⟩) hS ?_
        rotate_left
        · intro w hw
          go_simp
          try with_reducible rfl
        try simp only [Act.put, List.getElem_toArray, List.getElem_cons_succ, List.getElem_cons_zero, List.setIfInBounds_toArray, List.set_cons_zero, List.set_cons_succ]
        refine wpAnyH_ready (rs := [6]) (by kernel_rfl) (by simp) ?_
        refine AllReadyH.cons rfl (fun K hK => ?_) AllReadyH.nil
        go_simp
        refine (wapp_any lN d.s d.a d.c d.l sy T1.out.d (by omega) hds (HO.out _ T1.out.low)).mono ?_
        rintro e W3 ⟨S3, rfl, hA, hK3, hS3⟩
        have T3 := Lib.hid (T1.out.dd hA hK3 hS3)
        clear hA hK3 hS3
        go_wp2_with fail
        refine hK.out _ _ (Lib.hid T3.out.low) (fun hS => ?_)
        clear hK K
        try simp only [Act.put, List.getElem_toArray, List.getElem_cons_succ, List.getElem_cons_zero, List.setIfInBounds_toArray, List.set_cons_zero, List.set_cons_succ]
        refine wpAnyH_ready (rs := [7]) (by kernel_rfl) (by simp) ?_
        refine AllReadyH.cons rfl (fun K hK => ?_) AllReadyH.nil
        go_simp
        refine (num_any _ _).mono ?_; rintro e w' ⟨rfl, rfl⟩
        go_wp2_with fail
        refine hK.out _ _ (Lib.hid T3.out.low) (fun hS => ?_)
        clear hK K
        try simp only [Act.put, List.getElem_toArray, List.getElem_cons_succ, List.getElem_cons_zero, List.setIfInBounds_toArray, List.set_cons_zero, List.set_cons_succ]
        refine wpAnyH_ready (rs := [14]) (by kernel_rfl) (by simp) ?_
        refine AllReadyH.cons rfl (fun K hK => ?_) AllReadyH.nil
        go_simp
        refine (rapp_any lN d.s d.a d.c d.l sy (by decide) T3.out.r (by omega) hds (HO.out _ T3.out.low)).mono ?_
        rintro e W4 ⟨S4, rfl, hA, hK4, hS4⟩
        have T4 := Lib.hid (T3.out.rr hA hK4 hS4)
        clear hA hK4 hS4 T3
        have hbw := bud_wal m lN d.s (opsO d.l) sy
        generalize walM m lN d.s (opsO d.l) sy = wm at *
        have n1 : ((wm.1 : Int) != (wm.1 : Int)) = false := by simp
        have n2 : ((Dk.used wm.2.fs : Int) != (Dk.used wm.2.fs : Int)) = false := by simp
        have n3 : ((wm.2.failed : Int) != (wm.2.failed : Int)) = false := by simp
        go_wp2_with fail
        refine hK.out _ _ (Lib.hid T4.out.low) (fun hS => ?_)
        clear hK K
        try simp only [Act.put, List.getElem_toArray, List.getElem_cons_succ, List.getElem_cons_zero, List.setIfInBounds_toArray, List.set_cons_zero, List.set_cons_succ]
        refine wpAnyH_take (i := 15) (v := ?_) rfl (by kernel_rfl) (by kernel_rfl) (by kernel_rfl) (fun _ _ _ h => h) (Or.inl ⟨by rfl, ?_⟩) hS ?_
        rotate_left
        · intro w hw
          go_simp
          try with_reducible rfl
        try simp only [Act.put, List.getElem_toArray, List.getElem_cons_succ, List.getElem_cons_zero, List.setIfInBounds_toArray, List.set_cons_zero, List.set_cons_succ]
        refine wpAnyH_take (i := 16) (v := ?_) rfl (by kernel_rfl) (by kernel_rfl) (by kernel_rfl) (fun _ _ _ h => h) (Or.inl ⟨by rfl, ?_⟩) hS ?_
        rotate_left
        · intro w hw
          go_simp
          try with_reducible rfl
        try simp only [Act.put, List.getElem_toArray, List.getElem_cons_succ, List.getElem_cons_zero, List.setIfInBounds_toArray, List.set_cons_zero, List.set_cons_succ]
        refine wpAnyH_take (i := 17) (v := ?_) rfl (by kernel_rfl) (by kernel_rfl) (by kernel_rfl) (fun _ _ _ h => h) (Or.inl ⟨by rfl, ?_⟩) hS ?_
        rotate_left
        · intro w hw
          go_simp
          try with_reducible rfl
        try simp only [Act.put, List.getElem_toArray, List.getElem_cons_succ, List.getElem_cons_zero, List.setIfInBounds_toArray, List.set_cons_zero, List.set_cons_succ]
        refine wpAnyH_take (i := 19) (v := ?_) rfl (by kernel_rfl) (by kernel_rfl) (by kernel_rfl) (fun _ _ _ h => h) (Or.inl ⟨by rfl, ?_⟩) hS ?_
        rotate_left
        · intro w hw
          go_simp
          try with_reducible rfl
        try simp only [Act.put, List.getElem_toArray, List.getElem_cons_succ, List.getElem_cons_zero, List.setIfInBounds_toArray, List.set_cons_zero, List.set_cons_succ]
        refine wpAnyH_ready (rs := [18]) (by kernel_rfl) (by simp) ?_
        refine AllReadyH.cons rfl (fun K hK => ?_) AllReadyH.nil
        go_simp
        refine (Dk.used_any T4.out.d).mono ?_; rintro e w' ⟨rfl, rfl⟩
        go_wp2_with fail
        refine hK.out _ _ (Lib.hid T4.out.low) (fun hS => ?_)
        clear hK K
        try simp only [Act.put, List.getElem_toArray, List.getElem_cons_succ, List.getElem_cons_zero, List.setIfInBounds_toArray, List.set_cons_zero, List.set_cons_succ]
        refine wpAnyH_ready (rs := [20]) (by kernel_rfl) (by simp) ?_
        refine AllReadyH.cons rfl (fun K hK => ?_) AllReadyH.nil
        go_simp
        obtain ⟨L0, A0, F0, c0, cf0, hL0⟩ := T4.out.r
        refine (Rk.rused_any hL0).mono ?_; rintro e w' ⟨rfl, rfl⟩
        clear hL0
        go_wp2_with fail
        refine hK.out _ _ (Lib.hid T4.out.low) (fun hS => ?_)
        clear hK K
        try simp only [Act.put, List.getElem_toArray, List.getElem_cons_succ, List.getElem_cons_zero, List.setIfInBounds_toArray, List.set_cons_zero, List.set_cons_succ]
        refine wpAnyH_take (i := 21) (v := ?_) rfl (by kernel_rfl) (by kernel_rfl) (by kernel_rfl) (fun _ _ _ h => h) (Or.inl ⟨by rfl, ?_⟩) hS ?_
        rotate_left
        · intro w hw
          go_simp
          try with_reducible rfl
        try simp only [Act.put, List.getElem_toArray, List.getElem_cons_succ, List.getElem_cons_zero, List.setIfInBounds_toArray, List.set_cons_zero, List.set_cons_succ]
        refine wpAnyH_take (i := 22) (v := ?_) rfl (by kernel_rfl) (by kernel_rfl) (by kernel_rfl) (fun _ _ _ h => h) (Or.inl ⟨by rfl, ?_⟩) hS ?_
        rotate_left
        · intro w hw
          go_simp
          try with_reducible rfl
        try simp only [Act.put, List.getElem_toArray, List.getElem_cons_succ, List.getElem_cons_zero, List.setIfInBounds_toArray, List.set_cons_zero, List.set_cons_succ]
        refine wpAnyH_take (i := 23) (v := ?_) rfl (by kernel_rfl) (by kernel_rfl) (by kernel_rfl) (fun _ _ _ h => h) (Or.inl ⟨by rfl, ?_⟩) hS ?_
        rotate_left
        · intro w hw
          go_simp
          try with_reducible rfl
        try simp only [Act.put, List.getElem_toArray, List.getElem_cons_succ, List.getElem_cons_zero, List.setIfInBounds_toArray, List.set_cons_zero, List.set_cons_succ]
        refine wpAnyH_take (i := 24) (v := ?_) rfl (by kernel_rfl) (by kernel_rfl) (by kernel_rfl) (fun _ _ _ h => h) (Or.inl ⟨by rfl, ?_⟩) hS ?_
        rotate_left
        · intro w hw
          go_simp
          try with_reducible rfl
        try simp only [Act.put, List.getElem_toArray, List.getElem_cons_succ, List.getElem_cons_zero, List.setIfInBounds_toArray, List.set_cons_zero, List.set_cons_succ]
        refine wpAnyH_take (i := 26) (v := ?_) rfl (by kernel_rfl) (by kernel_rfl) (by kernel_rfl) (fun _ _ _ h => h) (Or.inl ⟨by rfl, ?_⟩) hS ?_
        rotate_left
        · intro w hw
          go_simp
          try with_reducible rfl
        try simp only [Act.put, List.getElem_toArray, List.getElem_cons_succ, List.getElem_cons_zero, List.setIfInBounds_toArray, List.set_cons_zero, List.set_cons_succ]
        refine wpAnyH_ready (rs := [25]) (by kernel_rfl) (by simp) ?_
        refine AllReadyH.cons rfl (fun K hK => ?_) AllReadyH.nil
        go_simp
        refine (Dk.failed_any T4.out.d).mono ?_; rintro e w' ⟨rfl, rfl⟩
        go_wp2_with fail
        refine hK.out _ _ (Lib.hid T4.out.low) (fun hS => ?_)
        clear hK K
        try simp only [Act.put, List.getElem_toArray, List.getElem_cons_succ, List.getElem_cons_zero, List.setIfInBounds_toArray, List.set_cons_zero, List.set_cons_succ]
        refine wpAnyH_ready (rs := [27]) (by kernel_rfl) (by simp) ?_
        refine AllReadyH.cons rfl (fun K hK => ?_) AllReadyH.nil
        go_simp
        refine (Rk.rfailed_any T4.out.r).mono ?_; rintro e w' ⟨rfl, rfl⟩
        go_wp2_with fail
        refine hK.out _ _ (Lib.hid T4.out.low) (fun hS => ?_)
        clear hK K
        try simp only [Act.put, List.getElem_toArray, List.getElem_cons_succ, List.getElem_cons_zero, List.setIfInBounds_toArray, List.set_cons_zero, List.set_cons_succ]
        refine wpAnyH_take (i := 28) (v := ?_) rfl (by kernel_rfl) (by kernel_rfl) (by kernel_rfl) (fun _ _ _ h => h) (Or.inl ⟨by rfl, ?_⟩) hS ?_
        rotate_left
        · intro w hw
          go_simp
          try with_reducible rfl
        try simp only [Act.put, List.getElem_toArray, List.getElem_cons_succ, List.getElem_cons_zero, List.setIfInBounds_toArray, List.set_cons_zero, List.set_cons_succ]
        refine wpAnyH_take (i := 29) (v := ?_) rfl (by kernel_rfl) (by kernel_rfl) (by kernel_rfl) (fun _ _ _ h => h) (Or.inl ⟨by rfl, ?_⟩) hS ?_
        rotate_left
        · intro w hw
          go_simp
          try with_reducible rfl
        try simp only [Act.put, List.getElem_toArray, List.getElem_cons_succ, List.getElem_cons_zero, List.setIfInBounds_toArray, List.set_cons_zero, List.set_cons_succ]
        refine wpAnyH_done (by kernel_rfl) ?_ _
        clear n1 n2 n3 T1 HO
        have HBD2 : Hid (bud wm.2 ≤ 40) := Lib.hid (Nat.le_trans hbw HBD.out)
        clear HBD hbw r0 r1 r2
        have HBD := HBD2
        have hz4 := HZ.out W4 T4.out.low
        obtain ⟨q, hq⟩ : ∃ q, bits BinOp.and IntKind.i64 z 14 = q := ⟨_, rfl⟩
        generalize wm.2 = m2 at *
        cases hq2 : (q == 2)
        · cases hq4 : (q == 4)
          · go_wp2_with fail
            go_roundw
            case rel => exact ⟨j + 1, _, _, _, by go_num, by omega, HBD, T4⟩
            case measure => simp [intOf]; omega
          · go_wp2_with fail
            refine (rec_any lN T4.out.d (by have := HBD.out; unfold bud at this; omega)).mono ?_
            intro e W5 ht
            obtain ⟨Ax, cx, X, clx, rfl, hX, hA, hK, hx1, hx2⟩ := ht
            have HTR := Lib.hid T4.out.r.lt
            have Ta1 := Lib.hid (T4.out.dd hA hK fun k hk => .inl hk)
            have HX := Lib.hid hX
            have HX1 := Lib.hid hx1
            have HX2 := Lib.hid hx2
            clear hA hK hX hx1 hx2
            go_wp2_with fail
            refine (rrec_any lN (by decide) Ta1.out.r (by have := HBD.out; unfold bud at this; omega)).mono ?_
            intro e W6 ht
            obtain ⟨Ay, cy, Y, cly, rfl, hY, hA, hK, hy1, hy2⟩ := ht
            have Ta2 := Lib.hid (Ta1.out.rr hA hK fun k hk => .inl hk)
            obtain ⟨hXY, rfl⟩ := both_same HX1.out HX2.out hy1 hy2
            have hXb := BatsP.bats (B := W6.heap.size) (HX.out.later (w' := W6) (R' := fun k => k < W6.heap.size) (fun k hk => hK.block k hk.2 fun hs => by have := HTR.out k hs; omega) fun k hk => Nat.lt_of_lt_of_le hk.2 hK.size) fun k hk => hk
            have hxc := hXb.len
            have hxm := hXb.cap
            have hyc := hY.len
            have hym := hY.cap
            unfold maxLen at hxm hym
            have HSM := Lib.hid (same_bats' Ax Ay cx cy X Y W6 hXb (hY.bats fun k hk => hk.2) hXY)
            clear hA hK hY hy1 hy2 hXY hXb HX HX1 HX2 HTR
            have n4 : ((clx : Int) != (clx : Int)) = false := by simp
            have n5 : (((contM m2 lN).1 : Int) != ((contM m2 lN).1 : Int)) = false := by simp
            have HBD3 : Hid (bud (contM m2 lN).2.2 ≤ 40) := Lib.hid (Nat.le_trans (bud_cont m2 lN) HBD.out)
            generalize contM m2 lN = cm at *
            go_wp2_with fail
            refine HSM.out.mono ?_; rintro e W7 ⟨rfl, hb7⟩
            have T7 := Lib.hid (Ta2.out.below hb7)
            clear hb7 HSM Ta1 Ta2
            go_wp2_with (go_at_call 12; refine (num_any _ _).mono ?_; rintro e w' ⟨rfl, rfl⟩)
            go_roundw
            case rel => exact ⟨j + 1, _, _, _, by go_num, by omega, HBD3, T7⟩
            case measure => simp [intOf]; omega
        · obtain rfl : q = 2 := by simpa using hq2
          go_wp2_with fail
          refine (Dk.crash_any kp HKP.out T4.out.d).mono ?_
          intro e W5 ht
          obtain ⟨S', rfl, hA, hK, hS⟩ := ht
          have T5 := Lib.hid (T4.out.dd hA hK hS)
          clear hA hK hS T4
          go_wp2_with fail
          refine (Rk.rcrash_any kp HKP.out T5.out.r).mono ?_
          intro e W6 ht
          obtain ⟨S', rfl, hA, hK, hS⟩ := ht
          have T6 := Lib.hid (T5.out.rr hA hK hS)
          clear hA hK hS T5
          have hz6 := HZ.out W6 T6.out.low
          clear hz4
          have HBD3 : Hid (bud (crashM m2 kp) ≤ 40) := Lib.hid HBD.out
          go_wp2_with fail
          go_roundw
          case rel => exact ⟨j + 1, _, _, _, by go_num, by omega, HBD3, T6⟩
          case measure => simp [intOf]; omega
      · clear hbg HBIG
        go_wp2_with fail
        go_ret
        exact ⟨rfl, T.out.low⟩
    · obtain rfl : j = L.length := by omega
      have dl : decide (L.length < L.length) = false := decide_eq_false (by omega)
      go_wp2_with fail
      refine (Dk.fail_any none 0 [] T.out.d (.inl rfl) (by simp) (fun _ => ⟨rfl, rfl⟩) (by simp)).mono ?_
      intro e W4 ht
      obtain ⟨S', rfl, hA, hK, hS⟩ := ht
      have T4 := Lib.hid (T.out.dd hA hK hS)
      clear hA hK hS T
      go_wp2_with fail
      refine (Rk.rfail_any none 0 [] T4.out.r (.inl rfl) (by simp) (by simp)).mono ?_
      intro e W5 ht
      obtain ⟨S', rfl, hA, hK, hS⟩ := ht
      have T5 := Lib.hid (T4.out.rr hA hK hS)
      clear hA hK hS T4
      go_wp2_with fail
      have HBD2 : Hid (bud ({ m with armed := [] } : MS) ≤ 40) := Lib.hid (by have := HBD.out; unfold bud at this ⊢; simp only [List.length_nil]; omega)
      clear HBD
      have HBD := HBD2
      generalize ({ m with armed := [] } : MS) = m2 at *
      refine (rec_any lN T5.out.d (by have := HBD.out; unfold bud at this; omega)).mono ?_
      intro e W6 ht
      obtain ⟨Ax, cx, X, clx, rfl, hX, hA, hK, hx1, hx2⟩ := ht
      have HTR := Lib.hid T5.out.r.lt
      have Ta1 := Lib.hid (T5.out.dd hA hK fun k hk => .inl hk)
      have HX := Lib.hid hX
      have HX1 := Lib.hid hx1
      have HX2 := Lib.hid hx2
      clear hA hK hX hx1 hx2
      go_wp2_with fail
      refine (rrec_any lN (by decide) Ta1.out.r (by have := HBD.out; unfold bud at this; omega)).mono ?_
      intro e W7 ht
      obtain ⟨Ay, cy, Y, cly, rfl, hY, hA, hK, hy1, hy2⟩ := ht
      have Ta2 := Lib.hid (Ta1.out.rr hA hK fun k hk => .inl hk)
      obtain ⟨hXY, rfl⟩ := both_same HX1.out HX2.out hy1 hy2
      have hXb := BatsP.bats (B := W7.heap.size) (HX.out.later (w' := W7) (R' := fun k => k < W7.heap.size) (fun k hk => hK.block k hk.2 fun hs => by have := HTR.out k hs; omega) fun k hk => Nat.lt_of_lt_of_le hk.2 hK.size) fun k hk => hk
      have hxc := hXb.len
      have hxm := hXb.cap
      have hyc := hY.len
      have hym := hY.cap
      unfold maxLen at hxm hym
      have HSM := Lib.hid (same_bats' Ax Ay cx cy X Y W7 hXb (hY.bats fun k hk => hk.2) hXY)
      clear hA hK hY hy1 hy2 hXY hXb HX HX1 HX2 HTR
      have n4 : ((clx : Int) == (clx : Int)) = true := by simp
      have n5 : (((contM m2 lN).1 : Int) == ((contM m2 lN).1 : Int)) = true := by simp
      generalize contM m2 lN = cm at *
      go_wp2_with fail
      refine HSM.out.mono ?_; rintro e W8 ⟨rfl, hb8⟩
      have T8' := Lib.hid (Ta2.out.below hb8)
      clear hb8 HSM Ta1 Ta2
      go_wp2_with (go_at_call 12; refine (num_any _ _).mono ?_; rintro e w' ⟨rfl, rfl⟩)
      go_ret
      exact ⟨rfl, T8'.out.low⟩

set_option maxRecDepth 100000 in
theorem lifted (os : Os) (started : os.Started) (H : Type) (enc : TypeId × Value → H) :
    ReturnsInHanded {} Tryz.checked os 3 .any (fun w args => (Rows.walPlaysSpec.pre enc Tryz.prog Tryz.f3 Rows.walPlaysRow.domain false w args ∧ laidMetH Tryz.prog Rows.walPlaysRow.laid w) ∧ sizedMet enc Tryz.prog Tryz.f3 (OpenSpec.ofChange Rows.walPlaysSpec) false w args) (Rows.walPlaysSpec.post enc Tryz.prog Tryz.f3 false true false false) := by
  refine lift_laid (C := Tryz.checked) Rows.walPlaysRow.laid own started (by kernel_rfl) Tryz.func3
    (ChangeSpec.witness_shaped (enc := enc) (C := Tryz.checked) (os := os) (X := fun w _ => laidMetH Tryz.prog Rows.walPlaysRow.laid w) false (World.laidAll Tryz.prog os Rows.walPlaysRow.laid) #[.int .i64 0, .slice none 0 0, .slice none 0 0, .slice none 0 0, .int .i64 0, .slice none 0 0] 8 (World.laidAll_os _ _ _)
      (World.shaped_of_ZipB (by kernel_rfl) (by kernel_rfl)) (by kernel_rfl) (by kernel_rfl) (by kernel_rfl)
      (by rw [MakeChecks.laidMetH_plain _ _ _ (by kernel_rfl)]; exact laidMet_laidAll _ (by kernel_rfl) (by kernel_rfl)))
    (by kernel_rfl) (by kernel_rfl) (by kernel_rfl) Tryz.underlying4 rfl ?_ ?_
  · intro ds hds
    match ds, hds with
    | [d1, d2, d3, d4, d5, d6], _ => exact ⟨rfl, rfl, rfl⟩
  · intro W base args ds p hval0 hA0 hlt _
    have hval : ∀ (j : Nat) t v, Tryz.f3.params[j]? = some t → args[j]? = some v → Value.okWide Tryz.prog W .any base t v := hval0
    have hA : DataW.TrodAll enc Tryz.prog W 0 (fun _ => true) true Tryz.f3.params.toList args.toList ds p := hA0
    rw [Tryz.params3] at hA hval
    obtain ⟨v0, vs0, d0, ds0, p0, q0, hargs, rfl, rfl, h0, r0⟩ := trodAll_cons hA
    obtain ⟨v1, vs1, d1, ds1, p1, q1, rfl, rfl, rfl, h1, r1⟩ := trodAll_cons r0
    obtain ⟨v2, vs2, d2, ds2, p2, q2, rfl, rfl, rfl, h2, r2⟩ := trodAll_cons r1
    obtain ⟨v3, vs3, d3, ds3, p3, q3, rfl, rfl, rfl, h3, r3⟩ := trodAll_cons r2
    obtain ⟨v4, vs4, d4, ds4, p4, q4, rfl, rfl, rfl, h4, r4⟩ := trodAll_cons r3
    obtain ⟨v5, vs5, d5, ds5, p5, q5, rfl, rfl, rfl, h5, r5⟩ := trodAll_cons r4
    obtain ⟨rfl, rfl, rfl⟩ := trodAll_nil r5
    obtain rfl : args = #[v0, v1, v2, v3, v4, v5] := by cases args; simp_all
    obtain ⟨a0, rfl, rfl, rfl, w0⟩ := open_int Tryz.underlying3 (hval 0 _ v0 rfl rfl) h0
    have b0 := i64_of w0
    obtain ⟨A1, c1, L1, rfl, hB1⟩ := Wl.open_bats (hval 1 _ v1 rfl rfl) h1 (fun x hx => hlt x (by simp [hx]))
    obtain ⟨A2, c2, zs2, rfl, hc2, hm2, hl2, hw2⟩ := open_nums Tryz.underlying23 Tryz.underlying3 (by kernel_rfl) (hval 2 _ v2 rfl rfl) h2 (fun x hx => hlt x (by simp [hx]))
    obtain ⟨A3, c3, zs3, rfl, hc3, hm3, hl3, hw3⟩ := open_nums Tryz.underlying23 Tryz.underlying3 (by kernel_rfl) (hval 3 _ v3 rfl rfl) h3 (fun x hx => hlt x (by simp [hx]))
    obtain ⟨a4, rfl, rfl, rfl, w4⟩ := open_int Tryz.underlying3 (hval 4 _ v4 rfl rfl) h4
    have b4 := i64_of w4
    obtain ⟨A5, c5, zs5, rfl, hc5, hm5, hl5, hw5⟩ := open_nums Tryz.underlying24 Tryz.underlying5 (by kernel_rfl) (hval 5 _ v5 rfl rfl) h5 (fun x hx => hlt x (by simp [hx]))
    obtain ⟨bs5, rfl, hz5⟩ := as_nat zs5 fun n hn => (u8_of (hw5 n hn)).1
    have hbs5 := fun b hb => (u8_of (hw5 _ (hz5 b hb))).2
    rw [List.length_map] at hc5 ⊢
    rw [List.map_map] at hl5
    by_cases hno : 12 < L1.length ∨ zs2.length < L1.length ∨ 40 < zs3.length ∨ 400 < bs5.length
    · exact walk_no a0 a4 A1 A2 A3 A5 c1 c2 c3 c5 L1 zs2 zs3 bs5 W hB1.len hB1.cap hc2 hm2 hc3 hm3 hc5 hm5 hno
    · exact walk a0 a4 A1 A2 A3 A5 c1 c2 c3 c5 L1 zs2 zs3 bs5 W w0 w4 hB1 hl2 hc2 hm2 hl3 hc3 hm3 hw3 hl5 hc5 hm5 (fun b hb => by have := hbs5 b hb; omega) (by omega) (by omega) (by omega) (by omega)

theorem over : Rows.walPlaysRow.holds Tryz.pinned (OpenSpec.ofChange Rows.walPlaysSpec) :=
  OpenClaim.holds_of_wide 3 Tryz.f3 rfl rfl rfl rfl rfl rfl rfl ⟨rfl, rfl, rfl, rfl, rfl⟩ rfl rfl rfl rfl rfl (by kernel_rfl) Tryz.func3 (by kernel_rfl)
    (of_decide_eq_true (by kernel_rfl)) (by unfold Func.isWrapper; first | (rw [if_pos (by decide +kernel)]; kernel_rfl) | (rw [if_neg (by decide +kernel)]; exact ⟨rfl, rfl⟩))
    (fun os started H enc _ => lifted os started H enc)

theorem proved : Rows.WalPlaysCardSaid :=
  Claim7.holds_tied_plain_at .later [] [.data, .pinned] true (true, "fd063c84424fe3707997b95e8f8567f0fb1a07b3d887b707ad74203d7ab73926") false over (fun _ h => by cases h) (by kernel_rfl) (fun _ h => by cases h) walPlays_row_tie rfl ⟨rfl, rfl⟩ (by kernel_rfl) rfl
    (fun f fn hf hfn => by
      obtain rfl : f = 3 := Option.some.inj ((show Tryz.prog.funcNamed Rows.walPlaysRow.func = some 3 by kernel_rfl).symm.trans hf) |>.symm
      obtain rfl : fn = Tryz.f3 := (Option.some.inj (Tryz.func3.symm.trans hfn)).symm
      exact ⟨by kernel_rfl, fun j t ht => by
        rw [Tryz.params3] at ht
        have hm : t ∈ [3, 22, 23, 23, 3, 24] := by simpa using Array.mem_of_getElem? ht
        have hall : ([3, 22, 23, 23, 3, 24].all fun u => !Tryz.prog.wantsStandIn u) = true := by kernel_rfl
        exact (show Tryz.prog.wantsStandIn t = false by simpa using List.all_eq_true.1 hall t hm)⟩)
    (by kernel_rfl)
#print axioms proved
end Go.Proofs.YtnbknihaefkllaaGreatDoor.walPlays
