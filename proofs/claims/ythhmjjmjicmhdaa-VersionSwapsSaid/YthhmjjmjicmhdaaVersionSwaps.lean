/- Proved: for any three numbers, VersionSwaps of butterylaw17 answers true (adjacent runs that are replaced by one run are replaced where they stood, and all others stay), and its arguments read as before. Conditions: none beyond what the given row states. -/
import Derived.Test.YthhmjjmjicmhdaaVer
import Derived.Test.YthhmjjmjicmhdaaVsm
import Derived.Deep.CutBlock
import Derived.Deep.DeepCutAuto
import Derived.Deep.Cut
namespace Go.Proofs.Ythhmjjmjicmhdaa.versionSwaps
set_option linter.unusedVariables false
set_option linter.unusedSimpArgs false
open Go.ChangeShapes Go.WideShapes Go.ChangeAt Go.RowKit Lift Ed Ve Ik

theorem own : ownKnob Try.prog.godebug = none := by kernel_rfl

set_option maxRecDepth 100000 in
set_option maxHeartbeats 3200000 in
theorem walk_no (a b c : Int) (w : World) (wa : (Lit.int .i64 a).wf = true) (wb : (Lit.int .i64 b).wf = true) (wc : (Lit.int .i64 c).wf = true) (h : ¬ (1 ≤ a ∧ a ≤ 40 ∧ 0 ≤ b ∧ b < a ∧ 1 ≤ c ∧ c ≤ a - b)) : Calls Try.prog 9 #[.int .i64 a, .int .i64 b, .int .i64 c] w (Yes w) := by
  have ba := i64_of wa
  have bb := i64_of wb
  have bc := i64_of wc
  have H := Lib.hid h
  clear wa wb wc h
  go_enter Try.func9, Try.ntmps9
  go_wp2_with fail
  refine (valive_any _).mono ?_
  rintro e W1 ⟨rfl, hb1⟩
  have HB := Lib.hid hb1
  clear hb1
  by_cases h1 : a < 1
  · have t1 : decide (a < 1) = true := decide_eq_true h1
    clear h1
    go_wp2_with fail
    go_ret
    exact ⟨rfl, HB.out⟩
  · have t1 : decide (a < 1) = false := decide_eq_false h1
    by_cases h2 : 40 < a
    · have t2 : decide (40 < a) = true := decide_eq_true h2
      clear h1 h2
      go_wp2_with fail
      go_ret
      exact ⟨rfl, HB.out⟩
    · have t2 : decide (40 < a) = false := decide_eq_false h2
      by_cases h3 : b < 0
      · have t3 : decide (b < 0) = true := decide_eq_true h3
        clear h1 h2 h3
        go_wp2_with fail
        go_ret
        exact ⟨rfl, HB.out⟩
      · have t3 : decide (b < 0) = false := decide_eq_false h3
        by_cases h4 : a ≤ b
        · have t4 : decide (a ≤ b) = true := decide_eq_true h4
          clear h1 h2 h3 h4
          go_wp2_with fail
          go_ret
          exact ⟨rfl, HB.out⟩
        · have t4 : decide (a ≤ b) = false := decide_eq_false h4
          by_cases h5 : c < 1
          · have t5 : decide (c < 1) = true := decide_eq_true h5
            clear h1 h2 h3 h4 h5
            go_wp2_with fail
            go_ret
            exact ⟨rfl, HB.out⟩
          · have t5 : decide (c < 1) = false := decide_eq_false h5
            have x1 : IntKind.i64.wrap (a - b) = a - b := IntWalk.i64_in _ (by omega)
            have t6 : decide (a - b < c) = true := decide_eq_true (by have := H.out; omega)
            clear h1 h2 h3 h4 h5
            go_wp2_with fail
            go_ret
            exact ⟨rfl, HB.out⟩
set_option maxRecDepth 100000 in
set_option maxHeartbeats 12800000 in
theorem walk (n at' c : Nat) (w : World) (h1 : 1 ≤ n) (h2 : n ≤ 40) (h3 : at' < n) (h4 : 1 ≤ c) (h5 : c ≤ n - at') : Calls Try.prog 9 #[.int .i64 (n : Int), .int .i64 (at' : Int), .int .i64 (c : Int)] w (Yes w) := by
  have H3 := Lib.hid h3
  have H5 := Lib.hid h5
  have d1 : decide ((n : Int) < 1) = false := decide_eq_false (by omega)
  have d2 : decide ((40 : Int) < (n : Int)) = false := decide_eq_false (by omega)
  have d3 : decide ((at' : Int) < 0) = false := decide_eq_false (by omega)
  have d4 : decide ((n : Int) ≤ (at' : Int)) = false := decide_eq_false (by omega)
  have d5 : decide ((c : Int) < 1) = false := decide_eq_false (by omega)
  have d6 : decide ((n : Int) - (at' : Int) < (c : Int)) = false := decide_eq_false (by omega)
  have s1 : decide (n < 1) = false := decide_eq_false (by omega)
  have s2 : decide (40 < n) = false := decide_eq_false (by omega)
  have s4 : decide (n ≤ at') = false := decide_eq_false (by omega)
  have s5 : decide (c < 1) = false := decide_eq_false (by omega)
  have w0 : IntKind.i64.wrap ((n : Int) - (at' : Int)) = (n : Int) - (at' : Int) := IntWalk.i64_in _ (by omega)
  clear h3 h5
  go_enter Try.func9, Try.ntmps9
  go_wp2_with fail
  refine (valive_any _).mono ?_
  rintro e W1 ⟨rfl, hb1⟩
  have HVS0 : Hid (Vs (W1.alloc oneV.box) W1.heap.size oneV) := Lib.hid ⟨Box.new W1 44 oneV.cells, oneV_ok _ _⟩
  have HBE0 : Hid (Below w.heap.size w (W1.alloc oneV.box)) := Lib.hid (hb1.trans ((Joins.below_alloc1 W1 _).mono hb1.size))
  have HG : Hid (w.heap.size ≤ W1.heap.size) := Lib.hid hb1.size
  clear hb1
  go_upto_region 5 with fail
  clear d1 d2 d3 d4 d5 d6 s1 s2 s4 s5
  generalize hW : W1.alloc (.cells #[.slice none 0 0, .int .i64 1, .int .i64 0, .int .u64 0] 44) = W2 at *
  clear hW
  obtain ⟨gv, hgv⟩ : ∃ g, g = W1.heap.size := ⟨_, rfl⟩
  rw [← hgv] at HVS0 HG ⊢
  clear hgv
  go_wp2_with fail
  go_loopw [9] (fun iv wr => ∃ (i : Nat) (y : Y), 1 ≤ i ∧ i ≤ n + 1 ∧ iv = .int .i64 (i : Int) ∧ Hid (Vs wr gv y) ∧ Hid (y.t = vN (i - 1)) ∧ Hid (Below w.heap.size w wr)) (fun iv _ => n + 2 - (intOf iv).toNat)
  case atStart => exact ⟨1, oneV, Nat.le_refl _, by omega, rfl, HVS0, Lib.hid rfl, HBE0⟩
  case round =>
    clear HVS0 HBE0
    obtain ⟨i, y, hi1, hin, rfl, HVS, HYT, HBE⟩ := hrel
    by_cases hlt : i ≤ n
    · have HI : Hid (1 ≤ i ∧ i ≤ 40) := Lib.hid ⟨hi1, by omega⟩
      have STEP : Hid (applyV (vN (i - 1)) (eA i) = (0, vN i)) := Lib.hid (step_add hi1 (by omega))
      have HW1 : Hid ((Lit.int .i64 ((i : Int) + 1)).wf = true) := Lib.hid (WalkArith.wf_i64 (by omega))
      have HRUN := Lib.hid fun W => run_any (i : Int) i W (WalkArith.wf_i64 (by omega)) (by omega)
      have dl : decide ((i : Int) ≤ (n : Int)) = true := decide_eq_true (by omega)
      have dl2 : decide (i ≤ n) = true := decide_eq_true hlt
      have w1 : IntKind.u64.wrap (i : Int) = (i : Int) := by rw [IntKind.wrap_u64]; omega
      have w2 : IntKind.i64.wrap ((i : Int) + 1) = (i : Int) + 1 := IntWalk.i64_in _ (by omega)
      go_upto_region 8 with fail
      clear dl dl2
      generalize wr = W0 at *
      go_cut [10, 11] (fun pv ev wx => ∃ (g : Nat) (a : Y), pv = .pointer (some ⟨g, 0, none⟩) ∧ ev = .int .i64 0 ∧ a.t = vN i ∧ Box wx g 44 a.cells ∧ a.Ok wx wx.heap.size ∧ Below W0.heap.size W0 wx ∧ W0.heap.size ≤ g)
      case first =>
          refine wp_region_held_drew (S := (fun w' => Hid (Below W0.heap.size W0 w'))) (by kernel_rfl) (Lib.hid (Below.refl _ _).drew) (fun hS => ?_)
          have HBD : Hid (Below W0.heap.size W0 W0.drew) := Lib.hid (Below.refl _ _).drew
          refine wpAnyH_take (i := 0) (v := ?_) rfl (by kernel_rfl) (by kernel_rfl) (by kernel_rfl) (fun _ _ _ h => h) (Or.inl ⟨by rfl, ?_⟩) hS ?_
          rotate_left
          · intro wi hw
            have q := load_box (HVS.out.next hw.out).box
            obtain ⟨k0, k1, k2, k3⟩ := Ve.look (HVS.out.next hw.out).box
            go_simp
            try with_reducible rfl
          try simp only [Act.put, List.getElem_toArray, List.getElem_cons_succ, List.getElem_cons_zero, List.setIfInBounds_toArray, List.set_cons_zero, List.set_cons_succ]
          refine wpAnyH_take (i := 1) (v := ?_) rfl (by kernel_rfl) (by kernel_rfl) (by kernel_rfl) (fun _ _ _ h => h) (Or.inl ⟨by rfl, ?_⟩) hS ?_
          rotate_left
          · intro wi hw
            go_simp
            try with_reducible rfl
          try simp only [Act.put, List.getElem_toArray, List.getElem_cons_succ, List.getElem_cons_zero, List.setIfInBounds_toArray, List.set_cons_zero, List.set_cons_succ]
          refine wpAnyH_take (i := 2) (v := ?_) rfl (by kernel_rfl) (by kernel_rfl) (by kernel_rfl) (fun _ _ _ h => h) (Or.inl ⟨by rfl, ?_⟩) hS ?_
          rotate_left
          · intro wi hw
            go_simp
            try with_reducible rfl
          try simp only [Act.put, List.getElem_toArray, List.getElem_cons_succ, List.getElem_cons_zero, List.setIfInBounds_toArray, List.set_cons_zero, List.set_cons_succ]
          refine wpAnyH_take (i := 3) (v := ?_) rfl (by kernel_rfl) (by kernel_rfl) (by kernel_rfl) (fun _ _ _ h => h) (Or.inl ⟨by rfl, ?_⟩) hS ?_
          rotate_left
          · intro wi hw
            go_simp
            try with_reducible rfl
          try simp only [Act.put, List.getElem_toArray, List.getElem_cons_succ, List.getElem_cons_zero, List.setIfInBounds_toArray, List.set_cons_zero, List.set_cons_succ]
          refine wpAnyH_take (i := 6) (v := ?_) rfl (by kernel_rfl) (by kernel_rfl) (by kernel_rfl) (fun _ _ _ h => h) (Or.inl ⟨by rfl, ?_⟩) hS ?_
          rotate_left
          · intro wi hw
            go_simp
            try with_reducible rfl
          try simp only [Act.put, List.getElem_toArray, List.getElem_cons_succ, List.getElem_cons_zero, List.setIfInBounds_toArray, List.set_cons_zero, List.set_cons_succ]
          refine wpAnyH_take (i := 7) (v := ?_) rfl (by kernel_rfl) (by kernel_rfl) (by kernel_rfl) (fun _ _ _ h => h) (Or.inl ⟨by rfl, ?_⟩) hS ?_
          rotate_left
          · intro wi hw
            go_simp
            try with_reducible rfl
          try simp only [Act.put, List.getElem_toArray, List.getElem_cons_succ, List.getElem_cons_zero, List.setIfInBounds_toArray, List.set_cons_zero, List.set_cons_succ]
          refine wpAnyH_take (i := 8) (v := ?_) rfl (by kernel_rfl) (by kernel_rfl) (by kernel_rfl) (fun _ _ _ h => h) (Or.inl ⟨by rfl, ?_⟩) hS ?_
          rotate_left
          · intro wi hw
            go_simp
            try with_reducible rfl
          try simp only [Act.put, List.getElem_toArray, List.getElem_cons_succ, List.getElem_cons_zero, List.setIfInBounds_toArray, List.set_cons_zero, List.set_cons_succ]
          refine wpAnyH_take (i := 9) (v := ?_) rfl (by kernel_rfl) (by kernel_rfl) (by kernel_rfl) (fun _ _ _ h => h) (Or.inl ⟨by rfl, ?_⟩) hS ?_
          rotate_left
          · intro wi hw
            go_simp
            try with_reducible rfl
          try simp only [Act.put, List.getElem_toArray, List.getElem_cons_succ, List.getElem_cons_zero, List.setIfInBounds_toArray, List.set_cons_zero, List.set_cons_succ]
          refine wpAnyH_ready (rs := [4, 15]) (by kernel_rfl) (by simp) ?_
          refine (AllReadyH.cons rfl (fun K hK => ?_) (AllReadyH.cons rfl (fun K hK => ?_) AllReadyH.nil))
          · go_simp
            refine (HRUN.out W0.drew).mono ?_
            rintro e V1 ⟨d, rfl, hru, hok, hb⟩
            have HRU := Lib.hid hru
            have HOK1 : Hid (d.Ok V1 (Fresh W0.heap.size V1)) := Lib.hid (hok.later (fun _ _ => rfl) (Fresh.low HBD.out.size))
            clear hru hok
            have HB1 : Hid (Below W0.heap.size W0 V1) := Lib.hid (HBD.out.trans (hb.mono HBD.out.size))
            refine hK.out _ _ HB1 (fun hS => ?_)
            clear hK K hb
            try simp only [Act.put, List.getElem_toArray, List.getElem_cons_succ, List.getElem_cons_zero, List.setIfInBounds_toArray, List.set_cons_zero, List.set_cons_succ]
            refine wpAnyH_ready (rs := [5, 15]) (by kernel_rfl) (by simp) ?_
            refine (AllReadyH.cons rfl (fun K hK => ?_) (AllReadyH.cons rfl (fun K hK => ?_) AllReadyH.nil))
            · go_simp
              have hba := Joins.below_alloc1 V1 (.cells #[.int .i64 d.file, .int .i64 d.bytes, .int .i64 d.count, .slice d.firstA d.first.length d.firstC, .slice d.lastA d.last.length d.lastC, .int .u64 (d.seq : Int)] 41)
              have HB2 : Hid (Below W0.heap.size W0 (V1.alloc (.cells #[.int .i64 d.file, .int .i64 d.bytes, .int .i64 d.count, .slice d.firstA d.first.length d.firstC, .slice d.lastA d.last.length d.lastC, .int .u64 (d.seq : Int)] 41))) := Lib.hid (HB1.out.trans (hba.mono HB1.out.size))
              have HO2 : Hid (One (V1.alloc (.cells #[.int .i64 d.file, .int .i64 d.bytes, .int .i64 d.count, .slice d.firstA d.first.length d.firstC, .slice d.lastA d.last.length d.lastC, .int .u64 (d.seq : Int)] 41)) V1.heap.size d) := Lib.hid (One.new HOK1.out)
              refine hK.out _ _ HB2 (fun hS => ?_)
              clear hK K
              try simp only [Act.put, List.getElem_toArray, List.getElem_cons_succ, List.getElem_cons_zero, List.setIfInBounds_toArray, List.set_cons_zero, List.set_cons_succ]
              generalize hNW : (V1.alloc (.cells #[.int .i64 d.file, .int .i64 d.bytes, .int .i64 d.count, .slice d.firstA d.first.length d.firstC, .slice d.lastA d.last.length d.lastC, .int .u64 (d.seq : Int)] 41)) = V2 at *
              clear hNW
              refine wpAnyH_take (i := 10) (v := ?_) rfl (by kernel_rfl) (by kernel_rfl) (by kernel_rfl) (fun _ _ _ h => h) (Or.inl ⟨by rfl, ?_⟩) hS ?_
              rotate_left
              · intro wi hw
                go_simp
                try with_reducible rfl
              try simp only [Act.put, List.getElem_toArray, List.getElem_cons_succ, List.getElem_cons_zero, List.setIfInBounds_toArray, List.set_cons_zero, List.set_cons_succ]
              refine wpAnyH_ready (rs := [11, 15]) (by kernel_rfl) (by simp) ?_
              refine (AllReadyH.cons rfl (fun K hK => ?_) (AllReadyH.cons rfl (fun K hK => ?_) AllReadyH.nil))
              · go_simp
                have hc := vapply_any y (⟨some ⟨V1.heap.size, 0, none⟩, 1, [d], none, 0, [], (i : Int) + 1, 0, i⟩ : X) V2 ((HVS.out.next HB2.out).ok) (HO2.out.add HW1.out (by decide) (by have := HI.out; omega))
                rw [show X.e (⟨some ⟨V1.heap.size, 0, none⟩, 1, [d], none, 0, [], (i : Int) + 1, 0, i⟩ : X) = eA i from by show (⟨[d.ru], [], _, _, _⟩ : E) = _; rw [HRU.out]; rfl, HYT.out, STEP.out] at hc
                refine hc.mono ?_
                rintro e V3 ⟨a, rfl, hat, hao, hb⟩
                have HA3 := Lib.hid hao
                have HAT := Lib.hid hat
                clear hat hao hc
                have HB3 : Hid (Below W0.heap.size W0 V3) := Lib.hid (HB2.out.trans (hb.mono HB2.out.size))
                refine hK.out _ _ HB3 (fun hS => ?_)
                clear hK K hb
                try simp only [Act.put, List.getElem_toArray, List.getElem_cons_succ, List.getElem_cons_zero, List.setIfInBounds_toArray, List.set_cons_zero, List.set_cons_succ]
                refine wpAnyH_take (i := 12) (v := ?_) rfl (by kernel_rfl) (by kernel_rfl) (by kernel_rfl) (fun _ _ _ h => h) (Or.inl ⟨by rfl, ?_⟩) hS ?_
                rotate_left
                · intro wi hw
                  go_simp
                  try with_reducible rfl
                try simp only [Act.put, List.getElem_toArray, List.getElem_cons_succ, List.getElem_cons_zero, List.setIfInBounds_toArray, List.set_cons_zero, List.set_cons_succ]
                refine wpAnyH_take (i := 13) (v := ?_) rfl (by kernel_rfl) (by kernel_rfl) (by kernel_rfl) (fun _ _ _ h => h) (Or.inl ⟨by rfl, ?_⟩) hS ?_
                rotate_left
                · intro wi hw
                  go_simp
                  try with_reducible rfl
                try simp only [Act.put, List.getElem_toArray, List.getElem_cons_succ, List.getElem_cons_zero, List.setIfInBounds_toArray, List.set_cons_zero, List.set_cons_succ]
                refine wpAnyH_take (i := 14) (v := ?_) rfl (by kernel_rfl) (by kernel_rfl) (by kernel_rfl) (fun _ _ _ h => h) (Or.inl ⟨by rfl, ?_⟩) hS ?_
                rotate_left
                · intro wi hw
                  go_simp
                  try with_reducible rfl
                try simp only [Act.put, List.getElem_toArray, List.getElem_cons_succ, List.getElem_cons_zero, List.setIfInBounds_toArray, List.set_cons_zero, List.set_cons_succ]
                refine wpAnyH_ready (rs := [15]) (by kernel_rfl) (by simp) ?_
                refine (AllReadyH.cons rfl (fun K hK => ?_) AllReadyH.nil)
                go_simp
                have hba := Joins.below_alloc1 V3 (.cells #[.slice none 0 0, .int .i64 0, .int .i64 0, .int .u64 0] 44)
                have HB4 : Hid (Below W0.heap.size W0 (V3.alloc (.cells #[.slice none 0 0, .int .i64 0, .int .i64 0, .int .u64 0] 44))) := Lib.hid (HB3.out.trans (hba.mono HB3.out.size))
                have HZ4 : Hid (Box (V3.alloc (.cells #[.slice none 0 0, .int .i64 0, .int .i64 0, .int .u64 0] 44)) V3.heap.size 44 ZV.cells) := Lib.hid (Box.new V3 44 ZV.cells)
                have HGE : Hid (W0.heap.size ≤ V3.heap.size) := Lib.hid (HB3.out.size)
                have HA4 := Lib.hid (HA3.out.next hba)
                refine hK.out _ _ HB4 (fun hS => ?_)
                clear hK K
                try simp only [Act.put, List.getElem_toArray, List.getElem_cons_succ, List.getElem_cons_zero, List.setIfInBounds_toArray, List.set_cons_zero, List.set_cons_succ]
                generalize hNW : (V3.alloc (.cells #[.slice none 0 0, .int .i64 0, .int .i64 0, .int .u64 0] 44)) = V4 at *
                clear hNW
                refine wpAnyH_ready (rs := [16]) (by kernel_rfl) (by simp) ?_
                refine (AllReadyH.cons rfl (fun K hK => ?_) AllReadyH.nil)
                have HBX : Hid (Box (V4.setRow (V3.heap.size) a.cells.toArray) (V3.heap.size) 44 a.cells) := Lib.hid (setRow_heap _ _ _ _ _ _ HZ4.out)
                have HA9 : Hid (a.Ok (V4.setRow (V3.heap.size) a.cells.toArray) (V4.setRow (V3.heap.size) a.cells.toArray).heap.size) := Lib.hid (HA4.out.poke (vbox_of HZ4.out) (Ve.keep_setRow _ _ _))
                have HB9 : Hid (Below W0.heap.size W0 (V4.setRow (V3.heap.size) a.cells.toArray)) := Lib.hid (below_setRow HB4.out HGE.out _)
                refine held_store rfl _ _ _ rfl (V3.heap.size) #[.slice a.a a.runs.length a.c, .int .i64 a.next, .int .i64 a.log, .int .u64 (a.seq : Int)] rfl rfl _ ZV.cells.toArray HZ4.out (by kernel_rfl) rfl (by kernel_rfl) ?_
                refine hK.out _ _ HB9 (fun hS => ?_)
                clear hK K
                try simp only [Act.put, List.getElem_toArray, List.getElem_cons_succ, List.getElem_cons_zero, List.setIfInBounds_toArray, List.set_cons_zero, List.set_cons_succ]
                refine wpAnyH_take (i := 17) (v := ?_) rfl (by kernel_rfl) (by kernel_rfl) (by kernel_rfl) (fun _ _ _ h => h) (Or.inl ⟨by rfl, ?_⟩) hS ?_
                rotate_left
                · intro wi hw
                  go_simp
                  try with_reducible rfl
                try simp only [Act.put, List.getElem_toArray, List.getElem_cons_succ, List.getElem_cons_zero, List.setIfInBounds_toArray, List.set_cons_zero, List.set_cons_succ]
                refine wpAnyH_done (by kernel_rfl) ?_ _
                go_wp2_with fail
                go_meet
                exact ⟨V3.heap.size, a, rfl, rfl, HAT.out, HBX.out, HA9.out, HB9.out, HGE.out⟩
              · go_simp
                have hba := Joins.below_alloc1 V2 (.cells #[.slice none 0 0, .int .i64 0, .int .i64 0, .int .u64 0] 44)
                have HB3 : Hid (Below W0.heap.size W0 (V2.alloc (.cells #[.slice none 0 0, .int .i64 0, .int .i64 0, .int .u64 0] 44))) := Lib.hid (HB2.out.trans (hba.mono HB2.out.size))
                have HZ3 : Hid (Box (V2.alloc (.cells #[.slice none 0 0, .int .i64 0, .int .i64 0, .int .u64 0] 44)) V2.heap.size 44 ZV.cells) := Lib.hid (Box.new V2 44 ZV.cells)
                have HGE : Hid (W0.heap.size ≤ V2.heap.size) := Lib.hid (HB2.out.size)
                have HO3 := Lib.hid (HO2.out.next hba)
                refine hK.out _ _ HB3 (fun hS => ?_)
                clear hK K
                try simp only [Act.put, List.getElem_toArray, List.getElem_cons_succ, List.getElem_cons_zero, List.setIfInBounds_toArray, List.set_cons_zero, List.set_cons_succ]
                generalize hNW : (V2.alloc (.cells #[.slice none 0 0, .int .i64 0, .int .i64 0, .int .u64 0] 44)) = V3 at *
                clear hNW
                refine wpAnyH_ready (rs := [11]) (by kernel_rfl) (by simp) ?_
                refine (AllReadyH.cons rfl (fun K hK => ?_) AllReadyH.nil)
                go_simp
                have hc := vapply_any y (⟨some ⟨V1.heap.size, 0, none⟩, 1, [d], none, 0, [], (i : Int) + 1, 0, i⟩ : X) V3 ((HVS.out.next HB3.out).ok) (HO3.out.add HW1.out (by decide) (by have := HI.out; omega))
                rw [show X.e (⟨some ⟨V1.heap.size, 0, none⟩, 1, [d], none, 0, [], (i : Int) + 1, 0, i⟩ : X) = eA i from by show (⟨[d.ru], [], _, _, _⟩ : E) = _; rw [HRU.out]; rfl, HYT.out, STEP.out] at hc
                refine hc.mono ?_
                rintro e V4 ⟨a, rfl, hat, hao, hb⟩
                have HA4 := Lib.hid hao
                have HAT := Lib.hid hat
                clear hat hao hc
                have HB4 : Hid (Below W0.heap.size W0 V4) := Lib.hid (HB3.out.trans (hb.mono HB3.out.size))
                have HZ4 := Lib.hid (HZ3.out.below hb HZ3.out.lt)
                refine hK.out _ _ HB4 (fun hS => ?_)
                clear hK K hb
                try simp only [Act.put, List.getElem_toArray, List.getElem_cons_succ, List.getElem_cons_zero, List.setIfInBounds_toArray, List.set_cons_zero, List.set_cons_succ]
                refine wpAnyH_take (i := 12) (v := ?_) rfl (by kernel_rfl) (by kernel_rfl) (by kernel_rfl) (fun _ _ _ h => h) (Or.inl ⟨by rfl, ?_⟩) hS ?_
                rotate_left
                · intro wi hw
                  go_simp
                  try with_reducible rfl
                try simp only [Act.put, List.getElem_toArray, List.getElem_cons_succ, List.getElem_cons_zero, List.setIfInBounds_toArray, List.set_cons_zero, List.set_cons_succ]
                refine wpAnyH_take (i := 13) (v := ?_) rfl (by kernel_rfl) (by kernel_rfl) (by kernel_rfl) (fun _ _ _ h => h) (Or.inl ⟨by rfl, ?_⟩) hS ?_
                rotate_left
                · intro wi hw
                  go_simp
                  try with_reducible rfl
                try simp only [Act.put, List.getElem_toArray, List.getElem_cons_succ, List.getElem_cons_zero, List.setIfInBounds_toArray, List.set_cons_zero, List.set_cons_succ]
                refine wpAnyH_take (i := 14) (v := ?_) rfl (by kernel_rfl) (by kernel_rfl) (by kernel_rfl) (fun _ _ _ h => h) (Or.inl ⟨by rfl, ?_⟩) hS ?_
                rotate_left
                · intro wi hw
                  go_simp
                  try with_reducible rfl
                try simp only [Act.put, List.getElem_toArray, List.getElem_cons_succ, List.getElem_cons_zero, List.setIfInBounds_toArray, List.set_cons_zero, List.set_cons_succ]
                refine wpAnyH_ready (rs := [16]) (by kernel_rfl) (by simp) ?_
                refine (AllReadyH.cons rfl (fun K hK => ?_) AllReadyH.nil)
                have HBX : Hid (Box (V4.setRow (V2.heap.size) a.cells.toArray) (V2.heap.size) 44 a.cells) := Lib.hid (setRow_heap _ _ _ _ _ _ HZ4.out)
                have HA9 : Hid (a.Ok (V4.setRow (V2.heap.size) a.cells.toArray) (V4.setRow (V2.heap.size) a.cells.toArray).heap.size) := Lib.hid (HA4.out.poke (vbox_of HZ4.out) (Ve.keep_setRow _ _ _))
                have HB9 : Hid (Below W0.heap.size W0 (V4.setRow (V2.heap.size) a.cells.toArray)) := Lib.hid (below_setRow HB4.out HGE.out _)
                refine held_store rfl _ _ _ rfl (V2.heap.size) #[.slice a.a a.runs.length a.c, .int .i64 a.next, .int .i64 a.log, .int .u64 (a.seq : Int)] rfl rfl _ ZV.cells.toArray HZ4.out (by kernel_rfl) rfl (by kernel_rfl) ?_
                refine hK.out _ _ HB9 (fun hS => ?_)
                clear hK K
                try simp only [Act.put, List.getElem_toArray, List.getElem_cons_succ, List.getElem_cons_zero, List.setIfInBounds_toArray, List.set_cons_zero, List.set_cons_succ]
                refine wpAnyH_take (i := 17) (v := ?_) rfl (by kernel_rfl) (by kernel_rfl) (by kernel_rfl) (fun _ _ _ h => h) (Or.inl ⟨by rfl, ?_⟩) hS ?_
                rotate_left
                · intro wi hw
                  go_simp
                  try with_reducible rfl
                try simp only [Act.put, List.getElem_toArray, List.getElem_cons_succ, List.getElem_cons_zero, List.setIfInBounds_toArray, List.set_cons_zero, List.set_cons_succ]
                refine wpAnyH_done (by kernel_rfl) ?_ _
                go_wp2_with fail
                go_meet
                exact ⟨V2.heap.size, a, rfl, rfl, HAT.out, HBX.out, HA9.out, HB9.out, HGE.out⟩
            · go_simp
              have hba := Joins.below_alloc1 V1 (.cells #[.slice none 0 0, .int .i64 0, .int .i64 0, .int .u64 0] 44)
              have HB2 : Hid (Below W0.heap.size W0 (V1.alloc (.cells #[.slice none 0 0, .int .i64 0, .int .i64 0, .int .u64 0] 44))) := Lib.hid (HB1.out.trans (hba.mono HB1.out.size))
              have HZ2 : Hid (Box (V1.alloc (.cells #[.slice none 0 0, .int .i64 0, .int .i64 0, .int .u64 0] 44)) V1.heap.size 44 ZV.cells) := Lib.hid (Box.new V1 44 ZV.cells)
              have HGE : Hid (W0.heap.size ≤ V1.heap.size) := Lib.hid (HB1.out.size)
              have HOK2 : Hid (d.Ok (V1.alloc (.cells #[.slice none 0 0, .int .i64 0, .int .i64 0, .int .u64 0] 44)) (Fresh W0.heap.size (V1.alloc (.cells #[.slice none 0 0, .int .i64 0, .int .i64 0, .int .u64 0] 44)))) := Lib.hid (HOK1.out.later (fun k hf => hba.block k hf.2.1) (Fresh.below hba))
              refine hK.out _ _ HB2 (fun hS => ?_)
              clear hK K
              try simp only [Act.put, List.getElem_toArray, List.getElem_cons_succ, List.getElem_cons_zero, List.setIfInBounds_toArray, List.set_cons_zero, List.set_cons_succ]
              generalize hNW : (V1.alloc (.cells #[.slice none 0 0, .int .i64 0, .int .i64 0, .int .u64 0] 44)) = V2 at *
              clear hNW
              refine wpAnyH_ready (rs := [5]) (by kernel_rfl) (by simp) ?_
              refine (AllReadyH.cons rfl (fun K hK => ?_) AllReadyH.nil)
              go_simp
              have hba := Joins.below_alloc1 V2 (.cells #[.int .i64 d.file, .int .i64 d.bytes, .int .i64 d.count, .slice d.firstA d.first.length d.firstC, .slice d.lastA d.last.length d.lastC, .int .u64 (d.seq : Int)] 41)
              have HB3 : Hid (Below W0.heap.size W0 (V2.alloc (.cells #[.int .i64 d.file, .int .i64 d.bytes, .int .i64 d.count, .slice d.firstA d.first.length d.firstC, .slice d.lastA d.last.length d.lastC, .int .u64 (d.seq : Int)] 41))) := Lib.hid (HB2.out.trans (hba.mono HB2.out.size))
              have HO3 : Hid (One (V2.alloc (.cells #[.int .i64 d.file, .int .i64 d.bytes, .int .i64 d.count, .slice d.firstA d.first.length d.firstC, .slice d.lastA d.last.length d.lastC, .int .u64 (d.seq : Int)] 41)) V2.heap.size d) := Lib.hid (One.new HOK2.out)
              have HZ3 := Lib.hid (HZ2.out.below hba HZ2.out.lt)
              refine hK.out _ _ HB3 (fun hS => ?_)
              clear hK K
              try simp only [Act.put, List.getElem_toArray, List.getElem_cons_succ, List.getElem_cons_zero, List.setIfInBounds_toArray, List.set_cons_zero, List.set_cons_succ]
              generalize hNW : (V2.alloc (.cells #[.int .i64 d.file, .int .i64 d.bytes, .int .i64 d.count, .slice d.firstA d.first.length d.firstC, .slice d.lastA d.last.length d.lastC, .int .u64 (d.seq : Int)] 41)) = V3 at *
              clear hNW
              refine wpAnyH_take (i := 10) (v := ?_) rfl (by kernel_rfl) (by kernel_rfl) (by kernel_rfl) (fun _ _ _ h => h) (Or.inl ⟨by rfl, ?_⟩) hS ?_
              rotate_left
              · intro wi hw
                go_simp
                try with_reducible rfl
              try simp only [Act.put, List.getElem_toArray, List.getElem_cons_succ, List.getElem_cons_zero, List.setIfInBounds_toArray, List.set_cons_zero, List.set_cons_succ]
              refine wpAnyH_ready (rs := [11]) (by kernel_rfl) (by simp) ?_
              refine (AllReadyH.cons rfl (fun K hK => ?_) AllReadyH.nil)
              go_simp
              have hc := vapply_any y (⟨some ⟨V2.heap.size, 0, none⟩, 1, [d], none, 0, [], (i : Int) + 1, 0, i⟩ : X) V3 ((HVS.out.next HB3.out).ok) (HO3.out.add HW1.out (by decide) (by have := HI.out; omega))
              rw [show X.e (⟨some ⟨V2.heap.size, 0, none⟩, 1, [d], none, 0, [], (i : Int) + 1, 0, i⟩ : X) = eA i from by show (⟨[d.ru], [], _, _, _⟩ : E) = _; rw [HRU.out]; rfl, HYT.out, STEP.out] at hc
              refine hc.mono ?_
              rintro e V4 ⟨a, rfl, hat, hao, hb⟩
              have HA4 := Lib.hid hao
              have HAT := Lib.hid hat
              clear hat hao hc
              have HB4 : Hid (Below W0.heap.size W0 V4) := Lib.hid (HB3.out.trans (hb.mono HB3.out.size))
              have HZ4 := Lib.hid (HZ3.out.below hb HZ3.out.lt)
              refine hK.out _ _ HB4 (fun hS => ?_)
              clear hK K hb
              try simp only [Act.put, List.getElem_toArray, List.getElem_cons_succ, List.getElem_cons_zero, List.setIfInBounds_toArray, List.set_cons_zero, List.set_cons_succ]
              refine wpAnyH_take (i := 12) (v := ?_) rfl (by kernel_rfl) (by kernel_rfl) (by kernel_rfl) (fun _ _ _ h => h) (Or.inl ⟨by rfl, ?_⟩) hS ?_
              rotate_left
              · intro wi hw
                go_simp
                try with_reducible rfl
              try simp only [Act.put, List.getElem_toArray, List.getElem_cons_succ, List.getElem_cons_zero, List.setIfInBounds_toArray, List.set_cons_zero, List.set_cons_succ]
              refine wpAnyH_take (i := 13) (v := ?_) rfl (by kernel_rfl) (by kernel_rfl) (by kernel_rfl) (fun _ _ _ h => h) (Or.inl ⟨by rfl, ?_⟩) hS ?_
              rotate_left
              · intro wi hw
                go_simp
                try with_reducible rfl
              try simp only [Act.put, List.getElem_toArray, List.getElem_cons_succ, List.getElem_cons_zero, List.setIfInBounds_toArray, List.set_cons_zero, List.set_cons_succ]
              refine wpAnyH_take (i := 14) (v := ?_) rfl (by kernel_rfl) (by kernel_rfl) (by kernel_rfl) (fun _ _ _ h => h) (Or.inl ⟨by rfl, ?_⟩) hS ?_
              rotate_left
              · intro wi hw
                go_simp
                try with_reducible rfl
              try simp only [Act.put, List.getElem_toArray, List.getElem_cons_succ, List.getElem_cons_zero, List.setIfInBounds_toArray, List.set_cons_zero, List.set_cons_succ]
              refine wpAnyH_ready (rs := [16]) (by kernel_rfl) (by simp) ?_
              refine (AllReadyH.cons rfl (fun K hK => ?_) AllReadyH.nil)
              have HBX : Hid (Box (V4.setRow (V1.heap.size) a.cells.toArray) (V1.heap.size) 44 a.cells) := Lib.hid (setRow_heap _ _ _ _ _ _ HZ4.out)
              have HA9 : Hid (a.Ok (V4.setRow (V1.heap.size) a.cells.toArray) (V4.setRow (V1.heap.size) a.cells.toArray).heap.size) := Lib.hid (HA4.out.poke (vbox_of HZ4.out) (Ve.keep_setRow _ _ _))
              have HB9 : Hid (Below W0.heap.size W0 (V4.setRow (V1.heap.size) a.cells.toArray)) := Lib.hid (below_setRow HB4.out HGE.out _)
              refine held_store rfl _ _ _ rfl (V1.heap.size) #[.slice a.a a.runs.length a.c, .int .i64 a.next, .int .i64 a.log, .int .u64 (a.seq : Int)] rfl rfl _ ZV.cells.toArray HZ4.out (by kernel_rfl) rfl (by kernel_rfl) ?_
              refine hK.out _ _ HB9 (fun hS => ?_)
              clear hK K
              try simp only [Act.put, List.getElem_toArray, List.getElem_cons_succ, List.getElem_cons_zero, List.setIfInBounds_toArray, List.set_cons_zero, List.set_cons_succ]
              refine wpAnyH_take (i := 17) (v := ?_) rfl (by kernel_rfl) (by kernel_rfl) (by kernel_rfl) (fun _ _ _ h => h) (Or.inl ⟨by rfl, ?_⟩) hS ?_
              rotate_left
              · intro wi hw
                go_simp
                try with_reducible rfl
              try simp only [Act.put, List.getElem_toArray, List.getElem_cons_succ, List.getElem_cons_zero, List.setIfInBounds_toArray, List.set_cons_zero, List.set_cons_succ]
              refine wpAnyH_done (by kernel_rfl) ?_ _
              go_wp2_with fail
              go_meet
              exact ⟨V1.heap.size, a, rfl, rfl, HAT.out, HBX.out, HA9.out, HB9.out, HGE.out⟩
          · go_simp
            have HB1 : Hid (Below W0.heap.size W0 (W0.alloc (.cells #[.slice none 0 0, .int .i64 0, .int .i64 0, .int .u64 0] 44)).drew) := Lib.hid (Joins.below_alloc1 W0 (.cells #[.slice none 0 0, .int .i64 0, .int .i64 0, .int .u64 0] 44)).drew
            have HZ1 : Hid (Box (W0.alloc (.cells #[.slice none 0 0, .int .i64 0, .int .i64 0, .int .u64 0] 44)).drew W0.heap.size 44 ZV.cells) := Lib.hid (Box.new W0 44 ZV.cells)
            have HGE : Hid (W0.heap.size ≤ W0.heap.size) := Lib.hid (HBD.out.size)
            refine hK.out _ _ HB1 (fun hS => ?_)
            clear hK K
            try simp only [Act.put, List.getElem_toArray, List.getElem_cons_succ, List.getElem_cons_zero, List.setIfInBounds_toArray, List.set_cons_zero, List.set_cons_succ]
            generalize hNW : (W0.alloc (.cells #[.slice none 0 0, .int .i64 0, .int .i64 0, .int .u64 0] 44)).drew = V1 at *
            clear hNW
            refine wpAnyH_ready (rs := [4]) (by kernel_rfl) (by simp) ?_
            refine (AllReadyH.cons rfl (fun K hK => ?_) AllReadyH.nil)
            go_simp
            refine (HRUN.out V1).mono ?_
            rintro e V2 ⟨d, rfl, hru, hok, hb⟩
            have HRU := Lib.hid hru
            have HOK2 : Hid (d.Ok V2 (Fresh W0.heap.size V2)) := Lib.hid (hok.later (fun _ _ => rfl) (Fresh.low HB1.out.size))
            clear hru hok
            have HB2 : Hid (Below W0.heap.size W0 V2) := Lib.hid (HB1.out.trans (hb.mono HB1.out.size))
            have HZ2 := Lib.hid (HZ1.out.below hb HZ1.out.lt)
            refine hK.out _ _ HB2 (fun hS => ?_)
            clear hK K hb
            try simp only [Act.put, List.getElem_toArray, List.getElem_cons_succ, List.getElem_cons_zero, List.setIfInBounds_toArray, List.set_cons_zero, List.set_cons_succ]
            refine wpAnyH_ready (rs := [5]) (by kernel_rfl) (by simp) ?_
            refine (AllReadyH.cons rfl (fun K hK => ?_) AllReadyH.nil)
            go_simp
            have hba := Joins.below_alloc1 V2 (.cells #[.int .i64 d.file, .int .i64 d.bytes, .int .i64 d.count, .slice d.firstA d.first.length d.firstC, .slice d.lastA d.last.length d.lastC, .int .u64 (d.seq : Int)] 41)
            have HB3 : Hid (Below W0.heap.size W0 (V2.alloc (.cells #[.int .i64 d.file, .int .i64 d.bytes, .int .i64 d.count, .slice d.firstA d.first.length d.firstC, .slice d.lastA d.last.length d.lastC, .int .u64 (d.seq : Int)] 41))) := Lib.hid (HB2.out.trans (hba.mono HB2.out.size))
            have HO3 : Hid (One (V2.alloc (.cells #[.int .i64 d.file, .int .i64 d.bytes, .int .i64 d.count, .slice d.firstA d.first.length d.firstC, .slice d.lastA d.last.length d.lastC, .int .u64 (d.seq : Int)] 41)) V2.heap.size d) := Lib.hid (One.new HOK2.out)
            have HZ3 := Lib.hid (HZ2.out.below hba HZ2.out.lt)
            refine hK.out _ _ HB3 (fun hS => ?_)
            clear hK K
            try simp only [Act.put, List.getElem_toArray, List.getElem_cons_succ, List.getElem_cons_zero, List.setIfInBounds_toArray, List.set_cons_zero, List.set_cons_succ]
            generalize hNW : (V2.alloc (.cells #[.int .i64 d.file, .int .i64 d.bytes, .int .i64 d.count, .slice d.firstA d.first.length d.firstC, .slice d.lastA d.last.length d.lastC, .int .u64 (d.seq : Int)] 41)) = V3 at *
            clear hNW
            refine wpAnyH_take (i := 10) (v := ?_) rfl (by kernel_rfl) (by kernel_rfl) (by kernel_rfl) (fun _ _ _ h => h) (Or.inl ⟨by rfl, ?_⟩) hS ?_
            rotate_left
            · intro wi hw
              go_simp
              try with_reducible rfl
            try simp only [Act.put, List.getElem_toArray, List.getElem_cons_succ, List.getElem_cons_zero, List.setIfInBounds_toArray, List.set_cons_zero, List.set_cons_succ]
            refine wpAnyH_ready (rs := [11]) (by kernel_rfl) (by simp) ?_
            refine (AllReadyH.cons rfl (fun K hK => ?_) AllReadyH.nil)
            go_simp
            have hc := vapply_any y (⟨some ⟨V2.heap.size, 0, none⟩, 1, [d], none, 0, [], (i : Int) + 1, 0, i⟩ : X) V3 ((HVS.out.next HB3.out).ok) (HO3.out.add HW1.out (by decide) (by have := HI.out; omega))
            rw [show X.e (⟨some ⟨V2.heap.size, 0, none⟩, 1, [d], none, 0, [], (i : Int) + 1, 0, i⟩ : X) = eA i from by show (⟨[d.ru], [], _, _, _⟩ : E) = _; rw [HRU.out]; rfl, HYT.out, STEP.out] at hc
            refine hc.mono ?_
            rintro e V4 ⟨a, rfl, hat, hao, hb⟩
            have HA4 := Lib.hid hao
            have HAT := Lib.hid hat
            clear hat hao hc
            have HB4 : Hid (Below W0.heap.size W0 V4) := Lib.hid (HB3.out.trans (hb.mono HB3.out.size))
            have HZ4 := Lib.hid (HZ3.out.below hb HZ3.out.lt)
            refine hK.out _ _ HB4 (fun hS => ?_)
            clear hK K hb
            try simp only [Act.put, List.getElem_toArray, List.getElem_cons_succ, List.getElem_cons_zero, List.setIfInBounds_toArray, List.set_cons_zero, List.set_cons_succ]
            refine wpAnyH_take (i := 12) (v := ?_) rfl (by kernel_rfl) (by kernel_rfl) (by kernel_rfl) (fun _ _ _ h => h) (Or.inl ⟨by rfl, ?_⟩) hS ?_
            rotate_left
            · intro wi hw
              go_simp
              try with_reducible rfl
            try simp only [Act.put, List.getElem_toArray, List.getElem_cons_succ, List.getElem_cons_zero, List.setIfInBounds_toArray, List.set_cons_zero, List.set_cons_succ]
            refine wpAnyH_take (i := 13) (v := ?_) rfl (by kernel_rfl) (by kernel_rfl) (by kernel_rfl) (fun _ _ _ h => h) (Or.inl ⟨by rfl, ?_⟩) hS ?_
            rotate_left
            · intro wi hw
              go_simp
              try with_reducible rfl
            try simp only [Act.put, List.getElem_toArray, List.getElem_cons_succ, List.getElem_cons_zero, List.setIfInBounds_toArray, List.set_cons_zero, List.set_cons_succ]
            refine wpAnyH_take (i := 14) (v := ?_) rfl (by kernel_rfl) (by kernel_rfl) (by kernel_rfl) (fun _ _ _ h => h) (Or.inl ⟨by rfl, ?_⟩) hS ?_
            rotate_left
            · intro wi hw
              go_simp
              try with_reducible rfl
            try simp only [Act.put, List.getElem_toArray, List.getElem_cons_succ, List.getElem_cons_zero, List.setIfInBounds_toArray, List.set_cons_zero, List.set_cons_succ]
            refine wpAnyH_ready (rs := [16]) (by kernel_rfl) (by simp) ?_
            refine (AllReadyH.cons rfl (fun K hK => ?_) AllReadyH.nil)
            have HBX : Hid (Box (V4.setRow (W0.heap.size) a.cells.toArray) (W0.heap.size) 44 a.cells) := Lib.hid (setRow_heap _ _ _ _ _ _ HZ4.out)
            have HA9 : Hid (a.Ok (V4.setRow (W0.heap.size) a.cells.toArray) (V4.setRow (W0.heap.size) a.cells.toArray).heap.size) := Lib.hid (HA4.out.poke (vbox_of HZ4.out) (Ve.keep_setRow _ _ _))
            have HB9 : Hid (Below W0.heap.size W0 (V4.setRow (W0.heap.size) a.cells.toArray)) := Lib.hid (below_setRow HB4.out HGE.out _)
            refine held_store rfl _ _ _ rfl (W0.heap.size) #[.slice a.a a.runs.length a.c, .int .i64 a.next, .int .i64 a.log, .int .u64 (a.seq : Int)] rfl rfl _ ZV.cells.toArray HZ4.out (by kernel_rfl) rfl (by kernel_rfl) ?_
            refine hK.out _ _ HB9 (fun hS => ?_)
            clear hK K
            try simp only [Act.put, List.getElem_toArray, List.getElem_cons_succ, List.getElem_cons_zero, List.setIfInBounds_toArray, List.set_cons_zero, List.set_cons_succ]
            refine wpAnyH_take (i := 17) (v := ?_) rfl (by kernel_rfl) (by kernel_rfl) (by kernel_rfl) (fun _ _ _ h => h) (Or.inl ⟨by rfl, ?_⟩) hS ?_
            rotate_left
            · intro wi hw
              go_simp
              try with_reducible rfl
            try simp only [Act.put, List.getElem_toArray, List.getElem_cons_succ, List.getElem_cons_zero, List.setIfInBounds_toArray, List.set_cons_zero, List.set_cons_succ]
            refine wpAnyH_done (by kernel_rfl) ?_ _
            go_wp2_with fail
            go_meet
            exact ⟨W0.heap.size, a, rfl, rfl, HAT.out, HBX.out, HA9.out, HB9.out, HGE.out⟩
      case rest =>
      obtain ⟨g3, a, rfl, rfl, hat, hbx, hao, hbw, hge⟩ := hcut
      have HVS1 := Lib.hid (HVS.out.next hbw)
      have HBX1 := Lib.hid hbx
      have HA1 := Lib.hid hao
      have HAT1 := Lib.hid hat
      have HBE1 := Lib.hid (HBE.out.trans (hbw.mono HBE.out.size))
      have HVS2 := Lib.hid (HVS1.out.put hao)
      have HBE2 := Lib.hid (below_setRow HBE1.out HG.out a.cells.toArray)
      clear hat hbx hao hbw hge HVS HBE HYT STEP HRUN HW1
      go_wp2_with (first | (go_at_call 27; refine (vnum_any _ _).mono ?_; rintro e w' ⟨rfl, rfl⟩) | (refine wpList_load_row rfl _ _ rfl g3 rfl _ a.cells.toArray (0, 0) _ HBX1.out Try.underlying44 rfl (by kernel_rfl) ?_) | (refine wpList_store_row rfl _ _ _ rfl gv a.cells.toArray rfl rfl _ y.cells.toArray HVS1.out.box (by kernel_rfl) rfl (by kernel_rfl) ?_))
      go_roundw
      case rel => exact ⟨i + 1, a, by omega, by omega, by go_num, HVS2, HAT1, HBE2⟩
      case measure => simp [intOf]; omega
    · have dl : decide ((i : Int) ≤ (n : Int)) = false := decide_eq_false (by omega)
      have dl2 : decide (i ≤ n) = false := decide_eq_false hlt
      have HYN : Hid (y.t = vN n) := Lib.hid (by rw [HYT.out, show i - 1 = n by omega])
      clear HYT hlt hi1 hin
      go_upto_region 13 with fail
      clear dl dl2
      generalize wr = W3 at *
      go_wp2_with fail
      go_loopw [12, 13] (fun dv jv wr => ∃ p : Nat, at' ≤ p ∧ p ≤ at' + c ∧ jv = .int .i64 (p : Int) ∧ Hid (wr.ownsRow W3.heap.size 3 1 dv (dropsN n at' (p - at')).length ((dropsN n at' (p - at')).map (.int .i64))) ∧ Hid (Below W3.heap.size W3 wr)) (fun _ jv _ => 100 - (intOf jv).toNat)
      case atStart => exact ⟨at', Nat.le_refl _, by omega, rfl, Lib.hid (by rw [Nat.sub_self]; exact World.ownsRow_nil _ _ _ _), Lib.hid (Below.refl _ _)⟩
      case round =>
        obtain ⟨p, hp1, hp2, rfl, ho, hb⟩ := hrel
        have hpn : p ≤ n := by have := H3.out; have := H5.out; omega
        have w1 : IntKind.i64.wrap ((at' : Int) + (c : Int)) = (at' : Int) + (c : Int) := IntWalk.i64_in _ (by have := H3.out; have := H5.out; omega)
        have w2 : IntKind.i64.wrap ((n : Int) - (p : Int)) = (n : Int) - (p : Int) := IntWalk.i64_in _ (by omega)
        by_cases hpc : p < at' + c
        · have dl : decide ((p : Int) < (at' : Int) + (c : Int)) = true := decide_eq_true (by omega)
          obtain ⟨v', w', hr, ho2, hon⟩ := more_num ((n : Int) - (p : Int)) ho.out (by rw [dropsN_len]; omega) hb.out.size
          have hb2 := hon.below ho.out hb.out.size
          have HO2 : Hid (w'.ownsRow W3.heap.size 3 1 v' (dropsN n at' (p + 1 - at')).length ((dropsN n at' (p + 1 - at')).map (.int .i64))) := Lib.hid (by
            have e : p + 1 - at' = (p - at') + 1 := by omega
            rw [e, dropsN_succ, show (n : Int) - ((at' : Int) + ((p - at' : Nat) : Int)) = (n : Int) - (p : Int) by omega]
            exact ho2)
          have HB2 := Lib.hid (hb.out.trans hb2)
          have HR := Lib.hid hr
          clear hr ho2 hon hb2 ho hb
          go_wp2_with (at_builtin; refine wpList_append_run rfl _ _ 23 rfl rfl rfl HR.out ?_)
          go_roundw
          case rel => exact ⟨p + 1, by omega, by omega, by go_num, HO2, HB2⟩
          case measure => simp [intOf]; omega
        · obtain rfl : p = at' + c := by omega
          have dl : decide (((at' + c : Nat) : Int) < (at' : Int) + (c : Int)) = false := decide_eq_false (by omega)
          have dl2 : decide ((at' : Int) + (c : Int) < (at' : Int) + (c : Int)) = false := decide_eq_false (by omega)
          have HO : Hid (wr.ownsRow W3.heap.size 3 1 u12 (dropsN n at' c).length ((dropsN n at' c).map (.int .i64))) := Lib.hid (by have := ho.out; rwa [Nat.add_sub_cancel_left] at this)
          obtain ⟨dA, dC, rfl, hdc, hdm, -⟩ := own_parts HO.out
          have HDL := Lib.hid (Lies.of_own HO.out)
          have HDC : Hid ((dropsN n at' c).length ≤ dC ∧ dC ≤ maxLen) := Lib.hid ⟨hdc, hdm⟩
          have HVS4 := Lib.hid (HVS.out.next hb.out)
          have HBE4 := Lib.hid (HBE.out.trans (hb.out.mono HBE.out.size))
          clear ho hb HO HVS HBE hdc hdm hpc hp1 hp2 hpn w2
          go_upto_region 17 with fail
          clear dl dl2 w1
          have HVS := Lib.hid HVS4.out
          have HYT := Lib.hid HYN.out
          have STEP : Hid (applyV (vN n) (eS n at' c) = (0, vS n at' c)) := Lib.hid (step_swap H3.out (by omega) H5.out h4)
          have HW1 : Hid ((Lit.int .i64 ((n : Int) + 2)).wf = true) := Lib.hid (WalkArith.wf_i64 (by omega))
          have HDW : Hid (∀ z, z ∈ dropsN n at' c → (Lit.int .i64 z).wf = true) := Lib.hid fun z hz => by
            obtain ⟨m, hm, rfl⟩ := List.mem_map.1 hz
            have := List.mem_range.1 hm
            have := H3.out
            have := H5.out
            exact WalkArith.wf_i64 (by omega)
          obtain ⟨s, hs⟩ : ∃ s, s = n - at' := ⟨_, rfl⟩
          have HS := Lib.hid hs
          have HRUN := Lib.hid fun W => run_any ((n : Int) + 1) s W (WalkArith.wf_i64 (by omega)) (by omega)
          have w1 : IntKind.u64.wrap ((n : Int) - (at' : Int)) = (s : Int) := by rw [IntKind.wrap_u64]; have := H3.out; omega
          have w2 : IntKind.i64.wrap ((n : Int) + 1) = (n : Int) + 1 := IntWalk.i64_in _ (by omega)
          have w3 : IntKind.i64.wrap ((n : Int) + 2) = (n : Int) + 2 := IntWalk.i64_in _ (by omega)
          clear HVS4 HYN hs
          generalize wr = W0 at *
          obtain ⟨Z, hZ⟩ : ∃ Z, Z = dropsN n at' c := ⟨_, rfl⟩
          have HZE := Lib.hid hZ
          rw [← hZ] at HDL HDC HDW ⊢
          clear hZ
          go_cut [14, 15] (fun pv ev wx => ∃ (g : Nat) (a : Y), pv = .pointer (some ⟨g, 0, none⟩) ∧ ev = .int .i64 0 ∧ a.t = vS n at' c ∧ Box wx g 44 a.cells ∧ a.Ok wx wx.heap.size ∧ Below W0.heap.size W0 wx ∧ W0.heap.size ≤ g)
          case first =>
              refine wp_region_held_drew (S := (fun w' => Hid (Below W0.heap.size W0 w'))) (by kernel_rfl) (Lib.hid (Below.refl _ _).drew) (fun hS => ?_)
              have HBD : Hid (Below W0.heap.size W0 W0.drew) := Lib.hid (Below.refl _ _).drew
              refine wpAnyH_take (i := 0) (v := ?_) rfl (by kernel_rfl) (by kernel_rfl) (by kernel_rfl) (fun _ _ _ h => h) (Or.inl ⟨by rfl, ?_⟩) hS ?_
              rotate_left
              · intro wi hw
                have q := load_box (HVS.out.next hw.out).box
                obtain ⟨k0, k1, k2, k3⟩ := Ve.look (HVS.out.next hw.out).box
                go_simp
                try with_reducible rfl
              try simp only [Act.put, List.getElem_toArray, List.getElem_cons_succ, List.getElem_cons_zero, List.setIfInBounds_toArray, List.set_cons_zero, List.set_cons_succ]
              refine wpAnyH_take (i := 1) (v := ?_) rfl (by kernel_rfl) (by kernel_rfl) (by kernel_rfl) (fun _ _ _ h => h) (Or.inl ⟨by rfl, ?_⟩) hS ?_
              rotate_left
              · intro wi hw
                go_simp
                try with_reducible rfl
              try simp only [Act.put, List.getElem_toArray, List.getElem_cons_succ, List.getElem_cons_zero, List.setIfInBounds_toArray, List.set_cons_zero, List.set_cons_succ]
              refine wpAnyH_take (i := 2) (v := ?_) rfl (by kernel_rfl) (by kernel_rfl) (by kernel_rfl) (fun _ _ _ h => h) (Or.inl ⟨by rfl, ?_⟩) hS ?_
              rotate_left
              · intro wi hw
                go_simp
                try with_reducible rfl
              try simp only [Act.put, List.getElem_toArray, List.getElem_cons_succ, List.getElem_cons_zero, List.setIfInBounds_toArray, List.set_cons_zero, List.set_cons_succ]
              refine wpAnyH_take (i := 3) (v := ?_) rfl (by kernel_rfl) (by kernel_rfl) (by kernel_rfl) (fun _ _ _ h => h) (Or.inl ⟨by rfl, ?_⟩) hS ?_
              rotate_left
              · intro wi hw
                go_simp
                try with_reducible rfl
              try simp only [Act.put, List.getElem_toArray, List.getElem_cons_succ, List.getElem_cons_zero, List.setIfInBounds_toArray, List.set_cons_zero, List.set_cons_succ]
              refine wpAnyH_take (i := 4) (v := ?_) rfl (by kernel_rfl) (by kernel_rfl) (by kernel_rfl) (fun _ _ _ h => h) (Or.inl ⟨by rfl, ?_⟩) hS ?_
              rotate_left
              · intro wi hw
                go_simp
                try with_reducible rfl
              try simp only [Act.put, List.getElem_toArray, List.getElem_cons_succ, List.getElem_cons_zero, List.setIfInBounds_toArray, List.set_cons_zero, List.set_cons_succ]
              refine wpAnyH_take (i := 5) (v := ?_) rfl (by kernel_rfl) (by kernel_rfl) (by kernel_rfl) (fun _ _ _ h => h) (Or.inl ⟨by rfl, ?_⟩) hS ?_
              rotate_left
              · intro wi hw
                go_simp
                try with_reducible rfl
              try simp only [Act.put, List.getElem_toArray, List.getElem_cons_succ, List.getElem_cons_zero, List.setIfInBounds_toArray, List.set_cons_zero, List.set_cons_succ]
              refine wpAnyH_take (i := 6) (v := ?_) rfl (by kernel_rfl) (by kernel_rfl) (by kernel_rfl) (fun _ _ _ h => h) (Or.inl ⟨by rfl, ?_⟩) hS ?_
              rotate_left
              · intro wi hw
                go_simp
                try with_reducible rfl
              try simp only [Act.put, List.getElem_toArray, List.getElem_cons_succ, List.getElem_cons_zero, List.setIfInBounds_toArray, List.set_cons_zero, List.set_cons_succ]
              refine wpAnyH_take (i := 9) (v := ?_) rfl (by kernel_rfl) (by kernel_rfl) (by kernel_rfl) (fun _ _ _ h => h) (Or.inl ⟨by rfl, ?_⟩) hS ?_
              rotate_left
              · intro wi hw
                go_simp
                try with_reducible rfl
              try simp only [Act.put, List.getElem_toArray, List.getElem_cons_succ, List.getElem_cons_zero, List.setIfInBounds_toArray, List.set_cons_zero, List.set_cons_succ]
              refine wpAnyH_take (i := 10) (v := ?_) rfl (by kernel_rfl) (by kernel_rfl) (by kernel_rfl) (fun _ _ _ h => h) (Or.inl ⟨by rfl, ?_⟩) hS ?_
              rotate_left
              · intro wi hw
                go_simp
                try with_reducible rfl
              try simp only [Act.put, List.getElem_toArray, List.getElem_cons_succ, List.getElem_cons_zero, List.setIfInBounds_toArray, List.set_cons_zero, List.set_cons_succ]
              refine wpAnyH_take (i := 11) (v := ?_) rfl (by kernel_rfl) (by kernel_rfl) (by kernel_rfl) (fun _ _ _ h => h) (Or.inl ⟨by rfl, ?_⟩) hS ?_
              rotate_left
              · intro wi hw
                go_simp
                try with_reducible rfl
              try simp only [Act.put, List.getElem_toArray, List.getElem_cons_succ, List.getElem_cons_zero, List.setIfInBounds_toArray, List.set_cons_zero, List.set_cons_succ]
              refine wpAnyH_ready (rs := [7, 17]) (by kernel_rfl) (by simp) ?_
              refine (AllReadyH.cons rfl (fun K hK => ?_) (AllReadyH.cons rfl (fun K hK => ?_) AllReadyH.nil))
              · go_simp
                refine (HRUN.out W0.drew).mono ?_
                rintro e V1 ⟨d, rfl, hru, hok, hb⟩
                have HRU := Lib.hid hru
                have HOK1 : Hid (d.Ok V1 (Fresh W0.heap.size V1)) := Lib.hid (hok.later (fun _ _ => rfl) (Fresh.low HBD.out.size))
                clear hru hok
                have HB1 : Hid (Below W0.heap.size W0 V1) := Lib.hid (HBD.out.trans (hb.mono HBD.out.size))
                refine hK.out _ _ HB1 (fun hS => ?_)
                clear hK K hb
                try simp only [Act.put, List.getElem_toArray, List.getElem_cons_succ, List.getElem_cons_zero, List.setIfInBounds_toArray, List.set_cons_zero, List.set_cons_succ]
                refine wpAnyH_ready (rs := [8, 17]) (by kernel_rfl) (by simp) ?_
                refine (AllReadyH.cons rfl (fun K hK => ?_) (AllReadyH.cons rfl (fun K hK => ?_) AllReadyH.nil))
                · go_simp
                  have hba := Joins.below_alloc1 V1 (.cells #[.int .i64 d.file, .int .i64 d.bytes, .int .i64 d.count, .slice d.firstA d.first.length d.firstC, .slice d.lastA d.last.length d.lastC, .int .u64 (d.seq : Int)] 41)
                  have HB2 : Hid (Below W0.heap.size W0 (V1.alloc (.cells #[.int .i64 d.file, .int .i64 d.bytes, .int .i64 d.count, .slice d.firstA d.first.length d.firstC, .slice d.lastA d.last.length d.lastC, .int .u64 (d.seq : Int)] 41))) := Lib.hid (HB1.out.trans (hba.mono HB1.out.size))
                  have HO2 : Hid (One (V1.alloc (.cells #[.int .i64 d.file, .int .i64 d.bytes, .int .i64 d.count, .slice d.firstA d.first.length d.firstC, .slice d.lastA d.last.length d.lastC, .int .u64 (d.seq : Int)] 41)) V1.heap.size d) := Lib.hid (One.new HOK1.out)
                  refine hK.out _ _ HB2 (fun hS => ?_)
                  clear hK K
                  try simp only [Act.put, List.getElem_toArray, List.getElem_cons_succ, List.getElem_cons_zero, List.setIfInBounds_toArray, List.set_cons_zero, List.set_cons_succ]
                  generalize hNW : (V1.alloc (.cells #[.int .i64 d.file, .int .i64 d.bytes, .int .i64 d.count, .slice d.firstA d.first.length d.firstC, .slice d.lastA d.last.length d.lastC, .int .u64 (d.seq : Int)] 41)) = V2 at *
                  clear hNW
                  refine wpAnyH_take (i := 12) (v := ?_) rfl (by kernel_rfl) (by kernel_rfl) (by kernel_rfl) (fun _ _ _ h => h) (Or.inl ⟨by rfl, ?_⟩) hS ?_
                  rotate_left
                  · intro wi hw
                    go_simp
                    try with_reducible rfl
                  try simp only [Act.put, List.getElem_toArray, List.getElem_cons_succ, List.getElem_cons_zero, List.setIfInBounds_toArray, List.set_cons_zero, List.set_cons_succ]
                  refine wpAnyH_ready (rs := [13, 17]) (by kernel_rfl) (by simp) ?_
                  refine (AllReadyH.cons rfl (fun K hK => ?_) (AllReadyH.cons rfl (fun K hK => ?_) AllReadyH.nil))
                  · go_simp
                    have hc := vapply_any y (⟨some ⟨V1.heap.size, 0, none⟩, 1, [d], dA, dC, Z, (n : Int) + 2, 0, 0⟩ : X) V2 ((HVS.out.next HB2.out).ok) (HO2.out.full (lies_next HDL.out HB2.out) HDC.out.1 HDC.out.2 HDW.out HW1.out (by decide) (by decide))
                    rw [show X.e (⟨some ⟨V1.heap.size, 0, none⟩, 1, [d], dA, dC, Z, (n : Int) + 2, 0, 0⟩ : X) = eS n at' c from by show (⟨[d.ru], _, _, _, _⟩ : E) = _; rw [HRU.out, HS.out, HZE.out]; rfl, HYT.out, STEP.out] at hc
                    refine hc.mono ?_
                    rintro e V3 ⟨a, rfl, hat, hao, hb⟩
                    have HA3 := Lib.hid hao
                    have HAT := Lib.hid hat
                    clear hat hao hc
                    have HB3 : Hid (Below W0.heap.size W0 V3) := Lib.hid (HB2.out.trans (hb.mono HB2.out.size))
                    refine hK.out _ _ HB3 (fun hS => ?_)
                    clear hK K hb
                    try simp only [Act.put, List.getElem_toArray, List.getElem_cons_succ, List.getElem_cons_zero, List.setIfInBounds_toArray, List.set_cons_zero, List.set_cons_succ]
                    refine wpAnyH_take (i := 14) (v := ?_) rfl (by kernel_rfl) (by kernel_rfl) (by kernel_rfl) (fun _ _ _ h => h) (Or.inl ⟨by rfl, ?_⟩) hS ?_
                    rotate_left
                    · intro wi hw
                      go_simp
                      try with_reducible rfl
                    try simp only [Act.put, List.getElem_toArray, List.getElem_cons_succ, List.getElem_cons_zero, List.setIfInBounds_toArray, List.set_cons_zero, List.set_cons_succ]
                    refine wpAnyH_take (i := 15) (v := ?_) rfl (by kernel_rfl) (by kernel_rfl) (by kernel_rfl) (fun _ _ _ h => h) (Or.inl ⟨by rfl, ?_⟩) hS ?_
                    rotate_left
                    · intro wi hw
                      go_simp
                      try with_reducible rfl
                    try simp only [Act.put, List.getElem_toArray, List.getElem_cons_succ, List.getElem_cons_zero, List.setIfInBounds_toArray, List.set_cons_zero, List.set_cons_succ]
                    refine wpAnyH_take (i := 16) (v := ?_) rfl (by kernel_rfl) (by kernel_rfl) (by kernel_rfl) (fun _ _ _ h => h) (Or.inl ⟨by rfl, ?_⟩) hS ?_
                    rotate_left
                    · intro wi hw
                      go_simp
                      try with_reducible rfl
                    try simp only [Act.put, List.getElem_toArray, List.getElem_cons_succ, List.getElem_cons_zero, List.setIfInBounds_toArray, List.set_cons_zero, List.set_cons_succ]
                    refine wpAnyH_ready (rs := [17]) (by kernel_rfl) (by simp) ?_
                    refine (AllReadyH.cons rfl (fun K hK => ?_) AllReadyH.nil)
                    go_simp
                    have hba := Joins.below_alloc1 V3 (.cells #[.slice none 0 0, .int .i64 0, .int .i64 0, .int .u64 0] 44)
                    have HB4 : Hid (Below W0.heap.size W0 (V3.alloc (.cells #[.slice none 0 0, .int .i64 0, .int .i64 0, .int .u64 0] 44))) := Lib.hid (HB3.out.trans (hba.mono HB3.out.size))
                    have HZ4 : Hid (Box (V3.alloc (.cells #[.slice none 0 0, .int .i64 0, .int .i64 0, .int .u64 0] 44)) V3.heap.size 44 ZV.cells) := Lib.hid (Box.new V3 44 ZV.cells)
                    have HGE : Hid (W0.heap.size ≤ V3.heap.size) := Lib.hid (HB3.out.size)
                    have HA4 := Lib.hid (HA3.out.next hba)
                    refine hK.out _ _ HB4 (fun hS => ?_)
                    clear hK K
                    try simp only [Act.put, List.getElem_toArray, List.getElem_cons_succ, List.getElem_cons_zero, List.setIfInBounds_toArray, List.set_cons_zero, List.set_cons_succ]
                    generalize hNW : (V3.alloc (.cells #[.slice none 0 0, .int .i64 0, .int .i64 0, .int .u64 0] 44)) = V4 at *
                    clear hNW
                    refine wpAnyH_ready (rs := [18]) (by kernel_rfl) (by simp) ?_
                    refine (AllReadyH.cons rfl (fun K hK => ?_) AllReadyH.nil)
                    have HBX : Hid (Box (V4.setRow (V3.heap.size) a.cells.toArray) (V3.heap.size) 44 a.cells) := Lib.hid (setRow_heap _ _ _ _ _ _ HZ4.out)
                    have HA9 : Hid (a.Ok (V4.setRow (V3.heap.size) a.cells.toArray) (V4.setRow (V3.heap.size) a.cells.toArray).heap.size) := Lib.hid (HA4.out.poke (vbox_of HZ4.out) (Ve.keep_setRow _ _ _))
                    have HB9 : Hid (Below W0.heap.size W0 (V4.setRow (V3.heap.size) a.cells.toArray)) := Lib.hid (below_setRow HB4.out HGE.out _)
                    refine held_store rfl _ _ _ rfl (V3.heap.size) #[.slice a.a a.runs.length a.c, .int .i64 a.next, .int .i64 a.log, .int .u64 (a.seq : Int)] rfl rfl _ ZV.cells.toArray HZ4.out (by kernel_rfl) rfl (by kernel_rfl) ?_
                    refine hK.out _ _ HB9 (fun hS => ?_)
                    clear hK K
                    try simp only [Act.put, List.getElem_toArray, List.getElem_cons_succ, List.getElem_cons_zero, List.setIfInBounds_toArray, List.set_cons_zero, List.set_cons_succ]
                    refine wpAnyH_take (i := 19) (v := ?_) rfl (by kernel_rfl) (by kernel_rfl) (by kernel_rfl) (fun _ _ _ h => h) (Or.inl ⟨by rfl, ?_⟩) hS ?_
                    rotate_left
                    · intro wi hw
                      go_simp
                      try with_reducible rfl
                    try simp only [Act.put, List.getElem_toArray, List.getElem_cons_succ, List.getElem_cons_zero, List.setIfInBounds_toArray, List.set_cons_zero, List.set_cons_succ]
                    refine wpAnyH_done (by kernel_rfl) ?_ _
                    go_wp2_with fail
                    go_meet
                    exact ⟨V3.heap.size, a, rfl, rfl, HAT.out, HBX.out, HA9.out, HB9.out, HGE.out⟩
                  · go_simp
                    have hba := Joins.below_alloc1 V2 (.cells #[.slice none 0 0, .int .i64 0, .int .i64 0, .int .u64 0] 44)
                    have HB3 : Hid (Below W0.heap.size W0 (V2.alloc (.cells #[.slice none 0 0, .int .i64 0, .int .i64 0, .int .u64 0] 44))) := Lib.hid (HB2.out.trans (hba.mono HB2.out.size))
                    have HZ3 : Hid (Box (V2.alloc (.cells #[.slice none 0 0, .int .i64 0, .int .i64 0, .int .u64 0] 44)) V2.heap.size 44 ZV.cells) := Lib.hid (Box.new V2 44 ZV.cells)
                    have HGE : Hid (W0.heap.size ≤ V2.heap.size) := Lib.hid (HB2.out.size)
                    have HO3 := Lib.hid (HO2.out.next hba)
                    refine hK.out _ _ HB3 (fun hS => ?_)
                    clear hK K
                    try simp only [Act.put, List.getElem_toArray, List.getElem_cons_succ, List.getElem_cons_zero, List.setIfInBounds_toArray, List.set_cons_zero, List.set_cons_succ]
                    generalize hNW : (V2.alloc (.cells #[.slice none 0 0, .int .i64 0, .int .i64 0, .int .u64 0] 44)) = V3 at *
                    clear hNW
                    refine wpAnyH_ready (rs := [13]) (by kernel_rfl) (by simp) ?_
                    refine (AllReadyH.cons rfl (fun K hK => ?_) AllReadyH.nil)
                    go_simp
                    have hc := vapply_any y (⟨some ⟨V1.heap.size, 0, none⟩, 1, [d], dA, dC, Z, (n : Int) + 2, 0, 0⟩ : X) V3 ((HVS.out.next HB3.out).ok) (HO3.out.full (lies_next HDL.out HB3.out) HDC.out.1 HDC.out.2 HDW.out HW1.out (by decide) (by decide))
                    rw [show X.e (⟨some ⟨V1.heap.size, 0, none⟩, 1, [d], dA, dC, Z, (n : Int) + 2, 0, 0⟩ : X) = eS n at' c from by show (⟨[d.ru], _, _, _, _⟩ : E) = _; rw [HRU.out, HS.out, HZE.out]; rfl, HYT.out, STEP.out] at hc
                    refine hc.mono ?_
                    rintro e V4 ⟨a, rfl, hat, hao, hb⟩
                    have HA4 := Lib.hid hao
                    have HAT := Lib.hid hat
                    clear hat hao hc
                    have HB4 : Hid (Below W0.heap.size W0 V4) := Lib.hid (HB3.out.trans (hb.mono HB3.out.size))
                    have HZ4 := Lib.hid (HZ3.out.below hb HZ3.out.lt)
                    refine hK.out _ _ HB4 (fun hS => ?_)
                    clear hK K hb
                    try simp only [Act.put, List.getElem_toArray, List.getElem_cons_succ, List.getElem_cons_zero, List.setIfInBounds_toArray, List.set_cons_zero, List.set_cons_succ]
                    refine wpAnyH_take (i := 14) (v := ?_) rfl (by kernel_rfl) (by kernel_rfl) (by kernel_rfl) (fun _ _ _ h => h) (Or.inl ⟨by rfl, ?_⟩) hS ?_
                    rotate_left
                    · intro wi hw
                      go_simp
                      try with_reducible rfl
                    try simp only [Act.put, List.getElem_toArray, List.getElem_cons_succ, List.getElem_cons_zero, List.setIfInBounds_toArray, List.set_cons_zero, List.set_cons_succ]
                    refine wpAnyH_take (i := 15) (v := ?_) rfl (by kernel_rfl) (by kernel_rfl) (by kernel_rfl) (fun _ _ _ h => h) (Or.inl ⟨by rfl, ?_⟩) hS ?_
                    rotate_left
                    · intro wi hw
                      go_simp
                      try with_reducible rfl
                    try simp only [Act.put, List.getElem_toArray, List.getElem_cons_succ, List.getElem_cons_zero, List.setIfInBounds_toArray, List.set_cons_zero, List.set_cons_succ]
                    refine wpAnyH_take (i := 16) (v := ?_) rfl (by kernel_rfl) (by kernel_rfl) (by kernel_rfl) (fun _ _ _ h => h) (Or.inl ⟨by rfl, ?_⟩) hS ?_
                    rotate_left
                    · intro wi hw
                      go_simp
                      try with_reducible rfl
                    try simp only [Act.put, List.getElem_toArray, List.getElem_cons_succ, List.getElem_cons_zero, List.setIfInBounds_toArray, List.set_cons_zero, List.set_cons_succ]
                    refine wpAnyH_ready (rs := [18]) (by kernel_rfl) (by simp) ?_
                    refine (AllReadyH.cons rfl (fun K hK => ?_) AllReadyH.nil)
                    have HBX : Hid (Box (V4.setRow (V2.heap.size) a.cells.toArray) (V2.heap.size) 44 a.cells) := Lib.hid (setRow_heap _ _ _ _ _ _ HZ4.out)
                    have HA9 : Hid (a.Ok (V4.setRow (V2.heap.size) a.cells.toArray) (V4.setRow (V2.heap.size) a.cells.toArray).heap.size) := Lib.hid (HA4.out.poke (vbox_of HZ4.out) (Ve.keep_setRow _ _ _))
                    have HB9 : Hid (Below W0.heap.size W0 (V4.setRow (V2.heap.size) a.cells.toArray)) := Lib.hid (below_setRow HB4.out HGE.out _)
                    refine held_store rfl _ _ _ rfl (V2.heap.size) #[.slice a.a a.runs.length a.c, .int .i64 a.next, .int .i64 a.log, .int .u64 (a.seq : Int)] rfl rfl _ ZV.cells.toArray HZ4.out (by kernel_rfl) rfl (by kernel_rfl) ?_
                    refine hK.out _ _ HB9 (fun hS => ?_)
                    clear hK K
                    try simp only [Act.put, List.getElem_toArray, List.getElem_cons_succ, List.getElem_cons_zero, List.setIfInBounds_toArray, List.set_cons_zero, List.set_cons_succ]
                    refine wpAnyH_take (i := 19) (v := ?_) rfl (by kernel_rfl) (by kernel_rfl) (by kernel_rfl) (fun _ _ _ h => h) (Or.inl ⟨by rfl, ?_⟩) hS ?_
                    rotate_left
                    · intro wi hw
                      go_simp
                      try with_reducible rfl
                    try simp only [Act.put, List.getElem_toArray, List.getElem_cons_succ, List.getElem_cons_zero, List.setIfInBounds_toArray, List.set_cons_zero, List.set_cons_succ]
                    refine wpAnyH_done (by kernel_rfl) ?_ _
                    go_wp2_with fail
                    go_meet
                    exact ⟨V2.heap.size, a, rfl, rfl, HAT.out, HBX.out, HA9.out, HB9.out, HGE.out⟩
                · go_simp
                  have hba := Joins.below_alloc1 V1 (.cells #[.slice none 0 0, .int .i64 0, .int .i64 0, .int .u64 0] 44)
                  have HB2 : Hid (Below W0.heap.size W0 (V1.alloc (.cells #[.slice none 0 0, .int .i64 0, .int .i64 0, .int .u64 0] 44))) := Lib.hid (HB1.out.trans (hba.mono HB1.out.size))
                  have HZ2 : Hid (Box (V1.alloc (.cells #[.slice none 0 0, .int .i64 0, .int .i64 0, .int .u64 0] 44)) V1.heap.size 44 ZV.cells) := Lib.hid (Box.new V1 44 ZV.cells)
                  have HGE : Hid (W0.heap.size ≤ V1.heap.size) := Lib.hid (HB1.out.size)
                  have HOK2 : Hid (d.Ok (V1.alloc (.cells #[.slice none 0 0, .int .i64 0, .int .i64 0, .int .u64 0] 44)) (Fresh W0.heap.size (V1.alloc (.cells #[.slice none 0 0, .int .i64 0, .int .i64 0, .int .u64 0] 44)))) := Lib.hid (HOK1.out.later (fun k hf => hba.block k hf.2.1) (Fresh.below hba))
                  refine hK.out _ _ HB2 (fun hS => ?_)
                  clear hK K
                  try simp only [Act.put, List.getElem_toArray, List.getElem_cons_succ, List.getElem_cons_zero, List.setIfInBounds_toArray, List.set_cons_zero, List.set_cons_succ]
                  generalize hNW : (V1.alloc (.cells #[.slice none 0 0, .int .i64 0, .int .i64 0, .int .u64 0] 44)) = V2 at *
                  clear hNW
                  refine wpAnyH_ready (rs := [8]) (by kernel_rfl) (by simp) ?_
                  refine (AllReadyH.cons rfl (fun K hK => ?_) AllReadyH.nil)
                  go_simp
                  have hba := Joins.below_alloc1 V2 (.cells #[.int .i64 d.file, .int .i64 d.bytes, .int .i64 d.count, .slice d.firstA d.first.length d.firstC, .slice d.lastA d.last.length d.lastC, .int .u64 (d.seq : Int)] 41)
                  have HB3 : Hid (Below W0.heap.size W0 (V2.alloc (.cells #[.int .i64 d.file, .int .i64 d.bytes, .int .i64 d.count, .slice d.firstA d.first.length d.firstC, .slice d.lastA d.last.length d.lastC, .int .u64 (d.seq : Int)] 41))) := Lib.hid (HB2.out.trans (hba.mono HB2.out.size))
                  have HO3 : Hid (One (V2.alloc (.cells #[.int .i64 d.file, .int .i64 d.bytes, .int .i64 d.count, .slice d.firstA d.first.length d.firstC, .slice d.lastA d.last.length d.lastC, .int .u64 (d.seq : Int)] 41)) V2.heap.size d) := Lib.hid (One.new HOK2.out)
                  have HZ3 := Lib.hid (HZ2.out.below hba HZ2.out.lt)
                  refine hK.out _ _ HB3 (fun hS => ?_)
                  clear hK K
                  try simp only [Act.put, List.getElem_toArray, List.getElem_cons_succ, List.getElem_cons_zero, List.setIfInBounds_toArray, List.set_cons_zero, List.set_cons_succ]
                  generalize hNW : (V2.alloc (.cells #[.int .i64 d.file, .int .i64 d.bytes, .int .i64 d.count, .slice d.firstA d.first.length d.firstC, .slice d.lastA d.last.length d.lastC, .int .u64 (d.seq : Int)] 41)) = V3 at *
                  clear hNW
                  refine wpAnyH_take (i := 12) (v := ?_) rfl (by kernel_rfl) (by kernel_rfl) (by kernel_rfl) (fun _ _ _ h => h) (Or.inl ⟨by rfl, ?_⟩) hS ?_
                  rotate_left
                  · intro wi hw
                    go_simp
                    try with_reducible rfl
                  try simp only [Act.put, List.getElem_toArray, List.getElem_cons_succ, List.getElem_cons_zero, List.setIfInBounds_toArray, List.set_cons_zero, List.set_cons_succ]
                  refine wpAnyH_ready (rs := [13]) (by kernel_rfl) (by simp) ?_
                  refine (AllReadyH.cons rfl (fun K hK => ?_) AllReadyH.nil)
                  go_simp
                  have hc := vapply_any y (⟨some ⟨V2.heap.size, 0, none⟩, 1, [d], dA, dC, Z, (n : Int) + 2, 0, 0⟩ : X) V3 ((HVS.out.next HB3.out).ok) (HO3.out.full (lies_next HDL.out HB3.out) HDC.out.1 HDC.out.2 HDW.out HW1.out (by decide) (by decide))
                  rw [show X.e (⟨some ⟨V2.heap.size, 0, none⟩, 1, [d], dA, dC, Z, (n : Int) + 2, 0, 0⟩ : X) = eS n at' c from by show (⟨[d.ru], _, _, _, _⟩ : E) = _; rw [HRU.out, HS.out, HZE.out]; rfl, HYT.out, STEP.out] at hc
                  refine hc.mono ?_
                  rintro e V4 ⟨a, rfl, hat, hao, hb⟩
                  have HA4 := Lib.hid hao
                  have HAT := Lib.hid hat
                  clear hat hao hc
                  have HB4 : Hid (Below W0.heap.size W0 V4) := Lib.hid (HB3.out.trans (hb.mono HB3.out.size))
                  have HZ4 := Lib.hid (HZ3.out.below hb HZ3.out.lt)
                  refine hK.out _ _ HB4 (fun hS => ?_)
                  clear hK K hb
                  try simp only [Act.put, List.getElem_toArray, List.getElem_cons_succ, List.getElem_cons_zero, List.setIfInBounds_toArray, List.set_cons_zero, List.set_cons_succ]
                  refine wpAnyH_take (i := 14) (v := ?_) rfl (by kernel_rfl) (by kernel_rfl) (by kernel_rfl) (fun _ _ _ h => h) (Or.inl ⟨by rfl, ?_⟩) hS ?_
                  rotate_left
                  · intro wi hw
                    go_simp
                    try with_reducible rfl
                  try simp only [Act.put, List.getElem_toArray, List.getElem_cons_succ, List.getElem_cons_zero, List.setIfInBounds_toArray, List.set_cons_zero, List.set_cons_succ]
                  refine wpAnyH_take (i := 15) (v := ?_) rfl (by kernel_rfl) (by kernel_rfl) (by kernel_rfl) (fun _ _ _ h => h) (Or.inl ⟨by rfl, ?_⟩) hS ?_
                  rotate_left
                  · intro wi hw
                    go_simp
                    try with_reducible rfl
                  try simp only [Act.put, List.getElem_toArray, List.getElem_cons_succ, List.getElem_cons_zero, List.setIfInBounds_toArray, List.set_cons_zero, List.set_cons_succ]
                  refine wpAnyH_take (i := 16) (v := ?_) rfl (by kernel_rfl) (by kernel_rfl) (by kernel_rfl) (fun _ _ _ h => h) (Or.inl ⟨by rfl, ?_⟩) hS ?_
                  rotate_left
                  · intro wi hw
                    go_simp
                    try with_reducible rfl
                  try simp only [Act.put, List.getElem_toArray, List.getElem_cons_succ, List.getElem_cons_zero, List.setIfInBounds_toArray, List.set_cons_zero, List.set_cons_succ]
                  refine wpAnyH_ready (rs := [18]) (by kernel_rfl) (by simp) ?_
                  refine (AllReadyH.cons rfl (fun K hK => ?_) AllReadyH.nil)
                  have HBX : Hid (Box (V4.setRow (V1.heap.size) a.cells.toArray) (V1.heap.size) 44 a.cells) := Lib.hid (setRow_heap _ _ _ _ _ _ HZ4.out)
                  have HA9 : Hid (a.Ok (V4.setRow (V1.heap.size) a.cells.toArray) (V4.setRow (V1.heap.size) a.cells.toArray).heap.size) := Lib.hid (HA4.out.poke (vbox_of HZ4.out) (Ve.keep_setRow _ _ _))
                  have HB9 : Hid (Below W0.heap.size W0 (V4.setRow (V1.heap.size) a.cells.toArray)) := Lib.hid (below_setRow HB4.out HGE.out _)
                  refine held_store rfl _ _ _ rfl (V1.heap.size) #[.slice a.a a.runs.length a.c, .int .i64 a.next, .int .i64 a.log, .int .u64 (a.seq : Int)] rfl rfl _ ZV.cells.toArray HZ4.out (by kernel_rfl) rfl (by kernel_rfl) ?_
                  refine hK.out _ _ HB9 (fun hS => ?_)
                  clear hK K
                  try simp only [Act.put, List.getElem_toArray, List.getElem_cons_succ, List.getElem_cons_zero, List.setIfInBounds_toArray, List.set_cons_zero, List.set_cons_succ]
                  refine wpAnyH_take (i := 19) (v := ?_) rfl (by kernel_rfl) (by kernel_rfl) (by kernel_rfl) (fun _ _ _ h => h) (Or.inl ⟨by rfl, ?_⟩) hS ?_
                  rotate_left
                  · intro wi hw
                    go_simp
                    try with_reducible rfl
                  try simp only [Act.put, List.getElem_toArray, List.getElem_cons_succ, List.getElem_cons_zero, List.setIfInBounds_toArray, List.set_cons_zero, List.set_cons_succ]
                  refine wpAnyH_done (by kernel_rfl) ?_ _
                  go_wp2_with fail
                  go_meet
                  exact ⟨V1.heap.size, a, rfl, rfl, HAT.out, HBX.out, HA9.out, HB9.out, HGE.out⟩
              · go_simp
                have HB1 : Hid (Below W0.heap.size W0 (W0.alloc (.cells #[.slice none 0 0, .int .i64 0, .int .i64 0, .int .u64 0] 44)).drew) := Lib.hid (Joins.below_alloc1 W0 (.cells #[.slice none 0 0, .int .i64 0, .int .i64 0, .int .u64 0] 44)).drew
                have HZ1 : Hid (Box (W0.alloc (.cells #[.slice none 0 0, .int .i64 0, .int .i64 0, .int .u64 0] 44)).drew W0.heap.size 44 ZV.cells) := Lib.hid (Box.new W0 44 ZV.cells)
                have HGE : Hid (W0.heap.size ≤ W0.heap.size) := Lib.hid (HBD.out.size)
                refine hK.out _ _ HB1 (fun hS => ?_)
                clear hK K
                try simp only [Act.put, List.getElem_toArray, List.getElem_cons_succ, List.getElem_cons_zero, List.setIfInBounds_toArray, List.set_cons_zero, List.set_cons_succ]
                generalize hNW : (W0.alloc (.cells #[.slice none 0 0, .int .i64 0, .int .i64 0, .int .u64 0] 44)).drew = V1 at *
                clear hNW
                refine wpAnyH_ready (rs := [7]) (by kernel_rfl) (by simp) ?_
                refine (AllReadyH.cons rfl (fun K hK => ?_) AllReadyH.nil)
                go_simp
                refine (HRUN.out V1).mono ?_
                rintro e V2 ⟨d, rfl, hru, hok, hb⟩
                have HRU := Lib.hid hru
                have HOK2 : Hid (d.Ok V2 (Fresh W0.heap.size V2)) := Lib.hid (hok.later (fun _ _ => rfl) (Fresh.low HB1.out.size))
                clear hru hok
                have HB2 : Hid (Below W0.heap.size W0 V2) := Lib.hid (HB1.out.trans (hb.mono HB1.out.size))
                have HZ2 := Lib.hid (HZ1.out.below hb HZ1.out.lt)
                refine hK.out _ _ HB2 (fun hS => ?_)
                clear hK K hb
                try simp only [Act.put, List.getElem_toArray, List.getElem_cons_succ, List.getElem_cons_zero, List.setIfInBounds_toArray, List.set_cons_zero, List.set_cons_succ]
                refine wpAnyH_ready (rs := [8]) (by kernel_rfl) (by simp) ?_
                refine (AllReadyH.cons rfl (fun K hK => ?_) AllReadyH.nil)
                go_simp
                have hba := Joins.below_alloc1 V2 (.cells #[.int .i64 d.file, .int .i64 d.bytes, .int .i64 d.count, .slice d.firstA d.first.length d.firstC, .slice d.lastA d.last.length d.lastC, .int .u64 (d.seq : Int)] 41)
                have HB3 : Hid (Below W0.heap.size W0 (V2.alloc (.cells #[.int .i64 d.file, .int .i64 d.bytes, .int .i64 d.count, .slice d.firstA d.first.length d.firstC, .slice d.lastA d.last.length d.lastC, .int .u64 (d.seq : Int)] 41))) := Lib.hid (HB2.out.trans (hba.mono HB2.out.size))
                have HO3 : Hid (One (V2.alloc (.cells #[.int .i64 d.file, .int .i64 d.bytes, .int .i64 d.count, .slice d.firstA d.first.length d.firstC, .slice d.lastA d.last.length d.lastC, .int .u64 (d.seq : Int)] 41)) V2.heap.size d) := Lib.hid (One.new HOK2.out)
                have HZ3 := Lib.hid (HZ2.out.below hba HZ2.out.lt)
                refine hK.out _ _ HB3 (fun hS => ?_)
                clear hK K
                try simp only [Act.put, List.getElem_toArray, List.getElem_cons_succ, List.getElem_cons_zero, List.setIfInBounds_toArray, List.set_cons_zero, List.set_cons_succ]
                generalize hNW : (V2.alloc (.cells #[.int .i64 d.file, .int .i64 d.bytes, .int .i64 d.count, .slice d.firstA d.first.length d.firstC, .slice d.lastA d.last.length d.lastC, .int .u64 (d.seq : Int)] 41)) = V3 at *
                clear hNW
                refine wpAnyH_take (i := 12) (v := ?_) rfl (by kernel_rfl) (by kernel_rfl) (by kernel_rfl) (fun _ _ _ h => h) (Or.inl ⟨by rfl, ?_⟩) hS ?_
                rotate_left
                · intro wi hw
                  go_simp
                  try with_reducible rfl
                try simp only [Act.put, List.getElem_toArray, List.getElem_cons_succ, List.getElem_cons_zero, List.setIfInBounds_toArray, List.set_cons_zero, List.set_cons_succ]
                refine wpAnyH_ready (rs := [13]) (by kernel_rfl) (by simp) ?_
                refine (AllReadyH.cons rfl (fun K hK => ?_) AllReadyH.nil)
                go_simp
                have hc := vapply_any y (⟨some ⟨V2.heap.size, 0, none⟩, 1, [d], dA, dC, Z, (n : Int) + 2, 0, 0⟩ : X) V3 ((HVS.out.next HB3.out).ok) (HO3.out.full (lies_next HDL.out HB3.out) HDC.out.1 HDC.out.2 HDW.out HW1.out (by decide) (by decide))
                rw [show X.e (⟨some ⟨V2.heap.size, 0, none⟩, 1, [d], dA, dC, Z, (n : Int) + 2, 0, 0⟩ : X) = eS n at' c from by show (⟨[d.ru], _, _, _, _⟩ : E) = _; rw [HRU.out, HS.out, HZE.out]; rfl, HYT.out, STEP.out] at hc
                refine hc.mono ?_
                rintro e V4 ⟨a, rfl, hat, hao, hb⟩
                have HA4 := Lib.hid hao
                have HAT := Lib.hid hat
                clear hat hao hc
                have HB4 : Hid (Below W0.heap.size W0 V4) := Lib.hid (HB3.out.trans (hb.mono HB3.out.size))
                have HZ4 := Lib.hid (HZ3.out.below hb HZ3.out.lt)
                refine hK.out _ _ HB4 (fun hS => ?_)
                clear hK K hb
                try simp only [Act.put, List.getElem_toArray, List.getElem_cons_succ, List.getElem_cons_zero, List.setIfInBounds_toArray, List.set_cons_zero, List.set_cons_succ]
                refine wpAnyH_take (i := 14) (v := ?_) rfl (by kernel_rfl) (by kernel_rfl) (by kernel_rfl) (fun _ _ _ h => h) (Or.inl ⟨by rfl, ?_⟩) hS ?_
                rotate_left
                · intro wi hw
                  go_simp
                  try with_reducible rfl
                try simp only [Act.put, List.getElem_toArray, List.getElem_cons_succ, List.getElem_cons_zero, List.setIfInBounds_toArray, List.set_cons_zero, List.set_cons_succ]
                refine wpAnyH_take (i := 15) (v := ?_) rfl (by kernel_rfl) (by kernel_rfl) (by kernel_rfl) (fun _ _ _ h => h) (Or.inl ⟨by rfl, ?_⟩) hS ?_
                rotate_left
                · intro wi hw
                  go_simp
                  try with_reducible rfl
                try simp only [Act.put, List.getElem_toArray, List.getElem_cons_succ, List.getElem_cons_zero, List.setIfInBounds_toArray, List.set_cons_zero, List.set_cons_succ]
                refine wpAnyH_take (i := 16) (v := ?_) rfl (by kernel_rfl) (by kernel_rfl) (by kernel_rfl) (fun _ _ _ h => h) (Or.inl ⟨by rfl, ?_⟩) hS ?_
                rotate_left
                · intro wi hw
                  go_simp
                  try with_reducible rfl
                try simp only [Act.put, List.getElem_toArray, List.getElem_cons_succ, List.getElem_cons_zero, List.setIfInBounds_toArray, List.set_cons_zero, List.set_cons_succ]
                refine wpAnyH_ready (rs := [18]) (by kernel_rfl) (by simp) ?_
                refine (AllReadyH.cons rfl (fun K hK => ?_) AllReadyH.nil)
                have HBX : Hid (Box (V4.setRow (W0.heap.size) a.cells.toArray) (W0.heap.size) 44 a.cells) := Lib.hid (setRow_heap _ _ _ _ _ _ HZ4.out)
                have HA9 : Hid (a.Ok (V4.setRow (W0.heap.size) a.cells.toArray) (V4.setRow (W0.heap.size) a.cells.toArray).heap.size) := Lib.hid (HA4.out.poke (vbox_of HZ4.out) (Ve.keep_setRow _ _ _))
                have HB9 : Hid (Below W0.heap.size W0 (V4.setRow (W0.heap.size) a.cells.toArray)) := Lib.hid (below_setRow HB4.out HGE.out _)
                refine held_store rfl _ _ _ rfl (W0.heap.size) #[.slice a.a a.runs.length a.c, .int .i64 a.next, .int .i64 a.log, .int .u64 (a.seq : Int)] rfl rfl _ ZV.cells.toArray HZ4.out (by kernel_rfl) rfl (by kernel_rfl) ?_
                refine hK.out _ _ HB9 (fun hS => ?_)
                clear hK K
                try simp only [Act.put, List.getElem_toArray, List.getElem_cons_succ, List.getElem_cons_zero, List.setIfInBounds_toArray, List.set_cons_zero, List.set_cons_succ]
                refine wpAnyH_take (i := 19) (v := ?_) rfl (by kernel_rfl) (by kernel_rfl) (by kernel_rfl) (fun _ _ _ h => h) (Or.inl ⟨by rfl, ?_⟩) hS ?_
                rotate_left
                · intro wi hw
                  go_simp
                  try with_reducible rfl
                try simp only [Act.put, List.getElem_toArray, List.getElem_cons_succ, List.getElem_cons_zero, List.setIfInBounds_toArray, List.set_cons_zero, List.set_cons_succ]
                refine wpAnyH_done (by kernel_rfl) ?_ _
                go_wp2_with fail
                go_meet
                exact ⟨W0.heap.size, a, rfl, rfl, HAT.out, HBX.out, HA9.out, HB9.out, HGE.out⟩
          case rest =>
          obtain ⟨g3, a, rfl, rfl, hat, hbx, hao, hbw, hge⟩ := hcut
          have HBX := Lib.hid hbx
          have HA := Lib.hid hao
          have HBE5 := Lib.hid (HBE4.out.trans (hbw.mono HBE4.out.size))
          have hr := congrArg (fun v : V => v.runs.length) hat
          have hr2 : a.t.runs.length = a.runs.length := by unfold Y.t; simp
          have hr3 := vS_len (n := n) (at' := at') (c := c) H3.out H5.out
          change a.t.runs.length = (vS n at' c).runs.length at hr
          have hrl : (a.runs.length : Int) = (n : Int) - (c : Int) + 1 := by have := H5.out; omega
          have HAT : Hid (∀ (k : Nat) (d : D), a.runs[k]? = some d → d.file = want n at' c k) := Lib.hid fun k d hd => vS_at H3.out H5.out (r := d.ru) (by
            rw [← hat]
            show (a.runs.map D.ru)[k]? = _
            rw [List.getElem?_map, hd]
            rfl)
          have HLV : Hid ((liveV a.t).length = n - c + 1) := Lib.hid (by rw [hat]; exact live_S H3.out (by omega) H5.out h4)
          have HRL := Lib.hid hrl
          obtain ⟨v0, v1, v2, v3⟩ := Ve.look hbx
          have e1 : ((a.runs.length : Int) != (n : Int) - (c : Int) + 1) = false := by rw [hrl]; simp
          have w4 : IntKind.i64.wrap ((n : Int) - (c : Int)) = (n : Int) - (c : Int) := IntWalk.i64_in _ (by have := H5.out; omega)
          have w5 : IntKind.i64.wrap ((n : Int) - (c : Int) + 1) = (n : Int) - (c : Int) + 1 := IntWalk.i64_in _ (by have := H5.out; omega)
          have hal : a.runs.length ≤ 41 := by omega
          clear hat hbx hao hbw hge hr hr2 hr3 hrl HVS HYT STEP HRUN HDW HDL HDC HZE HBE4 w1 w3
          go_wp2_with ((go_at_call 27; refine (vnum_any _ _).mono ?_; rintro e w' ⟨rfl, rfl⟩))
          go_loopw [16] (fun iv wq => ∃ k : Nat, k ≤ a.runs.length ∧ iv = .int .i64 (k : Int) ∧ Hid (wq = wc)) (fun iv _ => a.runs.length + 1 - (intOf iv).toNat)
          case atStart => exact ⟨0, Nat.zero_le _, rfl, Lib.hid rfl⟩
          case round =>
            obtain ⟨k, hk, rfl, hwq⟩ := hrel
            have hwq := hwq.out
            subst hwq
            by_cases hka : k < a.runs.length
            · obtain ⟨d, hd⟩ : ∃ d, a.runs[k]? = some d := ⟨_, List.getElem?_eq_getElem hka⟩
              obtain ⟨ad, p, hA, -, hpp, q0, -⟩ := HA.out.runs.place hd
              have hf := HAT.out k d hd
              rw [hA] at v0
              clear hA hd
              have hr := HRL.out
              have h5 := H5.out
              have h3 := H3.out
              have x1 : IntKind.i64.wrap ((n : Int) - (k : Int)) = (n : Int) - (k : Int) := IntWalk.i64_in _ (by omega)
              have x2 : IntKind.i64.wrap ((n : Int) - (k : Int) - (c : Int)) = (n : Int) - (k : Int) - (c : Int) := IntWalk.i64_in _ (by omega)
              have x3 : IntKind.i64.wrap ((n : Int) - (k : Int) - (c : Int) + 1) = (n : Int) - (k : Int) - (c : Int) + 1 := IntWalk.i64_in _ (by omega)
              clear hr h5 h3
              by_cases ha : k = at'
              · have y1 : ((k : Int) == (at' : Int)) = true := by rw [beq_iff_eq]; omega
                have y2 : (k == at') = true := by rw [beq_iff_eq]; exact ha
                have y3 : decide ((at' : Int) < (k : Int)) = false := decide_eq_false (by omega)
                have y4 : decide (at' < k) = false := decide_eq_false (by omega)
                have hf2 : d.file = (n : Int) + 1 := by rw [hf]; unfold want; rw [if_pos ha]
                have y5 : (d.file != (n : Int) + 1) = false := by rw [hf2]; simp
                clear ha hf hf2
                go_wp2_with fail
                go_roundw
                case rel => exact ⟨k + 1, by omega, by go_num, by first | exact Lib.hid rfl | exact Lib.hid trivial⟩
                case measure => simp [intOf]; omega
              · have y1 : ((k : Int) == (at' : Int)) = false := by rw [beq_eq_false_iff_ne]; omega
                have y2 : (k == at') = false := by rw [beq_eq_false_iff_ne]; exact ha
                by_cases hb : at' < k
                · have y3 : decide ((at' : Int) < (k : Int)) = true := decide_eq_true (by omega)
                  have y4 : decide (at' < k) = true := decide_eq_true hb
                  have hf2 : d.file = (n : Int) - (k : Int) - (c : Int) + 1 := by rw [hf]; unfold want; rw [if_neg ha, if_pos hb]
                  have y5 : (d.file != (n : Int) - (k : Int) - (c : Int) + 1) = false := by rw [hf2]; simp
                  clear ha hb hf hf2
                  go_wp2_with fail
                  go_roundw
                  case rel => exact ⟨k + 1, by omega, by go_num, by first | exact Lib.hid rfl | exact Lib.hid trivial⟩
                  case measure => simp [intOf]; omega
                · have y3 : decide ((at' : Int) < (k : Int)) = false := decide_eq_false (by omega)
                  have y4 : decide (at' < k) = false := decide_eq_false hb
                  have hf2 : d.file = (n : Int) - (k : Int) := by rw [hf]; unfold want; rw [if_neg ha, if_neg hb]
                  have y5 : (d.file != (n : Int) - (k : Int)) = false := by rw [hf2]; simp
                  clear ha hb hf hf2
                  go_wp2_with fail
                  go_roundw
                  case rel => exact ⟨k + 1, by omega, by go_num, by first | exact Lib.hid rfl | exact Lib.hid trivial⟩
                  case measure => simp [intOf]; omega
            · obtain rfl : k = a.runs.length := by omega
              have HLL := Lib.hid (vlive_any a _ HA.out (by have := HRL.out; omega))
              have hll := HLV.out
              obtain ⟨m, hm⟩ : ∃ m, m = (liveV a.t).length := ⟨_, rfl⟩
              rw [← hm] at HLL hll
              have e2 : ((m : Int) == (n : Int) - (c : Int) + 1) = true := by rw [beq_iff_eq]; have := H5.out; omega
              have ql := load_box HBX.out
              clear hm hll
              go_wp2_with fail
              refine HLL.out.mono ?_
              rintro e W9 ⟨A9, c9, rfl, -, hb9⟩
              have HB9 := Lib.hid (HBE5.out.trans (hb9.mono HBE5.out.size))
              clear hb9
              go_wp2_with fail
              go_ret
              exact ⟨rfl, HB9.out⟩

set_option maxRecDepth 100000 in
theorem lifted (os : Os) (started : os.Started) (H : Type) (enc : TypeId × Value → H) :
    ReturnsInHanded {} Try.checked os 9 .any (Rows.versionSwapsSpec.pre6 enc Try.prog Try.f9 Rows.versionSwapsRow.domain false) (Rows.versionSwapsSpec.post enc Try.prog Try.f9 false true false false) := by
  refine lift_true (C := Try.checked) own started (by kernel_rfl) Try.func9
    (ChangeSpec.witness6 (enc := enc) (C := Try.checked) false ⟨#[], #[.int .i64 0, .int .i64 0, .int .i64 0], []⟩ 8 (by kernel_rfl) (by kernel_rfl) (by kernel_rfl) (by kernel_rfl))
    (by kernel_rfl) (by kernel_rfl) (by kernel_rfl) Try.underlying4 rfl ?_ ?_
  · intro ds hds
    match ds, hds with
    | [d1, d2, d3], _ => exact ⟨rfl, rfl, rfl⟩
  · intro W base args ds p hval0 hA0 hlt _
    have hval : ∀ (j : Nat) t v, Try.f9.params[j]? = some t → args[j]? = some v → Value.okWide Try.prog W .any base t v := hval0
    have hA : DataW.TrodAll enc Try.prog W 0 (fun _ => true) true Try.f9.params.toList args.toList ds p := hA0
    rw [Try.params9] at hA hval
    obtain ⟨v0, vs0, d0, ds0, p0, q0, hargs, rfl, rfl, h0, r0⟩ := trodAll_cons hA
    obtain ⟨v1, vs1, d1, ds1, p1, q1, rfl, rfl, rfl, h1, r1⟩ := trodAll_cons r0
    obtain ⟨v2, vs2, d2, ds2, p2, q2, rfl, rfl, rfl, h2, r2⟩ := trodAll_cons r1
    obtain ⟨rfl, rfl, rfl⟩ := trodAll_nil r2
    obtain rfl : args = #[v0, v1, v2] := by cases args; simp_all
    obtain ⟨a0, rfl, rfl, rfl, w0⟩ := open_int Try.underlying3 (hval 0 _ v0 rfl rfl) h0
    have b0 := i64_of w0
    obtain ⟨a1, rfl, rfl, rfl, w1⟩ := open_int Try.underlying3 (hval 1 _ v1 rfl rfl) h1
    have b1 := i64_of w1
    obtain ⟨a2, rfl, rfl, rfl, w2⟩ := open_int Try.underlying3 (hval 2 _ v2 rfl rfl) h2
    have b2 := i64_of w2
    by_cases h : 1 ≤ a0 ∧ a0 ≤ 40 ∧ 0 ≤ a1 ∧ a1 < a0 ∧ 1 ≤ a2 ∧ a2 ≤ a0 - a1
    · obtain ⟨n, rfl⟩ : ∃ n : Nat, a0 = (n : Int) := ⟨a0.toNat, by omega⟩
      obtain ⟨k, rfl⟩ : ∃ n : Nat, a1 = (n : Int) := ⟨a1.toNat, by omega⟩
      obtain ⟨c, rfl⟩ : ∃ n : Nat, a2 = (n : Int) := ⟨a2.toNat, by omega⟩
      exact walk n k c W (by omega) (by omega) (by omega) (by omega) (by omega)
    · exact walk_no a0 a1 a2 W w0 w1 w2 h

theorem over : Rows.versionSwapsRow.holds Try.pinned (OpenSpec.ofChange Rows.versionSwapsSpec) :=
  OpenClaim.holds_of_wide 9 Try.f9 rfl rfl rfl rfl rfl rfl rfl ⟨rfl, rfl, rfl, rfl, rfl⟩ rfl rfl rfl rfl rfl (by kernel_rfl) Try.func9 (by kernel_rfl)
    (of_decide_eq_true (by kernel_rfl)) (by unfold Func.isWrapper; first | (rw [if_pos (by decide +kernel)]; kernel_rfl) | (rw [if_neg (by decide +kernel)]; exact ⟨rfl, rfl⟩))
    (fun os started H enc _ => lifted os started H enc)

theorem proved : Rows.VersionSwapsSaid :=
  over
#print axioms proved
end Go.Proofs.Ythhmjjmjicmhdaa.versionSwaps
