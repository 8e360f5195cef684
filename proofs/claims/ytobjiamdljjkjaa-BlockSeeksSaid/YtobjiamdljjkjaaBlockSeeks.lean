/- Proved: for any entries, any restart interval and any key, BlockSeeks of butterylaw11 answers true (Seek returns the first entry that is not before the key), and its arguments read as before. Conditions: none beyond what the given row states. -/
import Derived.Test.YtobjiamdljjkjaaJb
import Derived.Deep.RegionHeld3
import Derived.Deep.QuietTactic
import Derived.BigQuiet
import Derived.LoopTactic
namespace Go.Proofs.Ytobjiamdljjkjaa.blockSeeks
set_option linter.unusedVariables false
set_option linter.unusedSimpArgs false
open Go.ChangeShapes Go.WideShapes Go.ChangeAt Go.RowKit Lift Bk Ik Sk Vn

theorem own : ownKnob Try.prog.godebug = none := by kernel_rfl

set_option maxRecDepth 100000 in
set_option maxHeartbeats 3200000 in
theorem walk (A : Option Addr) (c : Nat) (L : List D) (ev : Int) (Ak : Option Addr) (ck : Nat) (k : K) (w : World) (h1 : Ents w (· < w.heap.size) A c L) (hk : At w w.heap.size Ak ck k) :
    Calls Try.prog 5 #[.slice A L.length c, .int .i64 ev, key Ak ck k] w (Bk.Yes w) := by
  have hb0 : Below w.heap.size w (w.alloc (kbox Ak ck k)) := Joins.below_alloc1 w _
  have hx0 := Lift.Box.new w 38 [.slice Ak k.key.length ck, .int .u64 (k.seq : Int), .int .i64 k.kind]
  have H1 := Lib.hid h1
  have HK := Lib.hid hk
  have hc1 := h1.len
  have hm1 := h1.cap
  unfold maxLen at hm1
  have hkl := hk.2.1
  have hkm := hk.2.2.1
  unfold maxLen at hkm
  obtain ⟨W0, hW0⟩ : ∃ W0, W0 = w.alloc (kbox Ak ck k) := ⟨_, rfl⟩
  have HW0 := Lib.hid hW0
  have hx0' : Lift.Box W0 w.heap.size 38 [.slice Ak k.key.length ck, .int .u64 (k.seq : Int), .int .i64 k.kind] := by rw [hW0]; exact hx0
  rw [← hW0] at hb0
  have X0 := Lib.hid hx0'
  have B0 := Lib.hid hb0
  clear h1 hk hb0 hx0 hx0' hW0
  go_enter Try.func5, Try.ntmps5
  go_upto_region 1 with fail
  change Code.wp _ _ _ _ (w.alloc (kbox Ak ck k))
  rw [← HW0.out]
  clear HW0
  go_wp2_with fail
  refine (alive_any _).mono ?_
  rintro e W1 ⟨rfl, hb1⟩
  have HB1 := Lib.hid (B0.out.trans (hb1.mono B0.out.size))
  have X1 := Lib.hid (X0.out.below hb1 X0.out.lt)
  clear hb1
  go_wp2_with fail
  refine (big_any A c _ L W1 (H1.out.below HB1.out)).mono ?_
  rintro e W2 ⟨rfl, rfl⟩
  have HBR := Lib.hid (rbuild_any A c L ev W1 (H1.out.next HB1.out))
  obtain ⟨bg, hbg⟩ : ∃ bg, bg = bigL L := ⟨_, rfl⟩
  rw [← hbg]
  have HBG := Lib.hid hbg
  clear hbg
  go_wp2_with fail
  refine HBR.out.mono ?_
  rintro e W2 ⟨v, rfl, hown, hb2⟩
  obtain ⟨A2, c2, rfl, hc2, hm2, hl2⟩ := own_parts hown
  have HBY := Lib.hid (HB1.out.trans (hb2.mono HB1.out.size))
  have X2 := Lib.hid (X1.out.below hb2 X1.out.lt)
  have HL2 := Lib.hid hl2
  have hml := may_le (L.map D.t)
  clear hb2 HBR hown hl2
  have x2 := X2.out
  obtain ⟨k0, k1, k2, -, -, -⟩ := x2.facts3
  clear x2
  cases bg
  · obtain ⟨hn60, hsm⟩ := big_no HBG.out.symm
    clear hsm HBG
    by_cases hm0 : may (L.map D.t) = 0
    · by_cases hkb : 300 < k.key.length
      · have d3 : decide ((300 : Int) < (k.key.length : Int)) = true := decide_eq_true (by omega)
        have d4 : decide (300 < k.key.length) = true := decide_eq_true hkb
        rw [hm0]
        clear hm0 HL2
        go_wp2_with fail
        go_ret
        exact ⟨rfl, HBY.out⟩
      · have d3 : decide ((300 : Int) < (k.key.length : Int)) = false := decide_eq_false (by omega)
        have d4 : decide (300 < k.key.length) = false := decide_eq_false hkb
        have ebs : bldB ev (L.map D.t) = blk (clamp ev) (L.map D.t) := bldB_ok hm0
        rw [ebs] at HL2 hc2 ⊢
        have hok : ∀ t, t ∈ L.map D.t → okT t = true := (may_zero hm0).1
        have hb8 : ∀ x, x ∈ blk (clamp ev) (L.map D.t) → x < 256 := blk_byte (fun d hd => ⟨hok _ (List.mem_map.2 ⟨d, hd, rfl⟩), (H1.out.ok d hd).ok, (H1.out.ok d hd).v8⟩)
        have hbl : (blk (clamp ev) (L.map D.t)).length ≤ 50000000 := by
          have := blk_max (every := clamp ev) hok
          rw [List.length_map] at this
          omega
        have hal : allB (blk (clamp ev) (L.map D.t)) = (L.map D.t, 0) := allB_ok ⟨hm0, clamp ev, (clamp_in _).1, (clamp_in _).2, rfl⟩
        have hsk := oseek_any A2 c2 _ Ak ck k W2 HL2.out hc2 hm2 hbl hb8 (HK.out.next HBY.out)
        rw [hal] at hsk
        have HSK := Lib.hid hsk
        rw [hm0]
        have hkk := KD.load (p := ⟨w.heap.size, 0, none⟩) (d := ⟨Ak, ck, k⟩) k0 k1 k2
        unfold maxLen at hm2
        clear hm0 hok hb8 hbl hal hsk ebs
        generalize blk (clamp ev) (L.map D.t) = bs at *
        go_wp2_with fail
        refine HSK.out.mono ?_
        rintro e W3 ⟨d5, rfl, hdt, hdo, hb3⟩
        have HDT := Lib.hid hdt
        obtain ⟨W4, hW4⟩ : ∃ W4, W4 = W3.alloc (ebox d5) := ⟨_, rfl⟩
        have HW4 := Lib.hid hW4
        have hb4 : Below W3.heap.size W3 W4 := by rw [hW4]; exact below_box W3 d5
        have hx4 : Bx W4 W3.heap.size d5 := by rw [hW4]; exact Bx.new W3 d5
        have HX4 := Lib.hid hx4
        have HDO := Lib.hid (hdo.next hb4)
        have HB4 := Lib.hid (HBY.out.trans ((hb3.trans (hb4.mono hb3.size)).mono HBY.out.size))
        have X4 := Lib.hid (X2.out.below (hb3.trans (hb4.mono hb3.size)) X2.out.lt)
        obtain ⟨o, ho⟩ : ∃ o, o = seekT (L.map D.t) k := ⟨_, rfl⟩
        have HOO := Lib.hid ho
        change d5.t = (seekT (L.map D.t) k).getD _ at hdt
        rw [← ho] at hdt
        have HDU := Lib.hid hdt
        clear hdt hdo hb3 hb4 hx4 HSK k0 k1 k2 hkk hW4 HDT
        rw [← ho]
        clear ho
        go_upto_region 7 with fail
        change Code.wp _ _ _ _ (W3.alloc (ebox d5))
        rw [← HW4.out]
        clear HW4
        go_wp2_with fail
        refine (num_any _ W4).mono ?_
        rintro e w' ⟨rfl, rfl⟩
        go_wp2_with fail
        go_loopw [14] (fun i wr => ∃ j : Nat, j ≤ L.length ∧ i = .int .i64 (j : Int) ∧ Hid (Below W4.heap.size W4 wr) ∧ Hid (∀ i e, i < j → L[i]? = some e → cmpK e.k k < 0)) (fun i _ => L.length + 1 - (intOf i).toNat)
        case atStart => exact ⟨0, by omega, rfl, Lib.hid (Below.refl _ _), Lib.hid fun i e hi => by omega⟩
        case round =>
          obtain ⟨j, hj, rfl, hbr, hno⟩ := hrel
          have HBR := Lib.hid (HB4.out.trans (hbr.out.mono HB4.out.size))
          by_cases hlt : j < L.length
          · obtain ⟨d, hd⟩ : ∃ d, L[j]? = some d := ⟨_, List.getElem?_eq_getElem hlt⟩
            obtain ⟨ad, pp, hA, -, hpp, -⟩ := H1.out.place hd
            subst hA
            have HPP := Lib.hid hpp
            have HD := Lib.hid hd
            have HO := Lib.hid (H1.out.ok d (List.mem_of_getElem? hd))
            have HML := Lib.hid hlt
            clear hd hpp
            have hcases : (cmpK d.k k < 0 ∧ decide (0 ≤ cmpK d.k k) = false) ∨ (0 ≤ cmpK d.k k ∧ decide (0 ≤ cmpK d.k k) = true) := by
              by_cases h : cmpK d.k k < 0
              · exact .inl ⟨h, decide_eq_false (by omega)⟩
              · exact .inr ⟨by omega, decide_eq_true (by omega)⟩
            go_upto_region 12 with fail
            refine wp_region_held_drew (S := fun w' => Hid (Below wr.heap.size wr w')) (by kernel_rfl) (Lib.hid (Below.refl _ _).drew) (fun hS => ?_)
            refine wpAnyH_take (i := 0) (v := ?_) rfl (by kernel_rfl) (by kernel_rfl) (by kernel_rfl) (fun _ _ _ h => h) (Or.inl ⟨by rfl, ?_⟩) hS ?_
            rotate_left
            · intro wi hw
              go_simp
              try with_reducible rfl
            try simp only [Act.put, List.getElem_toArray, List.getElem_cons_succ, List.getElem_cons_zero, List.setIfInBounds_toArray, List.set_cons_zero, List.set_cons_succ]
            refine wpAnyH_take (i := 1) (v := ?_) rfl (by kernel_rfl) (by kernel_rfl) (by kernel_rfl) (fun _ _ _ h => h) (Or.inl ⟨by rfl, ?_⟩) hS ?_
            rotate_left
            · intro wi hw
              go_simp
              try with_reducible rfl
            try simp only [Act.put, List.getElem_toArray, List.getElem_cons_succ, List.getElem_cons_zero, List.setIfInBounds_toArray, List.set_cons_zero, List.set_cons_succ]
            refine wpAnyH_take (i := 2) (v := ?_) rfl (by kernel_rfl) (by kernel_rfl) (by kernel_rfl) (fun _ _ _ h => h) (Or.inl ⟨by rfl, ?_⟩) hS ?_
            rotate_left
            · intro wi hw
              have hpp := HPP.out
              have hml := HML.out
              go_simp
              try with_reducible rfl
            try simp only [Act.put, List.getElem_toArray, List.getElem_cons_succ, List.getElem_cons_zero, List.setIfInBounds_toArray, List.set_cons_zero, List.set_cons_succ]
            refine wpAnyH_take (i := 3) (v := ?_) rfl (by kernel_rfl) (by kernel_rfl) (by kernel_rfl) (fun _ _ _ h => h) (Or.inl ⟨by rfl, ?_⟩) hS ?_
            rotate_left
            · intro wi hw
              go_simp
              try with_reducible rfl
            try simp only [Act.put, List.getElem_toArray, List.getElem_cons_succ, List.getElem_cons_zero, List.setIfInBounds_toArray, List.set_cons_zero, List.set_cons_succ]
            refine wpAnyH_take (i := 4) (v := ?_) rfl (by kernel_rfl) (by kernel_rfl) (by kernel_rfl) (fun _ _ _ h => h) (Or.inl ⟨by rfl, ?_⟩) hS ?_
            rotate_left
            · intro wi hw
              obtain ⟨ad', pi, hA, -, hpi, q0, q1, q2, q3⟩ := (H1.out.below (HBR.out.trans (hw.out.mono HBR.out.size))).place HD.out
              injection hA with hA
              subst hA
              obtain rfl : pi = pp := hpi.symm.trans HPP.out
              have hkd := KD.load (p := pi) (d := ⟨d.ka, d.kc, d.k⟩) q0 q1 q2
              go_simp
              try with_reducible rfl
            try simp only [Act.put, List.getElem_toArray, List.getElem_cons_succ, List.getElem_cons_zero, List.setIfInBounds_toArray, List.set_cons_zero, List.set_cons_succ]
            refine wpAnyH_take (i := 5) (v := ?_) rfl (by kernel_rfl) (by kernel_rfl) (by kernel_rfl) (fun _ _ _ h => h) (Or.inl ⟨by rfl, ?_⟩) hS ?_
            rotate_left
            · intro wi hw
              obtain ⟨k0, k1, k2, -, -, -⟩ := Lift.Box.facts3 (Lift.Box.below X4.out (hbr.out.trans (hw.out.mono hbr.out.size)) X4.out.lt)
              have hkk := KD.load (p := ⟨w.heap.size, 0, none⟩) (d := ⟨Ak, ck, k⟩) k0 k1 k2
              go_simp
              try with_reducible rfl
            try simp only [Act.put, List.getElem_toArray, List.getElem_cons_succ, List.getElem_cons_zero, List.setIfInBounds_toArray, List.set_cons_zero, List.set_cons_succ]
            refine wpAnyH_ready (rs := [6]) (by kernel_rfl) (by simp) ?_
            refine (AllReadyH.cons rfl (fun K hK => ?_) AllReadyH.nil)
            go_simp
            have hb7 := hS.out
            have hbw := HBR.out.trans (hb7.mono HBR.out.size)
            refine (rcmp_any d.ka Ak d.kc ck d.k k _ ((HO.out.next hbw).at' fun k hk => hk) (HK.out.next hbw)).mono ?_
            rintro e W8 ⟨rfl, hb9⟩
            have HB8 := Lib.hid (hb7.trans (hb9.mono hb7.size))
            clear hb7 hbw hb9
            go_wp2_with fail
            refine hK.out _ _ HB8 (fun _ => ?_)
            clear hK K hS
            refine wpAnyH_other (S' := fun w' => Hid (Below W8.heap.size W8 w')) (fun w hw => Lib.hid (HB8.out.trans (hw.out.mono HB8.out.size))) _ _ _ _ ?_
            have hS : Hid (Below W8.heap.size W8 W8) := Lib.hid (Below.refl _ _)
            try simp only [Act.put, List.getElem_toArray, List.getElem_cons_succ, List.getElem_cons_zero, List.setIfInBounds_toArray, List.set_cons_zero, List.set_cons_succ]
            refine wpAnyH_take (i := 7) (v := ?_) rfl (by kernel_rfl) (by kernel_rfl) (by kernel_rfl) (fun _ _ _ h => h) (Or.inl ⟨by rfl, ?_⟩) hS ?_
            rotate_left
            · intro wi hw
              go_simp
              try with_reducible rfl
            try simp only [Act.put, List.getElem_toArray, List.getElem_cons_succ, List.getElem_cons_zero, List.setIfInBounds_toArray, List.set_cons_zero, List.set_cons_succ]
            refine wpAnyH_done (by kernel_rfl) ?_ _
            have HW8 : Hid (Below W4.heap.size W4 W8) := Lib.hid (hbr.out.trans (HB8.out.mono hbr.out.size))
            rcases hcases with ⟨hc, hdc⟩ | ⟨hc, hdc⟩
            · have HR : Hid (∀ i e, i < j + 1 → L[i]? = some e → cmpK e.k k < 0) := Lib.hid fun i e hi he => by
                by_cases h : i = j
                · subst h
                  rw [HD.out] at he
                  injection he with he
                  subst he
                  exact hc
                · exact hno.out i e (by omega) he
              rw [hdc]
              clear hc hdc
              go_wp2_with fail
              go_roundw
              case rel => exact ⟨j + 1, by omega, by go_num, HW8, HR⟩
              case measure => simp [intOf]; omega
            · have hso : seekT (L.map D.t) k = some d.t := seek_some hno.out HD.out (by omega)
              have HSO : Hid (o = some d.t) := Lib.hid (by rw [HOO.out, hso])
              have HSD : Hid (sameD d5 d = true) := Lib.hid (sameD_eq (by rw [HDU.out, HSO.out]; rfl))
              rw [hdc]
              clear hc hdc hso
              go_upto_region 13 with fail
              rw [HSO.out]
              refine wp_region_held_drew (S := fun w' => Hid (Below W8.heap.size W8 w')) (by kernel_rfl) (Lib.hid (Below.refl _ _).drew) (fun hS => ?_)
              refine wpAnyH_take (i := 0) (v := ?_) rfl (by kernel_rfl) (by kernel_rfl) (by kernel_rfl) (fun _ _ _ h => h) (Or.inl ⟨by rfl, ?_⟩) hS ?_
              rotate_left
              · intro wi hw
                go_simp
                try with_reducible rfl
              try simp only [Act.put, List.getElem_toArray, List.getElem_cons_succ, List.getElem_cons_zero, List.setIfInBounds_toArray, List.set_cons_zero, List.set_cons_succ]
              refine wpAnyH_take (i := 1) (v := ?_) rfl (by kernel_rfl) (by kernel_rfl) (by kernel_rfl) (fun _ _ _ h => h) (Or.inl ⟨by rfl, ?_⟩) hS ?_
              rotate_left
              · intro wi hw
                go_simp
                try with_reducible rfl
              try simp only [Act.put, List.getElem_toArray, List.getElem_cons_succ, List.getElem_cons_zero, List.setIfInBounds_toArray, List.set_cons_zero, List.set_cons_succ]
              refine wpAnyH_take (i := 2) (v := ?_) rfl (by kernel_rfl) (by kernel_rfl) (by kernel_rfl) (fun _ _ _ h => h) (Or.inl ⟨by rfl, ?_⟩) hS ?_
              rotate_left
              · intro wi hw
                have hbx := HX4.out.below (HW8.out.trans (hw.out.mono HW8.out.size)) HX4.out.lt
                obtain ⟨y0, y1, y2, y3, -, -, -, -⟩ := (show Bx wi _ d5 from hbx).facts
                clear hbx
                have hld := D.load (p := ⟨W3.heap.size, 0, none⟩) y0 y1 y2 y3
                go_simp
                try with_reducible rfl
              try simp only [Act.put, List.getElem_toArray, List.getElem_cons_succ, List.getElem_cons_zero, List.setIfInBounds_toArray, List.set_cons_zero, List.set_cons_succ]
              refine wpAnyH_take (i := 3) (v := ?_) rfl (by kernel_rfl) (by kernel_rfl) (by kernel_rfl) (fun _ _ _ h => h) (Or.inl ⟨by rfl, ?_⟩) hS ?_
              rotate_left
              · intro wi hw
                go_simp
                try with_reducible rfl
              try simp only [Act.put, List.getElem_toArray, List.getElem_cons_succ, List.getElem_cons_zero, List.setIfInBounds_toArray, List.set_cons_zero, List.set_cons_succ]
              refine wpAnyH_take (i := 4) (v := ?_) rfl (by kernel_rfl) (by kernel_rfl) (by kernel_rfl) (fun _ _ _ h => h) (Or.inl ⟨by rfl, ?_⟩) hS ?_
              rotate_left
              · intro wi hw
                go_simp
                try with_reducible rfl
              try simp only [Act.put, List.getElem_toArray, List.getElem_cons_succ, List.getElem_cons_zero, List.setIfInBounds_toArray, List.set_cons_zero, List.set_cons_succ]
              refine wpAnyH_take (i := 5) (v := ?_) rfl (by kernel_rfl) (by kernel_rfl) (by kernel_rfl) (fun _ _ _ h => h) (Or.inl ⟨by rfl, ?_⟩) hS ?_
              rotate_left
              · intro wi hw
                have hpp := HPP.out
                have hml := HML.out
                go_simp
                try with_reducible rfl
              try simp only [Act.put, List.getElem_toArray, List.getElem_cons_succ, List.getElem_cons_zero, List.setIfInBounds_toArray, List.set_cons_zero, List.set_cons_succ]
              refine wpAnyH_take (i := 6) (v := ?_) rfl (by kernel_rfl) (by kernel_rfl) (by kernel_rfl) (fun _ _ _ h => h) (Or.inl ⟨by rfl, ?_⟩) hS ?_
              rotate_left
              · intro wi hw
                have HBW := HB4.out.trans (HW8.out.mono HB4.out.size)
                obtain ⟨ad', pi, hA, -, hpi, q0, q1, q2, q3⟩ := (H1.out.below (HBW.trans (hw.out.mono HBW.size))).place HD.out
                injection hA with hA
                subst hA
                obtain rfl : pi = pp := hpi.symm.trans HPP.out
                clear HBW
                have hld := D.load q0 q1 q2 q3
                go_simp
                try with_reducible rfl
              try simp only [Act.put, List.getElem_toArray, List.getElem_cons_succ, List.getElem_cons_zero, List.setIfInBounds_toArray, List.set_cons_zero, List.set_cons_succ]
              refine wpAnyH_ready (rs := [7]) (by kernel_rfl) (by simp) ?_
              refine (AllReadyH.cons rfl (fun K hK => ?_) AllReadyH.nil)
              go_simp
              have hb7 := hS.out
              refine (same_entry d5 d _ (HDO.out.next (HW8.out.trans (hb7.mono HW8.out.size))) (HO.out.next ((HB4.out.trans (HW8.out.mono HB4.out.size)).trans (hb7.mono (HB4.out.trans (HW8.out.mono HB4.out.size)).size)))).mono ?_
              rintro e W9 ⟨rfl, hb9⟩
              rw [HSD.out]
              have HB9 := Lib.hid (hb7.trans (hb9.mono hb7.size))
              clear hb7 hb9
              go_wp2_with fail
              refine hK.out _ _ HB9 (fun _ => ?_)
              clear hK K hS
              refine wpAnyH_other (S' := fun w' => Hid (Below W9.heap.size W9 w')) (fun w hw => Lib.hid (HB9.out.trans (hw.out.mono HB9.out.size))) _ _ _ _ ?_
              have hS : Hid (Below W9.heap.size W9 W9) := Lib.hid (Below.refl _ _)
              try simp only [Act.put, List.getElem_toArray, List.getElem_cons_succ, List.getElem_cons_zero, List.setIfInBounds_toArray, List.set_cons_zero, List.set_cons_succ]
              refine wpAnyH_take (i := 8) (v := ?_) rfl (by kernel_rfl) (by kernel_rfl) (by kernel_rfl) (fun _ _ _ h => h) (Or.inl ⟨by rfl, ?_⟩) hS ?_
              rotate_left
              · intro wi hw
                go_simp
                try with_reducible rfl
              try simp only [Act.put, List.getElem_toArray, List.getElem_cons_succ, List.getElem_cons_zero, List.setIfInBounds_toArray, List.set_cons_zero, List.set_cons_succ]
              refine wpAnyH_take (i := 9) (v := ?_) rfl (by kernel_rfl) (by kernel_rfl) (by kernel_rfl) (fun _ _ _ h => h) (Or.inl ⟨by rfl, ?_⟩) hS ?_
              rotate_left
              · intro wi hw
                go_simp
                try with_reducible rfl
              try simp only [Act.put, List.getElem_toArray, List.getElem_cons_succ, List.getElem_cons_zero, List.setIfInBounds_toArray, List.set_cons_zero, List.set_cons_succ]
              refine wpAnyH_done (by kernel_rfl) ?_ _
              have HW9 : Hid (Below W4.heap.size W4 W9) := Lib.hid (HW8.out.trans (HB9.out.mono HW8.out.size))
              go_wp2_with fail
              go_ret
              exact ⟨rfl, HB4.out.trans (HW9.out.mono HB4.out.size)⟩
          · obtain rfl : j = L.length := by omega
            have HSO : Hid (o = none) := Lib.hid (by rw [HOO.out]; exact seek_none hno.out)
            rw [HSO.out]
            go_wp2_with fail
            go_ret
            exact ⟨rfl, HBR.out⟩
    · have hm1 : ¬ (may (L.map D.t) : Int) = 0 := by omega
      have hm2' : ((may (L.map D.t) : Int) != 0) = true := by rw [bne_iff_ne]; exact hm1
      clear hm0 HL2
      generalize may (L.map D.t) = mm at *
      generalize bldB ev (L.map D.t) = bs at *
      go_wp2_with fail
      go_ret
      exact ⟨rfl, HBY.out⟩
  · clear HL2
    generalize may (L.map D.t) = mm at *
    generalize bldB ev (L.map D.t) = bs at *
    go_wp2_with fail
    go_ret
    exact ⟨rfl, HBY.out⟩

set_option maxRecDepth 100000 in
theorem lifted (os : Os) (started : os.Started) (H : Type) (enc : TypeId × Value → H) :
    ReturnsInHanded {} Try.checked os 5 .any (Rows.blockSeeksSpec.pre6 enc Try.prog Try.f5 Rows.blockSeeksRow.domain false) (Rows.blockSeeksSpec.post enc Try.prog Try.f5 false true false false) := by
  refine lift_true (C := Try.checked) own started (by kernel_rfl) Try.func5
    (ChangeSpec.witness6 (enc := enc) (C := Try.checked) false ⟨#[], #[.slice none 0 0, .int .i64 0, .agg #[.slice none 0 0, .int .u64 0, .int .i64 0]], []⟩ 8 (by kernel_rfl) (by kernel_rfl) (by kernel_rfl) (by kernel_rfl))
    (by kernel_rfl) (by kernel_rfl) (by kernel_rfl) Try.underlying4 rfl ?_ ?_
  · intro ds hds
    match ds, hds with
    | [d1, d2, d3], _ => exact ⟨rfl, rfl, rfl⟩
  · intro W base args ds p hval0 hA0 hlt _
    have hval : ∀ (j : Nat) t v, Try.f5.params[j]? = some t → args[j]? = some v → Value.okWide Try.prog W .any base t v := hval0
    have hA : DataW.TrodAll enc Try.prog W 0 (fun _ => true) true Try.f5.params.toList args.toList ds p := hA0
    rw [Try.params5] at hA hval
    obtain ⟨v0, vs0, d0, ds0, p0, q0, hargs, rfl, rfl, h0, r0⟩ := trodAll_cons hA
    obtain ⟨v1, vs1, d1, ds1, p1, q1, rfl, rfl, rfl, h1, r1⟩ := trodAll_cons r0
    obtain ⟨v2, vs2, d2, ds2, p2, q2, rfl, rfl, rfl, h2, r2⟩ := trodAll_cons r1
    obtain ⟨rfl, rfl, rfl⟩ := trodAll_nil r2
    obtain rfl : args = #[v0, v1, v2] := by cases args; simp_all
    obtain ⟨A0, c0, L0, rfl, hN0⟩ := Sk.open_ents (hval 0 _ v0 rfl rfl) h0 (fun x hx => hlt x (by simp [hx]))
    obtain ⟨a1, rfl, rfl, rfl, w1⟩ := open_int Try.underlying3 (hval 1 _ v1 rfl rfl) h1
    have b1 := i64_of w1
    obtain ⟨A2, c2, k2, rfl, hk2⟩ := Ik.open_key (hval 2 _ v2 rfl rfl) h2 (fun x hx => hlt x (by simp [hx]))
    exact walk A0 c0 L0 a1 A2 c2 k2 W hN0 hk2

theorem over : Rows.blockSeeksRow.holds Try.pinned (OpenSpec.ofChange Rows.blockSeeksSpec) :=
  OpenClaim.holds_of_wide 5 Try.f5 rfl rfl rfl rfl rfl rfl rfl ⟨rfl, rfl, rfl, rfl, rfl⟩ rfl rfl rfl rfl rfl (by kernel_rfl) Try.func5 (by kernel_rfl)
    (of_decide_eq_true (by kernel_rfl)) (by unfold Func.isWrapper; first | (rw [if_pos (by decide +kernel)]; kernel_rfl) | (rw [if_neg (by decide +kernel)]; exact ⟨rfl, rfl⟩))
    (fun os started H enc _ => lifted os started H enc)

theorem proved : Rows.BlockSeeksSaid :=
  over
#print axioms proved
end Go.Proofs.Ytobjiamdljjkjaa.blockSeeks
