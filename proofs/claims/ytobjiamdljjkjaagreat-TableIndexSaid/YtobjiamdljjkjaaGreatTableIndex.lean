/- Proved: for any entries, any block size, restart interval and bits per key, TableIndex of butterylaw13 answers true (the index has one entry for each data block, with its last key, its offset and its length, and the data blocks contain all entries in order), and its arguments read as before. Conditions: none beyond what the given row states. -/
import Derived.Test.YtobjiamdljjkjaaGreatJf
import Derived.Deep.RegionHeld3
import Derived.Deep.QuietTactic
import Derived.BigQuiet
import Derived.LoopTactic
import Derived.Test.YtobjiamdljjkjaaGreatTix
namespace Go.Proofs.YtobjiamdljjkjaaGreat.tableIndex
set_option linter.unusedVariables false
set_option linter.unusedSimpArgs false
open Go.ChangeShapes Go.WideShapes Go.ChangeAt Go.RowKit Lift Tb Bk Ik Sk Vn

theorem own : ownKnob Tryz.prog.godebug = none := by kernel_rfl

set_option maxRecDepth 100000 in
set_option maxHeartbeats 3200000 in
theorem walk (A : Option Addr) (c : Nat) (L : List D) (sz ev bi : Int) (w : World) (h1 : Ents w (· < w.heap.size) A c L) :
    Calls Tryz.prog 6 #[.slice A L.length c, .int .i64 sz, .int .i64 ev, .int .i64 bi] w (Tb.Yes w) := by
  have H1 := Lib.hid h1
  clear h1
  go_enter Tryz.func6, Tryz.ntmps6
  go_wp2_with fail
  refine (Tb.alive_any _).mono ?_
  rintro e W1 ⟨rfl, hb1⟩
  have HB1 := Lib.hid hb1
  clear hb1
  go_wp2_with fail
  refine (big_any A c _ L W1 (H1.out.below HB1.out)).mono ?_
  rintro e W2 ⟨rfl, rfl⟩
  have HBR := Lib.hid (rtable_any A c L sz ev bi W1 (H1.out.next HB1.out))
  obtain ⟨bg, hbg⟩ : ∃ bg, bg = bigL L := ⟨_, rfl⟩
  rw [← hbg]
  have HBG := Lib.hid hbg
  clear hbg
  go_wp2_with fail
  refine HBR.out.mono ?_
  rintro e W2 ⟨v, rfl, hown, hb2⟩
  obtain ⟨A2, c2, rfl, hc2, hm2, hl2⟩ := own_parts hown
  have HBY := Lib.hid (HB1.out.trans (hb2.mono HB1.out.size))
  have hml := mayT_le (L.map D.t)
  clear hb2 HBR hown
  cases bg
  · obtain ⟨hn60, hsm⟩ := big_no HBG.out.symm
    clear hsm HBG
    by_cases hm0 : mayT (L.map D.t) = 0
    · have hb8 : ∀ x, x ∈ tabB sz ev bi (L.map D.t) → x < 256 := tabB_byte fun t ht => by
        obtain ⟨d, hd, rfl⟩ := List.mem_map.1 ht
        exact ⟨(H1.out.ok d hd).ok, (H1.out.ok d hd).v8⟩
      have htl := (tabB_told (size := sz) (every := ev) (bits := bi) hm0).1
      have HIX : Hid (∀ i (hi : i < (parts (clampS sz) [] (L.map D.t)).length), ∃ x, (idx (clamp ev) 0 (parts (clampS sz) [] (L.map D.t)))[i]? = some x ∧ IxAt (clamp ev) (tabB sz ev bi (L.map D.t)) (L.map D.t) (idx (clamp ev) 0 (parts (clampS sz) [] (L.map D.t))) (atI (clamp ev) (parts (clampS sz) [] (L.map D.t)) i) (kI (parts (clampS sz) [] (L.map D.t)) i) x (parts (clampS sz) [] (L.map D.t))[i]) := Lib.hid fun i hi => ix_at hm0 (by rw [List.length_map]; omega) hi
      obtain ⟨h8l, hbl⟩ := tabB_len (size := sz) (every := ev) (bits := bi) hm0 (by rw [List.length_map]; omega)
      have HNX : Hid (∀ i (hi : i < (parts (clampS sz) [] (L.map D.t)).length), atI (clamp ev) (parts (clampS sz) [] (L.map D.t)) (i + 1) = atI (clamp ev) (parts (clampS sz) [] (L.map D.t)) i + (blk (clamp ev) (parts (clampS sz) [] (L.map D.t))[i]).length) := Lib.hid fun i hi => atI_next hi
      have HF : Hid ((parts (clampS sz) [] (L.map D.t)).flatten = L.map D.t) := Lib.hid (by rw [parts_flat, List.nil_append])
      have HNE : Hid (parts (clampS sz) [] (L.map D.t) ≠ []) := Lib.hid fun h => by
        have h2 := HF.out
        rw [h] at h2
        exact (mayT_zero hm0).2.2 h2.symm
      have HXL := Lib.hid (idx_len (clamp ev) (parts (clampS sz) [] (L.map D.t)) 0)
      have hps60 : (parts (clampS sz) [] (L.map D.t)).length ≤ 60 := by
        have h := flat_len (parts (clampS sz) [] (L.map D.t)) (parts_some (clampS sz) (L.map D.t) [])
        rw [parts_flat, List.nil_append, List.length_map] at h
        omega
      rw [hm0]
      clear hm0 hml
      have HSM : Hid (tallO (tabB sz ev bi (L.map D.t)) = tallB (tabB sz ev bi (L.map D.t))) := Lib.hid same_tab
      generalize tabB sz ev bi (L.map D.t) = bs at *
      generalize clamp ev = ce at *
      generalize parts (clampS sz) [] (L.map D.t) = ps at *
      have HX := Lib.hid (oindext_any A2 c2 bs W2 hl2 hc2 hm2 (by omega) hb8 HSM.out)
      rw [htl] at HX
      have HL2 := Lib.hid hl2
      have HB8 := Lib.hid hb8
      have HC2 := Lib.hid hc2
      have HM2 := Lib.hid hm2
      clear hl2 hb8 htl hc2 hm2
      generalize idx ce 0 ps = X at *
      go_wp2_with fail
      refine HX.out.mono ?_
      rintro e W3 ⟨hb3, A3, c3, L3, rfl, hL3, hE3⟩
      have HB3 := Lib.hid (HBY.out.trans (hb3.mono HBY.out.size))
      have HS3 := Lib.hid hb3
      have HE3 := Lib.hid (hE3.mono (R' := (· < W3.heap.size)) fun k hk => hk.2)
      have HL3 := Lib.hid hL3
      have hxl : L3.length = ps.length := by rw [← HXL.out, ← hL3, List.length_map]
      have hpl : 0 < ps.length := List.length_pos_iff.2 HNE.out
      clear hb3 hL3 hE3 HX
      go_wp2_with fail
      refine (Tb.num_any _ W3).mono ?_
      rintro e w' ⟨rfl, rfl⟩
      have d1 : decide ((L3.length : Int) < 1) = false := decide_eq_false (by omega)
      go_wp2_with fail
      go_loopw [15, 16, 17] (fun a k i wr => ∃ j : Nat, j ≤ ps.length ∧ a = .int .i64 (atI ce ps j : Int) ∧ k = .int .i64 (kI ps j : Int) ∧ i = .int .i64 (j : Int) ∧ Hid (Below W3.heap.size W3 wr)) (fun _ _ i _ => ps.length + 1 - (intOf i).toNat)
      case atStart => exact ⟨0, Nat.zero_le _, by rw [atI_zero]; rfl, by rw [kI_zero]; rfl, rfl, Lib.hid (Below.refl _ _)⟩
      case round =>
        obtain ⟨j, hj, rfl, rfl, rfl, hb⟩ := hrel
        by_cases hlt : j < ps.length
        · obtain ⟨x, hx, ix⟩ := HIX.out j hlt
          obtain ⟨n, hr1, m, z, hr2, hfit, hall, hmlen⟩ := ix.r1
          have HPT := Lib.hid ix
          rw [← HL3.out, List.getElem?_map] at hx
          obtain ⟨d, hd, hdx⟩ : ∃ d, L3[j]? = some d ∧ d.t = x := by
            cases hq : L3[j]? with
            | none => rw [hq] at hx; cases hx
            | some d => rw [hq] at hx; injection hx with hx; exact ⟨d, rfl, hx⟩
          subst hdx
          obtain ⟨ad, p, hA, hpb, hp, q0, q1, q2, q3⟩ := (HE3.out.below hb.out).place hd
          subst hA
          have okd := (HE3.out.below hb.out).ok d (List.mem_of_getElem? hd)
          have dl : decide ((j : Int) < (L3.length : Int)) = true := decide_eq_true (by omega)
          have HD := Lib.hid hd
          subst hp
          have G1 := Lib.hid fun (i : Int) => Vt.getv_calls d.va d.vc W3.heap.size d.val i wr (okd.vl.lies fun k hk => hk) okd.vc (Nat.le_trans okd.vc okd.vm) okd.v8
          have HR1 := Lib.hid hr1
          have HR2 := Lib.hid hr2
          have HALL := Lib.hid hall
          have HML := Lib.hid hmlen
          clear hx ix hr1 hr2 hall hmlen hd okd
          go_wp2_with fail
          refine (G1.out 0).mono ?_
          rintro e W4 ⟨rfl, rfl⟩
          have hr1 : Vt.res d.val 0 = _ := HR1.out
          rw [hr1]
          unfold Vt.told
          go_wp2_with fail
          refine (G1.out (n : Int)).mono ?_
          rintro e W4 ⟨rfl, rfl⟩
          have hr2 : Vt.res d.val n = _ := HR2.out
          rw [hr2]
          unfold Vt.told
          have hnx := HNX.out j hlt
          have hkx := kI_next hlt
          have hml := HML.out
          rw [← hml] at hnx
          have HN1 := Lib.hid hnx
          have HN2 := Lib.hid hkx
          clear hnx hkx hml HML
          generalize atI ce ps j = a at *
          generalize kI ps j = kk at *
          generalize ps[j] = pj at *
          have dm : decide (((bs.length : Int) - (a : Int)) < (m : Int)) = false := decide_eq_false (by omega)
          obtain ⟨A5, hA5, -, hcut⟩ := cut_mid A2 bs.length c2 a m hfit HC2.out HM2.out
          have hct := fun W => hcut W ((a : Int) + (m : Int)) rfl
          have hyl : ((bs.drop a).take m).length = m := by rw [List.length_take, List.length_drop]; omega
          have hbw := HS3.out.trans (hb.out.mono HS3.out.size)
          have HBA : Hid (Calls Tryz.prog 20 #[.slice A5 m (c2 - a)] wr (Ball wr ((bs.drop a).take m))) := Lib.hid (by
            have h := ball_any A5 (c2 - a) ((bs.drop a).take m) wr ((Lies.cut (HL2.out.below hbw) (ys := (bs.drop a).take m) (p := a) (fun h => hA5 (by rw [hyl] at h; exact h)) (List.take_prefix _ _)).up hbw.size) (by rw [hyl]; have := HC2.out; omega) (Nat.le_trans (Nat.sub_le _ _) HM2.out) (by rw [hyl]; omega) (fun x hx => HB8.out x (List.mem_of_mem_drop (List.mem_of_mem_take hx)))
            rwa [hyl] at h)
          clear hcut hA5 hyl hbw
          clear q0 q1 q2 q3 G1 HR1 HR2 hr1 hr2
          go_wp2_with fail
          refine HBA.out.mono ?_
          rintro e W4 ⟨hb4, A6, c6, L6, ev6, rfl, hL6, hE6⟩
          rw [HALL.out] at hL6 ⊢
          change L6.map D.t = pj at hL6
          have HB4 := Lib.hid (hb.out.trans (hb4.mono hb.out.size))
          have HG4 := Lib.hid (HB3.out.trans (HB4.out.mono HB3.out.size))
          have HE6 := Lib.hid (hE6.mono (R' := (· < W4.heap.size)) fun k hk => hk.2)
          have hl6 : L6.length = pj.length := by rw [← hL6, List.length_map]
          have hp6 : 0 < pj.length := List.length_pos_iff.2 HPT.out.some
          obtain ⟨q, hq⟩ : ∃ q, L6.length = q + 1 := ⟨L6.length - 1, by omega⟩
          have hft := HPT.out.fit
          rw [List.length_map] at hft
          obtain ⟨A7, hA7, hcs⟩ := cut_ents_mid A L.length c kk (q + 1) (by omega) H1.out.len H1.out.cap
          have HCS : Hid (∀ W : World, Sem.run Tryz.prog (Instr.slice 22 (.slice A L.length c) (some (.int .i64 (kk : Int))) (some (.int .i64 ((kk : Int) + ((q : Int) + 1)))) none) W = .ok (.slice A7 (q + 1) (c - kk)) W) := Lib.hid fun W => hcs W _ (by omega)
          obtain ⟨d6, hd6⟩ : ∃ d6, L6[q]? = some d6 := ⟨_, List.getElem?_eq_getElem (by omega)⟩
          have HML : Hid (Ents W4 (· < W4.heap.size) A7 (c - kk) ((L.drop kk).take (q + 1))) := Lib.hid ((ents_mid (H1.out.below HG4.out) (by omega) hA7).mono fun k hk => Nat.lt_of_lt_of_le hk HG4.out.size)
          have HSM : Hid (L6.map D.t = ((L.drop kk).take (q + 1)).map D.t) := Lib.hid (by rw [hL6, List.map_take, List.map_drop, ← hq, hl6]; exact HPT.out.same.symm)
          have HTL : Hid (((L.drop kk).take (q + 1)).length = q + 1) := Lib.hid (by rw [List.length_take, List.length_drop]; omega)
          have hpq : pj[q]? = some d6.t := by rw [← hL6, List.getElem?_map, hd6]; rfl
          obtain ⟨hqb, hpe⟩ := List.getElem?_eq_some_iff.1 hpq
          have hla := HPT.out.last (by omega)
          have e : pj.length - 1 = q := by omega
          simp only [e] at hla
          rw [hpe] at hla
          have HKE : Hid (d.k.key = d6.k.key) := Lib.hid hla.1
          have HKS : Hid (d.k.seq = d6.k.seq) := Lib.hid hla.2
          clear hpq hqb hpe hla e
          obtain ⟨ad6, p6, hA6, -, -, -, -, -, -⟩ := HE6.out.place hd6
          subst hA6
          have HL6 := Lib.hid hL6
          have HD6 := Lib.hid hd6
          have HQ := Lib.hid hq
          have k1 : decide (((q + 1 : Nat) : Int) < 1) = false := decide_eq_false (by omega)
          have k2 : decide ((L.length : Int) - (kk : Int) < ((q + 1 : Nat) : Int)) = false := decide_eq_false (by omega)
          have hq60 : q + 1 ≤ 60 := by omega
          have hkq : kk + (q + 1) ≤ L.length := by omega
          rw [hq]
          clear hb4 hE6 hL6 hd6 HBA hct hA7 hcs hl6 hp6
          have HSE : Hid (∀ W : World, Below W4.heap.size W4 W → Calls Tryz.prog 13 #[.slice (some ad6) (q + 1 : Nat) c6, .slice A7 (q + 1 : Nat) (c - kk)] W fun e w' => e = .returned (.bool true) ∧ Below W.heap.size W w') := Lib.hid fun W hW => by
            have h := same_entries (some ad6) A7 c6 (c - kk) L6 ((L.drop kk).take (q + 1)) W (HE6.out.next hW) (HML.out.next hW) HSM.out (by rw [HTL.out]; omega)
            rwa [HQ.out, HTL.out] at h
          obtain ⟨ad9, p, hA9, hp, hq9⟩ := place4 (HE3.out.next HB4.out) HD.out
          injection hA9 with hA9
          subst hA9
          obtain ⟨ad8, p6, hA8, hp6, hq8⟩ := place4 HE6.out HD6.out
          injection hA8 with hA8
          subst hA8
          have HP1 := Lib.hid hq9
          have HP6 := Lib.hid hq8
          have okd := (HE3.out.next HB4.out).ok d (List.mem_of_getElem? HD.out)
          have okd6 := HE6.out.ok d6 (List.mem_of_getElem? HD6.out)
          have HV1 := Lib.hid (fun (W : World) (hW : Below W4.heap.size W4 W) => runs (c := d.kc) ((okd.kl.lies fun k hk => hk).below hW))
          have HV6 := Lib.hid (fun (W : World) (hW : Below W4.heap.size W4 W) => runs (c := d6.kc) ((okd6.kl.lies fun k hk => hk).below hW))
          have hj1 : j < L3.length := by omega
          have hq1 : q < q + 1 := Nat.lt_succ_self q
          have hplq : pj.length = q + 1 := by rw [← HQ.out, ← HL6.out, List.length_map]
          have hm1 := H1.out.cap
          have hlc := H1.out.len
          unfold maxLen at hm1
          clear hq8 hq9 okd okd6 HE3 HE6 HD HD6
          go_upto_region 19 with fail
          refine wp_region_held_drew (S := fun w' => Hid (Below W4.heap.size W4 w')) (by kernel_rfl) (Lib.hid (Below.refl _ _).drew) (fun hS => ?_)
          refine wpAnyH_take (i := 0) (v := ?_) rfl (by kernel_rfl) (by kernel_rfl) (by kernel_rfl) (fun _ _ _ h => h) (Or.inl ⟨by rfl, ?_⟩) hS ?_
          rotate_left
          · intro wi hw
            go_simp
            try with_reducible rfl
          try simp only [Act.put, List.getElem_toArray, List.getElem_cons_succ, List.getElem_cons_zero, List.setIfInBounds_toArray, List.set_cons_zero, List.set_cons_succ]
          refine wpAnyH_take (i := 1) (v := ?_) rfl (by kernel_rfl) (by kernel_rfl) (by kernel_rfl) (fun _ _ _ h => h) (Or.inl ⟨by rfl, ?_⟩) hS ?_
          rotate_left
          · intro wi hw
            go_simp
            try with_reducible rfl
          try simp only [Act.put, List.getElem_toArray, List.getElem_cons_succ, List.getElem_cons_zero, List.setIfInBounds_toArray, List.set_cons_zero, List.set_cons_succ]
          refine wpAnyH_take (i := 2) (v := ?_) rfl (by kernel_rfl) (by kernel_rfl) (by kernel_rfl) (fun _ _ _ h => h) (Or.inl ⟨by rfl, ?_⟩) hS ?_
          rotate_left
          · intro wi hw
            go_simp
            try with_reducible rfl
          try simp only [Act.put, List.getElem_toArray, List.getElem_cons_succ, List.getElem_cons_zero, List.setIfInBounds_toArray, List.set_cons_zero, List.set_cons_succ]
          refine wpAnyH_take (i := 3) (v := ?_) rfl (by kernel_rfl) (by kernel_rfl) (by kernel_rfl) (fun _ _ _ h => h) (Or.inl ⟨by rfl, ?_⟩) hS ?_
          rotate_left
          · intro wi hw
            go_simp
            try with_reducible rfl
          try simp only [Act.put, List.getElem_toArray, List.getElem_cons_succ, List.getElem_cons_zero, List.setIfInBounds_toArray, List.set_cons_zero, List.set_cons_succ]
          refine wpAnyH_take (i := 4) (v := ?_) rfl (by kernel_rfl) (by kernel_rfl) (by kernel_rfl) (fun _ _ _ h => h) (Or.inl ⟨by rfl, ?_⟩) hS ?_
          rotate_left
          · intro wi hw
            go_simp
            try with_reducible rfl
          try simp only [Act.put, List.getElem_toArray, List.getElem_cons_succ, List.getElem_cons_zero, List.setIfInBounds_toArray, List.set_cons_zero, List.set_cons_succ]
          refine wpAnyH_take (i := 5) (v := ?_) rfl (by kernel_rfl) (by kernel_rfl) (by kernel_rfl) (fun _ _ _ h => h) (Or.inl ⟨by rfl, ?_⟩) hS ?_
          rotate_left
          · intro wi hw
            have k3 : decide ((q : Int) + 1 < 1) = false := decide_eq_false (by omega)
            have k4 : ¬ ((q : Int) + 1 < 1) := by omega
            have k5 : ¬ (q + 1 < 1) := by omega
            go_simp
            try with_reducible rfl
          try simp only [Act.put, List.getElem_toArray, List.getElem_cons_succ, List.getElem_cons_zero, List.setIfInBounds_toArray, List.set_cons_zero, List.set_cons_succ]
          refine wpAnyH_take (i := 6) (v := ?_) rfl (by kernel_rfl) (by kernel_rfl) (by kernel_rfl) (fun _ _ _ h => h) (Or.inl ⟨by rfl, ?_⟩) hS ?_
          rotate_left
          · intro wi hw
            go_simp
            try with_reducible rfl
          try simp only [Act.put, List.getElem_toArray, List.getElem_cons_succ, List.getElem_cons_zero, List.setIfInBounds_toArray, List.set_cons_zero, List.set_cons_succ]
          refine wpAnyH_take (i := 7) (v := ?_) rfl (by kernel_rfl) (by kernel_rfl) (by kernel_rfl) (fun _ _ _ h => h) (Or.inl ⟨by rfl, ?_⟩) hS ?_
          rotate_left
          · intro wi hw
            go_simp
            try with_reducible rfl
          try simp only [Act.put, List.getElem_toArray, List.getElem_cons_succ, List.getElem_cons_zero, List.setIfInBounds_toArray, List.set_cons_zero, List.set_cons_succ]
          refine wpAnyH_take (i := 8) (v := ?_) rfl (by kernel_rfl) (by kernel_rfl) (by kernel_rfl) (fun _ _ _ h => h) (Or.inl ⟨by rfl, ?_⟩) hS ?_
          rotate_left
          · intro wi hw
            go_simp
            try with_reducible rfl
          try simp only [Act.put, List.getElem_toArray, List.getElem_cons_succ, List.getElem_cons_zero, List.setIfInBounds_toArray, List.set_cons_zero, List.set_cons_succ]
          refine wpAnyH_take (i := 9) (v := ?_) rfl (by kernel_rfl) (by kernel_rfl) (by kernel_rfl) (fun _ _ _ h => h) (Or.inl ⟨by rfl, ?_⟩) hS ?_
          rotate_left
          · intro wi hw
            go_simp
            try with_reducible rfl
          try simp only [Act.put, List.getElem_toArray, List.getElem_cons_succ, List.getElem_cons_zero, List.setIfInBounds_toArray, List.set_cons_zero, List.set_cons_succ]
          refine wpAnyH_take (i := 10) (v := ?_) rfl (by kernel_rfl) (by kernel_rfl) (by kernel_rfl) (fun _ _ _ h => h) (Or.inl ⟨by rfl, ?_⟩) hS ?_
          rotate_left
          · intro wi hw
            go_simp
            try with_reducible rfl
          try simp only [Act.put, List.getElem_toArray, List.getElem_cons_succ, List.getElem_cons_zero, List.setIfInBounds_toArray, List.set_cons_zero, List.set_cons_succ]
          refine wpAnyH_take (i := 11) (v := ?_) rfl (by kernel_rfl) (by kernel_rfl) (by kernel_rfl) (fun _ _ _ h => h) (Or.inl ⟨by rfl, ?_⟩) hS ?_
          rotate_left
          · intro wi hw
            go_simp
            try with_reducible rfl
          try simp only [Act.put, List.getElem_toArray, List.getElem_cons_succ, List.getElem_cons_zero, List.setIfInBounds_toArray, List.set_cons_zero, List.set_cons_succ]
          refine wpAnyH_take (i := 12) (v := ?_) rfl (by kernel_rfl) (by kernel_rfl) (by kernel_rfl) (fun _ _ _ h => h) (Or.inl ⟨by rfl, ?_⟩) hS ?_
          rotate_left
          · intro wi hw
            go_simp
            try with_reducible rfl
          try simp only [Act.put, List.getElem_toArray, List.getElem_cons_succ, List.getElem_cons_zero, List.setIfInBounds_toArray, List.set_cons_zero, List.set_cons_succ]
          refine wpAnyH_take (i := 13) (v := ?_) rfl (by kernel_rfl) (by kernel_rfl) (by kernel_rfl) (fun _ _ _ h => h) (Or.inl ⟨by rfl, ?_⟩) hS ?_
          rotate_left
          · intro wi hw
            have ew : IntKind.i64.wrap ((L.length : Int) - (kk : Int)) = (L.length : Int) - (kk : Int) := IntWalk.i64_in _ (by omega)
            go_simp
            try with_reducible rfl
          try simp only [Act.put, List.getElem_toArray, List.getElem_cons_succ, List.getElem_cons_zero, List.setIfInBounds_toArray, List.set_cons_zero, List.set_cons_succ]
          refine wpAnyH_take (i := 14) (v := ?_) rfl (by kernel_rfl) (by kernel_rfl) (by kernel_rfl) (fun _ _ _ h => h) (Or.inl ⟨by rfl, ?_⟩) hS ?_
          rotate_left
          · intro wi hw
            have k3 : decide ((L.length : Int) - (kk : Int) < (q : Int) + 1) = false := decide_eq_false (by omega)
            have k4 : ¬ ((L.length : Int) - (kk : Int) < (q : Int) + 1) := by omega
            go_simp
            try with_reducible rfl
          try simp only [Act.put, List.getElem_toArray, List.getElem_cons_succ, List.getElem_cons_zero, List.setIfInBounds_toArray, List.set_cons_zero, List.set_cons_succ]
          refine wpAnyH_take (i := 15) (v := ?_) rfl (by kernel_rfl) (by kernel_rfl) (by kernel_rfl) (fun _ _ _ h => h) (Or.inl ⟨by rfl, ?_⟩) hS ?_
          rotate_left
          · intro wi hw
            go_simp
            try with_reducible rfl
          try simp only [Act.put, List.getElem_toArray, List.getElem_cons_succ, List.getElem_cons_zero, List.setIfInBounds_toArray, List.set_cons_zero, List.set_cons_succ]
          refine wpAnyH_take (i := 16) (v := ?_) rfl (by kernel_rfl) (by kernel_rfl) (by kernel_rfl) (fun _ _ _ h => h) (Or.inl ⟨by rfl, ?_⟩) hS ?_
          rotate_left
          · intro wi hw
            go_simp
            try with_reducible rfl
          try simp only [Act.put, List.getElem_toArray, List.getElem_cons_succ, List.getElem_cons_zero, List.setIfInBounds_toArray, List.set_cons_zero, List.set_cons_succ]
          refine wpAnyH_take (i := 17) (v := ?_) rfl (by kernel_rfl) (by kernel_rfl) (by kernel_rfl) (fun _ _ _ h => h) (Or.inl ⟨by rfl, ?_⟩) hS ?_
          rotate_left
          · intro wi hw
            go_simp
            try with_reducible rfl
          try simp only [Act.put, List.getElem_toArray, List.getElem_cons_succ, List.getElem_cons_zero, List.setIfInBounds_toArray, List.set_cons_zero, List.set_cons_succ]
          refine wpAnyH_take (i := 18) (v := ?_) rfl (by kernel_rfl) (by kernel_rfl) (by kernel_rfl) (fun _ _ _ h => h) (Or.inl ⟨by rfl, ?_⟩) hS ?_
          rotate_left
          · intro wi hw
            go_simp
            try with_reducible rfl
          try simp only [Act.put, List.getElem_toArray, List.getElem_cons_succ, List.getElem_cons_zero, List.setIfInBounds_toArray, List.set_cons_zero, List.set_cons_succ]
          refine wpAnyH_take (i := 19) (v := ?_) rfl (by kernel_rfl) (by kernel_rfl) (by kernel_rfl) (fun _ _ _ h => h) (Or.inl ⟨by rfl, ?_⟩) hS ?_
          rotate_left
          · intro wi hw
            go_simp
            try with_reducible rfl
          try simp only [Act.put, List.getElem_toArray, List.getElem_cons_succ, List.getElem_cons_zero, List.setIfInBounds_toArray, List.set_cons_zero, List.set_cons_succ]
          refine wpAnyH_take (i := 20) (v := ?_) rfl (by kernel_rfl) (by kernel_rfl) (by kernel_rfl) (fun _ _ _ h => h) (Or.inl ⟨by rfl, ?_⟩) hS ?_
          rotate_left
          · intro wi hw
            go_simp
            try with_reducible rfl
          try simp only [Act.put, List.getElem_toArray, List.getElem_cons_succ, List.getElem_cons_zero, List.setIfInBounds_toArray, List.set_cons_zero, List.set_cons_succ]
          refine wpAnyH_take (i := 21) (v := ?_) rfl (by kernel_rfl) (by kernel_rfl) (by kernel_rfl) (fun _ _ _ h => h) (Or.inl ⟨by rfl, ?_⟩) hS ?_
          rotate_left
          · intro wi hw
            go_simp
            try with_reducible rfl
          try simp only [Act.put, List.getElem_toArray, List.getElem_cons_succ, List.getElem_cons_zero, List.setIfInBounds_toArray, List.set_cons_zero, List.set_cons_succ]
          refine wpAnyH_take (i := 22) (v := ?_) rfl (by kernel_rfl) (by kernel_rfl) (by kernel_rfl) (fun _ _ _ h => h) (Or.inl ⟨by rfl, ?_⟩) hS ?_
          rotate_left
          · intro wi hw
            go_simp
            try with_reducible rfl
          try simp only [Act.put, List.getElem_toArray, List.getElem_cons_succ, List.getElem_cons_zero, List.setIfInBounds_toArray, List.set_cons_zero, List.set_cons_succ]
          refine wpAnyH_take (i := 23) (v := ?_) rfl (by kernel_rfl) (by kernel_rfl) (by kernel_rfl) (fun _ _ _ h => h) (Or.inl ⟨by rfl, ?_⟩) hS ?_
          rotate_left
          · intro wi hw
            have ew : IntKind.i64.wrap ((kk : Int) + ((q : Int) + 1)) = (kk : Int) + ((q : Int) + 1) := IntWalk.i64_in _ (by omega)
            go_simp
            try with_reducible rfl
          try simp only [Act.put, List.getElem_toArray, List.getElem_cons_succ, List.getElem_cons_zero, List.setIfInBounds_toArray, List.set_cons_zero, List.set_cons_succ]
          refine wpAnyH_take (i := 24) (v := ?_) rfl (by kernel_rfl) (by kernel_rfl) (by kernel_rfl) (fun _ _ _ h => h) (Or.inl ⟨by rfl, ?_⟩) hS ?_
          rotate_left
          · intro wi hw
            have hcs3 := HCS.out wi
            go_simp
            try with_reducible rfl
          try simp only [Act.put, List.getElem_toArray, List.getElem_cons_succ, List.getElem_cons_zero, List.setIfInBounds_toArray, List.set_cons_zero, List.set_cons_succ]
          refine wpAnyH_ready (rs := [25]) (by kernel_rfl) (by simp) ?_
          refine AllReadyH.cons rfl (fun K hK => ?_) AllReadyH.nil
          go_simp
          refine (HSE.out _ hS.out).mono ?_
          rintro e9 W5 ⟨rfl, hb5⟩
          have HB5 : Hid (Below W4.heap.size W4 W5) := Lib.hid (hS.out.trans (hb5.mono hS.out.size))
          clear hb5
          go_wp2_with fail
          refine hK.out _ _ HB5 (fun _ => ?_)
          clear hK K hS
          refine wpAnyH_other (S' := fun w' => Hid (Below W5.heap.size W5 w')) (fun w hw => Lib.hid (HB5.out.trans (hw.out.mono HB5.out.size))) _ _ _ _ ?_
          have hS : Hid (Below W5.heap.size W5 W5) := Lib.hid (Below.refl _ _)
          try simp only [Act.put, List.getElem_toArray, List.getElem_cons_succ, List.getElem_cons_zero, List.setIfInBounds_toArray, List.set_cons_zero, List.set_cons_succ]
          refine wpAnyH_take (i := 26) (v := ?_) rfl (by kernel_rfl) (by kernel_rfl) (by kernel_rfl) (fun _ _ _ h => h) (Or.inl ⟨by rfl, ?_⟩) hS ?_
          rotate_left
          · intro wi hw
            go_simp
            try with_reducible rfl
          try simp only [Act.put, List.getElem_toArray, List.getElem_cons_succ, List.getElem_cons_zero, List.setIfInBounds_toArray, List.set_cons_zero, List.set_cons_succ]
          refine wpAnyH_take (i := 27) (v := ?_) rfl (by kernel_rfl) (by kernel_rfl) (by kernel_rfl) (fun _ _ _ h => h) (Or.inl ⟨by rfl, ?_⟩) hS ?_
          rotate_left
          · intro wi hw
            go_simp
            try with_reducible rfl
          try simp only [Act.put, List.getElem_toArray, List.getElem_cons_succ, List.getElem_cons_zero, List.setIfInBounds_toArray, List.set_cons_zero, List.set_cons_succ]
          refine wpAnyH_take (i := 28) (v := ?_) rfl (by kernel_rfl) (by kernel_rfl) (by kernel_rfl) (fun _ _ _ h => h) (Or.inl ⟨by rfl, ?_⟩) hS ?_
          rotate_left
          · intro wi hw
            go_simp
            try with_reducible rfl
          try simp only [Act.put, List.getElem_toArray, List.getElem_cons_succ, List.getElem_cons_zero, List.setIfInBounds_toArray, List.set_cons_zero, List.set_cons_succ]
          refine wpAnyH_take (i := 29) (v := ?_) rfl (by kernel_rfl) (by kernel_rfl) (by kernel_rfl) (fun _ _ _ h => h) (Or.inl ⟨by rfl, ?_⟩) hS ?_
          rotate_left
          · intro wi hw
            go_simp
            try with_reducible rfl
          try simp only [Act.put, List.getElem_toArray, List.getElem_cons_succ, List.getElem_cons_zero, List.setIfInBounds_toArray, List.set_cons_zero, List.set_cons_succ]
          refine wpAnyH_take (i := 30) (v := ?_) rfl (by kernel_rfl) (by kernel_rfl) (by kernel_rfl) (fun _ _ _ h => h) (Or.inl ⟨by rfl, ?_⟩) hS ?_
          rotate_left
          · intro wi hw
            go_simp
            try with_reducible rfl
          try simp only [Act.put, List.getElem_toArray, List.getElem_cons_succ, List.getElem_cons_zero, List.setIfInBounds_toArray, List.set_cons_zero, List.set_cons_succ]
          refine wpAnyH_take (i := 31) (v := ?_) rfl (by kernel_rfl) (by kernel_rfl) (by kernel_rfl) (fun _ _ _ h => h) (Or.inl ⟨by rfl, ?_⟩) hS ?_
          rotate_left
          · intro wi hw
            go_simp
            try with_reducible rfl
          try simp only [Act.put, List.getElem_toArray, List.getElem_cons_succ, List.getElem_cons_zero, List.setIfInBounds_toArray, List.set_cons_zero, List.set_cons_succ]
          refine wpAnyH_take (i := 32) (v := ?_) rfl (by kernel_rfl) (by kernel_rfl) (by kernel_rfl) (fun _ _ _ h => h) (Or.inl ⟨by rfl, ?_⟩) hS ?_
          rotate_left
          · intro wi hw
            go_simp
            try with_reducible rfl
          try simp only [Act.put, List.getElem_toArray, List.getElem_cons_succ, List.getElem_cons_zero, List.setIfInBounds_toArray, List.set_cons_zero, List.set_cons_succ]
          refine wpAnyH_take (i := 33) (v := ?_) rfl (by kernel_rfl) (by kernel_rfl) (by kernel_rfl) (fun _ _ _ h => h) (Or.inl ⟨by rfl, ?_⟩) hS ?_
          rotate_left
          · intro wi hw
            go_simp
            try with_reducible rfl
          try simp only [Act.put, List.getElem_toArray, List.getElem_cons_succ, List.getElem_cons_zero, List.setIfInBounds_toArray, List.set_cons_zero, List.set_cons_succ]
          refine wpAnyH_take (i := 34) (v := ?_) rfl (by kernel_rfl) (by kernel_rfl) (by kernel_rfl) (fun _ _ _ h => h) (Or.inl ⟨by rfl, ?_⟩) hS ?_
          rotate_left
          · intro wi hw
            have hb9 := HB5.out.trans (hw.out.mono HB5.out.size)
            have hld := (HP1.out.keep hb9).load
            obtain ⟨-, q0, q1, q2, q3⟩ := HP1.out.keep hb9
            go_simp
            try with_reducible rfl
          try simp only [Act.put, List.getElem_toArray, List.getElem_cons_succ, List.getElem_cons_zero, List.setIfInBounds_toArray, List.set_cons_zero, List.set_cons_succ]
          refine wpAnyH_take (i := 35) (v := ?_) rfl (by kernel_rfl) (by kernel_rfl) (by kernel_rfl) (fun _ _ _ h => h) (Or.inl ⟨by rfl, ?_⟩) hS ?_
          rotate_left
          · intro wi hw
            have hv := HV1.out wi (HB5.out.trans (hw.out.mono HB5.out.size))
            go_simp
            try with_reducible rfl
          try simp only [Act.put, List.getElem_toArray, List.getElem_cons_succ, List.getElem_cons_zero, List.setIfInBounds_toArray, List.set_cons_zero, List.set_cons_succ]
          refine wpAnyH_take (i := 36) (v := ?_) rfl (by kernel_rfl) (by kernel_rfl) (by kernel_rfl) (fun _ _ _ h => h) (Or.inl ⟨by rfl, ?_⟩) hS ?_
          rotate_left
          · intro wi hw
            go_simp
            try with_reducible rfl
          try simp only [Act.put, List.getElem_toArray, List.getElem_cons_succ, List.getElem_cons_zero, List.setIfInBounds_toArray, List.set_cons_zero, List.set_cons_succ]
          refine wpAnyH_take (i := 37) (v := ?_) rfl (by kernel_rfl) (by kernel_rfl) (by kernel_rfl) (fun _ _ _ h => h) (Or.inl ⟨by rfl, ?_⟩) hS ?_
          rotate_left
          · intro wi hw
            go_simp
            try with_reducible rfl
          try simp only [Act.put, List.getElem_toArray, List.getElem_cons_succ, List.getElem_cons_zero, List.setIfInBounds_toArray, List.set_cons_zero, List.set_cons_succ]
          refine wpAnyH_take (i := 38) (v := ?_) rfl (by kernel_rfl) (by kernel_rfl) (by kernel_rfl) (fun _ _ _ h => h) (Or.inl ⟨by rfl, ?_⟩) hS ?_
          rotate_left
          · intro wi hw
            go_simp
            try with_reducible rfl
          try simp only [Act.put, List.getElem_toArray, List.getElem_cons_succ, List.getElem_cons_zero, List.setIfInBounds_toArray, List.set_cons_zero, List.set_cons_succ]
          refine wpAnyH_take (i := 39) (v := ?_) rfl (by kernel_rfl) (by kernel_rfl) (by kernel_rfl) (fun _ _ _ h => h) (Or.inl ⟨by rfl, ?_⟩) hS ?_
          rotate_left
          · intro wi hw
            have ew : IntKind.i64.wrap (q : Int) = (q : Int) := IntWalk.i64_in _ (by omega)
            go_simp
            try with_reducible rfl
          try simp only [Act.put, List.getElem_toArray, List.getElem_cons_succ, List.getElem_cons_zero, List.setIfInBounds_toArray, List.set_cons_zero, List.set_cons_succ]
          refine wpAnyH_take (i := 40) (v := ?_) rfl (by kernel_rfl) (by kernel_rfl) (by kernel_rfl) (fun _ _ _ h => h) (Or.inl ⟨by rfl, ?_⟩) hS ?_
          rotate_left
          · intro wi hw
            have hq9 : (q : Int) < (q : Int) + 1 := by omega
            have hq8 : q < q + 1 := by omega
            go_simp
            try with_reducible rfl
          try simp only [Act.put, List.getElem_toArray, List.getElem_cons_succ, List.getElem_cons_zero, List.setIfInBounds_toArray, List.set_cons_zero, List.set_cons_succ]
          refine wpAnyH_take (i := 41) (v := ?_) rfl (by kernel_rfl) (by kernel_rfl) (by kernel_rfl) (fun _ _ _ h => h) (Or.inl ⟨by rfl, ?_⟩) hS ?_
          rotate_left
          · intro wi hw
            go_simp
            try with_reducible rfl
          try simp only [Act.put, List.getElem_toArray, List.getElem_cons_succ, List.getElem_cons_zero, List.setIfInBounds_toArray, List.set_cons_zero, List.set_cons_succ]
          refine wpAnyH_take (i := 42) (v := ?_) rfl (by kernel_rfl) (by kernel_rfl) (by kernel_rfl) (fun _ _ _ h => h) (Or.inl ⟨by rfl, ?_⟩) hS ?_
          rotate_left
          · intro wi hw
            go_simp
            try with_reducible rfl
          try simp only [Act.put, List.getElem_toArray, List.getElem_cons_succ, List.getElem_cons_zero, List.setIfInBounds_toArray, List.set_cons_zero, List.set_cons_succ]
          refine wpAnyH_take (i := 43) (v := ?_) rfl (by kernel_rfl) (by kernel_rfl) (by kernel_rfl) (fun _ _ _ h => h) (Or.inl ⟨by rfl, ?_⟩) hS ?_
          rotate_left
          · intro wi hw
            have hb9 := HB5.out.trans (hw.out.mono HB5.out.size)
            obtain ⟨-, x0, x1, x2, x3⟩ := HP6.out.keep hb9
            go_simp
            try with_reducible rfl
          try simp only [Act.put, List.getElem_toArray, List.getElem_cons_succ, List.getElem_cons_zero, List.setIfInBounds_toArray, List.set_cons_zero, List.set_cons_succ]
          refine wpAnyH_take (i := 44) (v := ?_) rfl (by kernel_rfl) (by kernel_rfl) (by kernel_rfl) (fun _ _ _ h => h) (Or.inl ⟨by rfl, ?_⟩) hS ?_
          rotate_left
          · intro wi hw
            have hv := HV6.out wi (HB5.out.trans (hw.out.mono HB5.out.size))
            rw [show str d6.k.key = str d.k.key by rw [HKE.out]] at hv
            go_simp
            try with_reducible rfl
          try simp only [Act.put, List.getElem_toArray, List.getElem_cons_succ, List.getElem_cons_zero, List.setIfInBounds_toArray, List.set_cons_zero, List.set_cons_succ]
          refine wpAnyH_take (i := 45) (v := ?_) rfl (by kernel_rfl) (by kernel_rfl) (by kernel_rfl) (fun _ _ _ h => h) (Or.inl ⟨by rfl, ?_⟩) hS ?_
          rotate_left
          · intro wi hw
            go_simp
            try with_reducible rfl
          try simp only [Act.put, List.getElem_toArray, List.getElem_cons_succ, List.getElem_cons_zero, List.setIfInBounds_toArray, List.set_cons_zero, List.set_cons_succ]
          refine wpAnyH_take (i := 46) (v := ?_) rfl (by kernel_rfl) (by kernel_rfl) (by kernel_rfl) (fun _ _ _ h => h) (Or.inl ⟨by rfl, ?_⟩) hS ?_
          rotate_left
          · intro wi hw
            go_simp
            try with_reducible rfl
          try simp only [Act.put, List.getElem_toArray, List.getElem_cons_succ, List.getElem_cons_zero, List.setIfInBounds_toArray, List.set_cons_zero, List.set_cons_succ]
          refine wpAnyH_take (i := 47) (v := ?_) rfl (by kernel_rfl) (by kernel_rfl) (by kernel_rfl) (fun _ _ _ h => h) (Or.inl ⟨by rfl, ?_⟩) hS ?_
          rotate_left
          · intro wi hw
            go_simp
            try with_reducible rfl
          try simp only [Act.put, List.getElem_toArray, List.getElem_cons_succ, List.getElem_cons_zero, List.setIfInBounds_toArray, List.set_cons_zero, List.set_cons_succ]
          refine wpAnyH_take (i := 48) (v := ?_) rfl (by kernel_rfl) (by kernel_rfl) (by kernel_rfl) (fun _ _ _ h => h) (Or.inl ⟨by rfl, ?_⟩) hS ?_
          rotate_left
          · intro wi hw
            go_simp
            try with_reducible rfl
          try simp only [Act.put, List.getElem_toArray, List.getElem_cons_succ, List.getElem_cons_zero, List.setIfInBounds_toArray, List.set_cons_zero, List.set_cons_succ]
          refine wpAnyH_take (i := 49) (v := ?_) rfl (by kernel_rfl) (by kernel_rfl) (by kernel_rfl) (fun _ _ _ h => h) (Or.inl ⟨by rfl, ?_⟩) hS ?_
          rotate_left
          · intro wi hw
            go_simp
            try with_reducible rfl
          try simp only [Act.put, List.getElem_toArray, List.getElem_cons_succ, List.getElem_cons_zero, List.setIfInBounds_toArray, List.set_cons_zero, List.set_cons_succ]
          refine wpAnyH_take (i := 50) (v := ?_) rfl (by kernel_rfl) (by kernel_rfl) (by kernel_rfl) (fun _ _ _ h => h) (Or.inl ⟨by rfl, ?_⟩) hS ?_
          rotate_left
          · intro wi hw
            go_simp
            try with_reducible rfl
          try simp only [Act.put, List.getElem_toArray, List.getElem_cons_succ, List.getElem_cons_zero, List.setIfInBounds_toArray, List.set_cons_zero, List.set_cons_succ]
          refine wpAnyH_take (i := 51) (v := ?_) rfl (by kernel_rfl) (by kernel_rfl) (by kernel_rfl) (fun _ _ _ h => h) (Or.inl ⟨by rfl, ?_⟩) hS ?_
          rotate_left
          · intro wi hw
            go_simp
            try with_reducible rfl
          try simp only [Act.put, List.getElem_toArray, List.getElem_cons_succ, List.getElem_cons_zero, List.setIfInBounds_toArray, List.set_cons_zero, List.set_cons_succ]
          refine wpAnyH_take (i := 52) (v := ?_) rfl (by kernel_rfl) (by kernel_rfl) (by kernel_rfl) (fun _ _ _ h => h) (Or.inl ⟨by rfl, ?_⟩) hS ?_
          rotate_left
          · intro wi hw
            go_simp
            try with_reducible rfl
          try simp only [Act.put, List.getElem_toArray, List.getElem_cons_succ, List.getElem_cons_zero, List.setIfInBounds_toArray, List.set_cons_zero, List.set_cons_succ]
          refine wpAnyH_take (i := 53) (v := ?_) rfl (by kernel_rfl) (by kernel_rfl) (by kernel_rfl) (fun _ _ _ h => h) (Or.inl ⟨by rfl, ?_⟩) hS ?_
          rotate_left
          · intro wi hw
            have hb9 := HB5.out.trans (hw.out.mono HB5.out.size)
            have hld := (HP1.out.keep hb9).load
            obtain ⟨-, q0, q1, q2, q3⟩ := HP1.out.keep hb9
            go_simp
            try with_reducible rfl
          try simp only [Act.put, List.getElem_toArray, List.getElem_cons_succ, List.getElem_cons_zero, List.setIfInBounds_toArray, List.set_cons_zero, List.set_cons_succ]
          refine wpAnyH_take (i := 54) (v := ?_) rfl (by kernel_rfl) (by kernel_rfl) (by kernel_rfl) (fun _ _ _ h => h) (Or.inl ⟨by rfl, ?_⟩) hS ?_
          rotate_left
          · intro wi hw
            go_simp
            try with_reducible rfl
          try simp only [Act.put, List.getElem_toArray, List.getElem_cons_succ, List.getElem_cons_zero, List.setIfInBounds_toArray, List.set_cons_zero, List.set_cons_succ]
          refine wpAnyH_take (i := 55) (v := ?_) rfl (by kernel_rfl) (by kernel_rfl) (by kernel_rfl) (fun _ _ _ h => h) (Or.inl ⟨by rfl, ?_⟩) hS ?_
          rotate_left
          · intro wi hw
            go_simp
            try with_reducible rfl
          try simp only [Act.put, List.getElem_toArray, List.getElem_cons_succ, List.getElem_cons_zero, List.setIfInBounds_toArray, List.set_cons_zero, List.set_cons_succ]
          refine wpAnyH_take (i := 56) (v := ?_) rfl (by kernel_rfl) (by kernel_rfl) (by kernel_rfl) (fun _ _ _ h => h) (Or.inl ⟨by rfl, ?_⟩) hS ?_
          rotate_left
          · intro wi hw
            go_simp
            try with_reducible rfl
          try simp only [Act.put, List.getElem_toArray, List.getElem_cons_succ, List.getElem_cons_zero, List.setIfInBounds_toArray, List.set_cons_zero, List.set_cons_succ]
          refine wpAnyH_take (i := 57) (v := ?_) rfl (by kernel_rfl) (by kernel_rfl) (by kernel_rfl) (fun _ _ _ h => h) (Or.inl ⟨by rfl, ?_⟩) hS ?_
          rotate_left
          · intro wi hw
            have ew : IntKind.i64.wrap (q : Int) = (q : Int) := IntWalk.i64_in _ (by omega)
            go_simp
            try with_reducible rfl
          try simp only [Act.put, List.getElem_toArray, List.getElem_cons_succ, List.getElem_cons_zero, List.setIfInBounds_toArray, List.set_cons_zero, List.set_cons_succ]
          refine wpAnyH_take (i := 58) (v := ?_) rfl (by kernel_rfl) (by kernel_rfl) (by kernel_rfl) (fun _ _ _ h => h) (Or.inl ⟨by rfl, ?_⟩) hS ?_
          rotate_left
          · intro wi hw
            have hq9 : (q : Int) < (q : Int) + 1 := by omega
            have hq8 : q < q + 1 := by omega
            go_simp
            try with_reducible rfl
          try simp only [Act.put, List.getElem_toArray, List.getElem_cons_succ, List.getElem_cons_zero, List.setIfInBounds_toArray, List.set_cons_zero, List.set_cons_succ]
          refine wpAnyH_take (i := 59) (v := ?_) rfl (by kernel_rfl) (by kernel_rfl) (by kernel_rfl) (fun _ _ _ h => h) (Or.inl ⟨by rfl, ?_⟩) hS ?_
          rotate_left
          · intro wi hw
            go_simp
            try with_reducible rfl
          try simp only [Act.put, List.getElem_toArray, List.getElem_cons_succ, List.getElem_cons_zero, List.setIfInBounds_toArray, List.set_cons_zero, List.set_cons_succ]
          refine wpAnyH_take (i := 60) (v := ?_) rfl (by kernel_rfl) (by kernel_rfl) (by kernel_rfl) (fun _ _ _ h => h) (Or.inl ⟨by rfl, ?_⟩) hS ?_
          rotate_left
          · intro wi hw
            go_simp
            try with_reducible rfl
          try simp only [Act.put, List.getElem_toArray, List.getElem_cons_succ, List.getElem_cons_zero, List.setIfInBounds_toArray, List.set_cons_zero, List.set_cons_succ]
          refine wpAnyH_take (i := 61) (v := ?_) rfl (by kernel_rfl) (by kernel_rfl) (by kernel_rfl) (fun _ _ _ h => h) (Or.inl ⟨by rfl, ?_⟩) hS ?_
          rotate_left
          · intro wi hw
            have hb9 := HB5.out.trans (hw.out.mono HB5.out.size)
            obtain ⟨-, x0, x1, x2, x3⟩ := HP6.out.keep hb9
            rw [← HKS.out] at x1
            go_simp
            try with_reducible rfl
          try simp only [Act.put, List.getElem_toArray, List.getElem_cons_succ, List.getElem_cons_zero, List.setIfInBounds_toArray, List.set_cons_zero, List.set_cons_succ]
          refine wpAnyH_take (i := 62) (v := ?_) rfl (by kernel_rfl) (by kernel_rfl) (by kernel_rfl) (fun _ _ _ h => h) (Or.inl ⟨by rfl, ?_⟩) hS ?_
          rotate_left
          · intro wi hw
            go_simp
            try with_reducible rfl
          try simp only [Act.put, List.getElem_toArray, List.getElem_cons_succ, List.getElem_cons_zero, List.setIfInBounds_toArray, List.set_cons_zero, List.set_cons_succ]
          refine wpAnyH_take (i := 63) (v := ?_) rfl (by kernel_rfl) (by kernel_rfl) (by kernel_rfl) (fun _ _ _ h => h) (Or.inl ⟨by rfl, ?_⟩) hS ?_
          rotate_left
          · intro wi hw
            go_simp
            try with_reducible rfl
          try simp only [Act.put, List.getElem_toArray, List.getElem_cons_succ, List.getElem_cons_zero, List.setIfInBounds_toArray, List.set_cons_zero, List.set_cons_succ]
          refine wpAnyH_done (by kernel_rfl) ?_ _
          have HB6 := Lib.hid (HB4.out.trans ((HB5.out.trans (hS.out.mono HB5.out.size)).mono HB4.out.size))
          clear hS
          go_wp2_with fail
          go_roundw
          case rel => exact ⟨j + 1, by omega, by rw [HN1.out]; go_num, by rw [HN2.out, hplq]; go_num, by go_num, HB6⟩
          case measure => simp [intOf]; omega
        · obtain rfl : j = ps.length := by omega
          have dl : decide ((ps.length : Int) < (L3.length : Int)) = false := decide_eq_false (by omega)
          have hke : kI ps ps.length = L.length := by rw [kI_end, HF.out, List.length_map]
          rw [hke]
          have HBZ := Lib.hid (HB3.out.trans (hb.out.mono HB3.out.size))
          go_wp2_with fail
          go_ret
          exact ⟨rfl, HBZ.out⟩
    · have hm1 : ¬ (mayT (L.map D.t) : Int) = 0 := by omega
      have hm2' : ((mayT (L.map D.t) : Int) != 0) = true := by rw [bne_iff_ne]; exact hm1
      clear hm0
      generalize mayT (L.map D.t) = mm at *
      generalize tabB sz ev bi (L.map D.t) = bs at *
      go_wp2_with fail
      go_ret
      exact ⟨rfl, HBY.out⟩
  · generalize mayT (L.map D.t) = mm at *
    generalize tabB sz ev bi (L.map D.t) = bs at *
    go_wp2_with fail
    go_ret
    exact ⟨rfl, HBY.out⟩

set_option maxRecDepth 100000 in
theorem lifted (os : Os) (started : os.Started) (H : Type) (enc : TypeId × Value → H) :
    ReturnsInHanded {} Tryz.checked os 6 .any (Rows.tableIndexSpec.pre6 enc Tryz.prog Tryz.f6 Rows.tableIndexRow.domain false) (Rows.tableIndexSpec.post enc Tryz.prog Tryz.f6 false true false false) := by
  refine lift_true (C := Tryz.checked) own started (by kernel_rfl) Tryz.func6
    (ChangeSpec.witness6 (enc := enc) (C := Tryz.checked) false ⟨#[], #[.slice none 0 0, .int .i64 0, .int .i64 0, .int .i64 0], []⟩ 8 (by kernel_rfl) (by kernel_rfl) (by kernel_rfl) (by kernel_rfl))
    (by kernel_rfl) (by kernel_rfl) (by kernel_rfl) Tryz.underlying4 rfl ?_ ?_
  · intro ds hds
    match ds, hds with
    | [d1, d2, d3, d4], _ => exact ⟨rfl, rfl, rfl⟩
  · intro W base args ds p hval0 hA0 hlt _
    have hval : ∀ (j : Nat) t v, Tryz.f6.params[j]? = some t → args[j]? = some v → Value.okWide Tryz.prog W .any base t v := hval0
    have hA : DataW.TrodAll enc Tryz.prog W 0 (fun _ => true) true Tryz.f6.params.toList args.toList ds p := hA0
    rw [Tryz.params6] at hA hval
    obtain ⟨v0, vs0, d0, ds0, p0, q0, hargs, rfl, rfl, h0, r0⟩ := trodAll_cons hA
    obtain ⟨v1, vs1, d1, ds1, p1, q1, rfl, rfl, rfl, h1, r1⟩ := trodAll_cons r0
    obtain ⟨v2, vs2, d2, ds2, p2, q2, rfl, rfl, rfl, h2, r2⟩ := trodAll_cons r1
    obtain ⟨v3, vs3, d3, ds3, p3, q3, rfl, rfl, rfl, h3, r3⟩ := trodAll_cons r2
    obtain ⟨rfl, rfl, rfl⟩ := trodAll_nil r3
    obtain rfl : args = #[v0, v1, v2, v3] := by cases args; simp_all
    obtain ⟨A0, c0, L0, rfl, hN0⟩ := Sk.open_ents (hval 0 _ v0 rfl rfl) h0 (fun x hx => hlt x (by simp [hx]))
    obtain ⟨a1, rfl, rfl, rfl, w1⟩ := open_int Tryz.underlying3 (hval 1 _ v1 rfl rfl) h1
    have b1 := i64_of w1
    obtain ⟨a2, rfl, rfl, rfl, w2⟩ := open_int Tryz.underlying3 (hval 2 _ v2 rfl rfl) h2
    have b2 := i64_of w2
    obtain ⟨a3, rfl, rfl, rfl, w3⟩ := open_int Tryz.underlying3 (hval 3 _ v3 rfl rfl) h3
    have b3 := i64_of w3
    exact walk A0 c0 L0 a1 a2 a3 W hN0

theorem over : Rows.tableIndexRow.holds Tryz.pinned (OpenSpec.ofChange Rows.tableIndexSpec) :=
  OpenClaim.holds_of_wide 6 Tryz.f6 rfl rfl rfl rfl rfl rfl rfl ⟨rfl, rfl, rfl, rfl, rfl⟩ rfl rfl rfl rfl rfl (by kernel_rfl) Tryz.func6 (by kernel_rfl)
    (of_decide_eq_true (by kernel_rfl)) (by unfold Func.isWrapper; first | (rw [if_pos (by decide +kernel)]; kernel_rfl) | (rw [if_neg (by decide +kernel)]; exact ⟨rfl, rfl⟩))
    (fun os started H enc _ => lifted os started H enc)

theorem proved : Rows.TableIndexSaid :=
  over
#print axioms proved
end Go.Proofs.YtobjiamdljjkjaaGreat.tableIndex
