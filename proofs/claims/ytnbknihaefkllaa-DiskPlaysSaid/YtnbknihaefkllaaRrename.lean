/- What Rename of the document's own disk answers. -/
import Derived.Test.YtnbknihaefkllaaRapp
import Derived.Deep.DeepCutAuto
namespace Go.Proofs.Ytnbknihaefkllaa.Rk
set_option linter.unusedVariables false
set_option linter.unusedSimpArgs false
open Go.RowKit Go.Maps Lift Ik Dk

section
variable {w w' : World} {g : Nat} {S S' T : Nat → Prop} {rm : Int} {m : MS} {L : List D} {A F : Option Addr} {c cf : Nat}
theorem load_file {p : Addr} {s : ByteArray} {v : Value} {k : Int} (h0 : w.cell? p = some (.string s)) (h1 : w.cell? ⟨p.block, p.off + 1, none⟩ = some v) (hv : v.oneCell' = true) (h2 : w.cell? ⟨p.block, p.off + 2, none⟩ = some (.int .i64 k)) :
    Sem.run Try.prog (loadVar 78 p) w = .ok (.agg #[.string s, v, .int .i64 k]) w := by
  have hl := run_loadCells_list (P := Try.prog) w p [.string s, v, .int .i64 k] (fun j u hj => by
    rcases j with _ | _ | _ | j
    · simp at hj; subst hj; exact h0
    · simp at hj; subst hj; exact h1
    · simp at hj; subst hj; exact h2
    · simp at hj)
  have hagg : Sem.run Try.prog (isAgg 78) w = .ok true w := by
    unfold isAgg
    rw [Sem.run_bind, run_underlying Try.underlying78 w]
    simp
  obtain ⟨i, hi, hs⟩ : ∃ i, Try.prog.info? 78 = some i ∧ i.size = 3 := by
    have : (Try.prog.info? 78).map (·.size) = some 3 := by kernel_rfl
    cases hq : Try.prog.info? 78 with
    | none => rw [hq] at this; cases this
    | some i => rw [hq] at this; exact ⟨i, rfl, by simpa using this⟩
  have hl3 : (loadCells p 3).run Try.prog w = .ok #[.string s, v, .int .i64 k] w := hl
  simp [loadVar, Sem.run_bind, hagg, sizeOf, typeInfo, hi, hs, hl3]
set_option maxRecDepth 100000 in
set_option maxHeartbeats 1600000 in
theorem rrename_any (fr tn : ByteArray) (hn1 : fr.size ≤ 1000) (hn2 : tn.size ≤ 1000) (h : At w g S rm m) (hf : m.failed ≤ 1000000) :
    Calls Try.prog (20) #[.pointer (some ⟨g, 0, none⟩), .string fr, .string tn] w (RTold w g S rm (renameM m fr tn)) := by
  obtain ⟨L, A, F, c, cf, h⟩ := h
  have HD := Lib.hid (down_any h hf)
  have HT := Lib.hid h.told
  have HSO := Lib.hid h.sorted
  have HSG := Lib.hid h.sg
  have HMN := Lib.hid h.many
  clear h
  go_enter Try.func20, Try.ntmps20
  go_wp2_with fail
  refine HD.out.mono ?_
  rintro e W1 ⟨F1, cf1, rfl, hk1, hL1⟩
  have HK := Lib.hid hk1
  have HL := Lib.hid hL1
  clear hk1 hL1 HD
  cases hh : (hit m).1
  · by_cases hnm : nmB fr = true ∧ nmB tn = true
    · have HB0 : Hid (bad m [fr, tn] = 0) := Lib.hid (by unfold bad; rw [hh]; simp [hnm.1, hnm.2])
      have hto40 : tn.size ≤ 40 := by
        have h := hnm.2
        unfold nmB at h
        simp at h
        exact h.1.2
      obtain ⟨hnf, hnt⟩ := hnm
      have hat := at_any fr HL.out
      have hfs : (hit m).2.fs = m.fs := (hit_fs m).1
      rw [hfs] at hat
      have HAT := Lib.hid hat
      have HFS2 := Lib.hid hfs
      clear hh hat hfs
      cases hia : isAt m.fs fr
      · have HG0 := Lib.hid ((idx_get (nm := fr) HSO.out).2 hia)
        have E : Hid (renameM m fr tn = (8, (hit m).2)) := Lib.hid (by
          unfold renameM onFile
          rw [if_neg (by have := HB0.out; omega), HG0.out])
        rw [hia] at HAT
        clear hia
        go_wp2_with (go_at_call 43; refine (named_any _ _ (by first | exact hn1 | exact hn2)).mono ?_; rintro e w' ⟨rfl, rfl⟩)
        refine HAT.out.mono ?_
        rintro e W2 ⟨rfl, hb2⟩
        have HL2 := Lib.hid (HL.out.keep (T := fun _ => False) (below_keep hb2) fun _ _ => id)
        have HK2 : Hid (Keep (· = g) w W2) := Lib.hid (HK.out.trans (T := fun _ => False) (below_keep hb2) fun _ _ h => h.elim)
        clear hb2
        go_wp2_with fail
        go_ret
        rw [E.out]
        exact rtold_same HL2.out HK2.out
      · obtain ⟨f, hf1, hg⟩ := (idx_get (nm := fr) HSO.out).1 hia
        have hd : ∃ d, L[idx m.fs fr]? = some d ∧ d.m = f := by
          rw [HT.out, List.getElem?_map] at hf1
          obtain ⟨d, h1, h2⟩ := Option.map_eq_some_iff.1 hf1
          exact ⟨d, by rw [HT.out]; exact h1, h2⟩
        obtain ⟨d, hd1, rfl⟩ := hd
        have hdn : d.nm = fr := (by simpa using List.find?_some hg : d.m.nm = fr)
        have E : Hid (renameM m fr tn = (0, { (hit m).2 with fs := moved m.fs fr tn d.m })) := Lib.hid (by
          unfold renameM onFile
          rw [if_neg (by have := HB0.out; omega), hg])
        have HDN := Lib.hid hdn
        have HGT := Lib.hid hg
        obtain ⟨i, hi⟩ : ∃ i, i = idx m.fs fr := ⟨_, rfl⟩
        rw [← hi] at HAT hd1
        rw [hia] at HAT
        have HD1 := Lib.hid hd1
        clear hia hf1 hg hd1 hdn hi
        go_wp2_with (go_at_call 43; refine (named_any _ _ (by first | exact hn1 | exact hn2)).mono ?_; rintro e w' ⟨rfl, rfl⟩)
        refine HAT.out.mono ?_
        rintro e W2 ⟨rfl, hb2⟩
        have HL2 := Lib.hid (HL.out.keep (T := fun _ => False) (below_keep hb2) fun _ _ => id)
        have HK2 : Hid (Keep (· = g) w W2) := Lib.hid (HK.out.trans (T := fun _ => False) (below_keep hb2) fun _ _ h => h.elim)
        clear hb2 HAT
        by_cases hft : fr = tn
        · have hb : (fr.toList == tn.toList) = true := by rw [eq_kl]; exact decide_eq_true hft
          have E2 : Hid (renameM m fr tn = (0, (hit m).2)) := Lib.hid (by
            rw [E.out, ← hft, moved_same HSO.out HGT.out, ← HFS2.out])
          clear hft
          go_wp2_with fail
          go_ret
          rw [E2.out]
          exact rtold_same HL2.out HK2.out
        · have hb : (fr.toList == tn.toList) = false := by rw [eq_kl]; exact decide_eq_false hft
          have hlt := (List.getElem?_eq_some_iff.1 HD1.out).1
          have hmany := HMN.out
          obtain ⟨hcap, hcm⟩ := HL2.out.cap
          obtain ⟨p0, p1, _⟩ := HL2.out.facts
          obtain ⟨gl, hA, q0, q1, q2, _, _⟩ := HL2.out.place HD1.out
          have hok := HL2.out.ok d (List.mem_of_getElem? HD1.out)
          have hgl := HL2.out.lt gl (HL2.out.so gl (by rw [hA]; rfl))
          subst hA
          obtain ⟨nb, hnb⟩ : ∃ nb, nb = d.bs.length := ⟨_, rfl⟩
          obtain ⟨sy, hsy⟩ : ∃ sy, sy = d.syn := ⟨_, rfl⟩
          rw [← hnb] at q1
          rw [← hsy] at q2
          have HNB := Lib.hid hnb
          have HSY := Lib.hid hsy
          have hld : Sem.run Try.prog (loadVar 78 ⟨gl, i * 3, none⟩) W2 = .ok (.agg #[.string d.nm, .slice d.a nb d.c, .int .i64 (sy : Int)]) W2 := load_file (p := ⟨gl, i * 3, none⟩) q0 q1 rfl q2
          have HOK := Lib.hid hok
          clear hft hok hnb hsy
          go_wp2_with fail
          have hba := Joins.below_alloc1 W2 (.cells #[.string d.nm, .slice d.a nb d.c, .int .i64 (sy : Int)] Ty.file)
          have bX := Box.new W2 Ty.file [.string d.nm, .slice d.a nb d.c, .int .i64 (sy : Int)]
          have hzX : (W2.alloc (.cells #[.string d.nm, .slice d.a nb d.c, .int .i64 (sy : Int)] Ty.file)).heap.size = W2.heap.size + 1 := by simp
          have hLb := HL2.out.keep (T := fun _ => False) (below_keep hba) fun _ _ => id
          have hokb := HOK.out.keep (S' := S) (T := fun _ => False) (below_keep hba) (fun _ h => h.elim) fun _ => id
          have hgone := gone_any hLb hlt
          have hgb : g < W2.heap.size := HL2.out.lt g HL2.out.sg
          obtain ⟨bx, hbx⟩ : ∃ bx, bx = W2.heap.size := ⟨_, rfl⟩
          rw [← hbx] at bX hzX hgb ⊢
          have HBX := Lib.hid hbx
          have hkb : Keep S w (W2.alloc (.cells #[.string d.nm, .slice d.a nb d.c, .int .i64 (sy : Int)] Ty.file)) := (HK2.out.mono (T := S) fun k hk => by rw [hk]; exact HSG.out).trans (T := fun _ => False) (below_keep hba) fun _ _ h => h.elim
          have hslt : ∀ k, S k → k ≠ bx := fun k hk e => by have := HL2.out.lt k hk; omega
          have herase : ∀ L3, L3 = L.take i ++ L.drop (i + 1) → L3.map D.m = delM m.fs fr := fun L3 h => by
            rw [h, HT.out]
            have h1 := erase_told (by have h2 := HL2.out.apart; rw [HL2.out.told] at h2; exact h2) HD1.out
            rw [HDN.out] at h1
            exact h1
          obtain ⟨L3, hL3⟩ : ∃ L3, L3 = L.take i ++ L.drop (i + 1) := ⟨_, rfl⟩
          rw [← hL3] at hgone
          have ht3 := herase L3 hL3
          have hn3 : L3.length + 1 = L.length := by rw [hL3, List.length_append, List.length_take, List.length_drop]; omega
          rw [ht3] at hgone
          generalize (W2.alloc (.cells #[.string d.nm, .slice d.a nb d.c, .int .i64 (sy : Int)] Ty.file)) = Wb at *
          have HGO := Lib.hid hgone
          have HKB := Lib.hid hkb
          have HSL := Lib.hid hslt
          have HT3 := Lib.hid ht3
          have HOKB := Lib.hid hokb
          have HZX := Lib.hid hzX
          have HBXB := Lib.hid bX
          have HLBG := Lib.hid hLb.box
          have HWW : Hid (w.heap.size ≤ W2.heap.size) := Lib.hid HK2.out.size
          clear hba bX hzX hLb hokb hgone hkb hslt herase ht3 hL3 hld q0 q1 q2 hgl
          refine HGO.out.mono ?_
          rintro e W4 ⟨A4, c4, rfl, hk4, hL4⟩
          have hsub4 : ∀ k, Gr S Wb W4 k → (S k ∨ w.heap.size ≤ k) ∧ k ≠ bx := fun k hk => by
            have h1 := HZX.out
            have h2 := HWW.out
            have h3 := HBX.out
            rcases hk with hk | hk
            · exact ⟨.inl hk, HSL.out k hk⟩
            · exact ⟨.inr (by omega), by omega⟩
          have HB4 := Lib.hid (HBXB.out.keep hk4 (by omega))
          have HK4 := Lib.hid (HKB.out.trans hk4 fun k _ hk => by rw [hk]; exact HSG.out)
          have HOK4 := Lib.hid (HOKB.out.keep (S' := Gr S Wb W4) hk4 (fun k ht _ hh => by
            obtain ⟨cs, fr', hh⟩ := hh
            rw [ht] at hh
            exact typed HLBG.out hh (by decide)) fun k hk => .inl hk)
          have HL4 := Lib.hid hL4
          have HS4 := Lib.hid hsub4
          have hat4 := at_any tn hL4
          have hso4 := del_sorted (nm := fr) HSO.out
          have hile4 : idx (delM m.fs fr) tn ≤ L3.length := by
            have := idx_le (delM m.fs fr) tn
            rw [← HT3.out, List.length_map] at this
            rw [← HT3.out]
            exact this
          have HIG := Lib.hid (idx_get (nm := tn) hso4)
          have HNA := Lib.hid fun h => not_at (nm := tn) hso4 h
          dsimp only at hat4
          obtain ⟨i, hi⟩ : ∃ i, i = idx (delM m.fs fr) tn := ⟨_, rfl⟩
          rw [← hi] at hat4 hile4 HIG
          have HI := Lib.hid hi
          obtain ⟨th, hth⟩ : ∃ th, th = isAt (delM m.fs fr) tn := ⟨_, rfl⟩
          rw [← hth] at hat4 HIG
          have HTH := Lib.hid hth
          have HAT4 := Lib.hid hat4
          clear hk4 hL4 hsub4 hat4 hso4 hi hth HGO
          go_wp2_with fail
          refine HAT4.out.mono ?_
          rintro e W5 ⟨rfl, hb5⟩
          have HL5 := Lib.hid (HL4.out.keep (T := fun _ => False) (below_keep hb5) fun _ _ => id)
          have HK5 := Lib.hid (HK4.out.trans (T := fun _ => False) (below_keep hb5) fun _ _ h => h.elim)
          have HB5 := Lib.hid (HB4.out.keep (S := fun _ => False) (below_keep hb5) id)
          have HOK5 := Lib.hid (HOK4.out.keep (S' := Gr S Wb W4) (T := fun _ => False) (below_keep hb5) (fun _ h => h.elim) fun _ => id)
          clear hb5 HAT4
          go_upto_if 49 with fail
          go_cut [] (fun wx => ∃ (S2 : Nat → Prop) (L2 : List D) (A2 : Option Addr) (c2 : Nat), Lay wx g S2 rm { (hit m).2 with fs := delM (delM m.fs fr) tn } L2 A2 F1 c2 cf1 ∧ Keep S w wx ∧ (∀ k, S2 k → (S k ∨ w.heap.size ≤ k) ∧ k ≠ bx) ∧ Box wx bx Ty.file [.string d.nm, .slice d.a nb d.c, .int .i64 (sy : Int)] ∧ d.Ok wx S2 ∧ L2.length < 1000)
          case first =>
            cases th
            · go_wp2_with fail
              go_meet
              refine ⟨Gr S Wb W4, L3, A4, c4, ?_, HK5.out, HS4.out, HB5.out, HOK5.out, by omega⟩
              have h1 := HL5.out
              rw [delM_id (HNA.out HTH.out.symm)]
              exact h1
            · obtain ⟨f4, hf4, hg4⟩ := HIG.out.1 rfl
              have hd4 : ∃ d4, L3[i]? = some d4 ∧ d4.m = f4 := by
                rw [← HT3.out, List.getElem?_map] at hf4
                obtain ⟨d4, h1, h2⟩ := Option.map_eq_some_iff.1 hf4
                exact ⟨d4, h1, h2⟩
              obtain ⟨d4, hd4, rfl⟩ := hd4
              have hdn4 : d4.nm = tn := (by simpa using List.find?_some hg4 : d4.m.nm = tn)
              have hlt4 := (List.getElem?_eq_some_iff.1 hd4).1
              have hgone := gone_any HL5.out hlt4
              have ht6 : (L3.take i ++ L3.drop (i + 1)).map D.m = delM (delM m.fs fr) tn := by
                have h1 := erase_told (by have h2 := HL5.out.apart; dsimp only at h2; rw [← HT3.out] at h2; exact h2) hd4
                rw [hdn4, HT3.out] at h1
                exact h1
              rw [ht6] at hgone
              have HGO := Lib.hid hgone
              have hn6 : (L3.take i ++ L3.drop (i + 1)).length < 1000 := by rw [List.length_append, List.length_take, List.length_drop]; omega
              have HBG5 := Lib.hid HL5.out.box
              clear hf4 hg4 hd4 hdn4 hgone ht6
              go_wp2_with fail
              refine HGO.out.mono ?_
              rintro e W6 ⟨A6, c6, rfl, hk6, hL6⟩
              have FINC : Hid (∃ (S2 : Nat → Prop) (L2 : List D) (A2 : Option Addr) (c2 : Nat), Lay W6 g S2 rm { (hit m).2 with fs := delM (delM m.fs fr) tn } L2 A2 F1 c2 cf1 ∧ Keep S w W6 ∧ (∀ k, S2 k → (S k ∨ w.heap.size ≤ k) ∧ k ≠ bx) ∧ Box W6 bx Ty.file [.string d.nm, .slice d.a nb d.c, .int .i64 (sy : Int)] ∧ d.Ok W6 S2 ∧ L2.length < 1000) := Lib.hid ⟨_, _, _, _, hL6, HK5.out.trans hk6 (fun k _ hk => by rw [hk]; exact HSG.out), (fun k hk => by
                  have h1 := HB5.out.lt
                  have h2 := HK5.out.size
                  rcases hk with hk | hk
                  · exact HS4.out k hk
                  · exact ⟨.inr (by omega), by omega⟩), HB5.out.keep hk6 (by omega), HOK5.out.keep hk6 (fun k ht _ hh => by
                  obtain ⟨cs, fr', hh⟩ := hh
                  rw [ht] at hh
                  exact typed HBG5.out hh (by decide)) (fun k hk => .inl hk), hn6⟩
              clear hk6 hL6 HGO
              go_wp2_with fail
              go_meet
              exact FINC.out
          case rest =>
          clear HGT HD1 HOK HL2 HL4 HB4 HK4 HOK4 HL5 HK5 HB5 HOK5 HS4 HIG HNA HTH HT3 HKB HSL HOKB HZX HBXB HLBG p0 p1 hcap hcm hmany hlt
          obtain ⟨S6, L, A, c, hL6, hK6, hS6, hB6, hO6, hn6⟩ := hcut
          obtain rfl := HBX.out
          clear HBX
          have HL6 := Lib.hid hL6
          have HK6 := Lib.hid hK6
          have HS6 := Lib.hid hS6
          have HO6 := Lib.hid hO6
          have HB6 := Lib.hid hB6
          obtain ⟨b0, b1, b2, y0, _, _⟩ := hB6.facts3
          clear hL6 hK6 hS6 hB6 hO6
          go_upto_region 16 with fail
          have hkk : Keep (· = W2.heap.size) wc (wc.setCell ⟨W2.heap.size, 0, none⟩ (.string tn)) := (Keep.refl (· = W2.heap.size) wc).setCell (p := ⟨W2.heap.size, 0, none⟩) (.inr rfl) _
          have hL7 := HL6.out.keep hkk fun k hk e => (HS6.out k hk).2 e
          have hK7 := HK6.out.trans hkk fun k hk e => by have := HWW.out; omega
          have hO7 := HO6.out.keep (S' := S6) hkk (fun k ht hs _ => (HS6.out k hs).2 ht) fun _ => id
          have hB7 : Box (wc.setCell ⟨W2.heap.size, 0, none⟩ (.string tn)) W2.heap.size Ty.file [.string tn, .slice d.a nb d.c, .int .i64 (sy : Int)] := HB6.out.set 0 (.string tn)
          clear b0 b1 b2 y0 hkk
          obtain ⟨bx, hbx⟩ : ∃ bx, bx = W2.heap.size := ⟨_, rfl⟩
          generalize wc.setCell ⟨W2.heap.size, 0, none⟩ (.string tn) = Wq at *
          rw [← hbx] at hB7
          have HBXE := Lib.hid hbx
          generalize W2.heap.size = bx0 at *
          obtain rfl : bx = bx0 := hbx
          obtain ⟨W2, hW2⟩ : ∃ W2, W2 = Wq := ⟨_, rfl⟩
          rw [← hW2] at hL7 hK7 hO7 hB7 ⊢
          clear hW2
          have HL2 := Lib.hid hL7
          have HK7 := Lib.hid hK7
          have HO7 := Lib.hid hO7
          have HB7 := Lib.hid hB7
          obtain ⟨hcap, hcm⟩ := hL7.cap
          have hmany := hL7.many
          have htold : L.map D.m = delM (delM m.fs fr) tn := by have h := hL7.told; dsimp only at h; exact h.symm
          have hile : i ≤ L.length := by
            have h1 := idx_le (delM (delM m.fs fr) tn) tn
            rw [idx_del (del_sorted HSO.out), ← htold, List.length_map] at h1
            rw [HI.out]
            exact h1
          have hlies : Lies W2 W2.heap.size A (cellsL L) := Lies.of_own hL7.own
          obtain ⟨A2, hA2, hs2⟩ := drop_at3 A L.length c i hile hcap hcm
          have hs1 := upto_at3 A L.length c i (by omega) hcap hcm
          obtain ⟨dN, hdN⟩ : ∃ dN, dN = (⟨tn, d.a, d.c, d.bs, d.syn⟩ : D) := ⟨_, rfl⟩
          have hmv := @moved_at L dN m.fs fr tn HSO.out htold (by rw [hdN])
          rw [← HI.out] at hmv
          have hmv2 : moved m.fs fr tn dN.m = moved m.fs fr tn d.m := by rw [hdN]; rfl
          rw [hmv2] at hmv
          have HMV := Lib.hid hmv
          have HNEW : Hid (∀ (W4 : World) (A4 : Option Addr) (c4 : Nat), Below W2.heap.size W2 W4 → W4.ownsRow W2.heap.size Ty.file 3 (.slice A4 ((L.take i ++ [dN]) ++ L.drop i).length c4) ((L.take i ++ [dN]) ++ L.drop i).length (cellsL ((L.take i ++ [dN]) ++ L.drop i)) →
              RTold w g S rm (0, { (hit m).2 with fs := moved m.fs fr tn d.m }) (.returned (.int .i64 0)) (W4.setCell ⟨g, 1, none⟩ (.slice A4 ((L.take i ++ [dN]) ++ L.drop i).length c4))) := Lib.hid (by
            intro W4 A4 c4 hb4 ho4
            have hg := HL2.out.lt g HL2.out.sg
            have hk : Keep (· = g) W2 (W4.setCell ⟨g, 1, none⟩ (.slice A4 ((L.take i ++ [dN]) ++ L.drop i).length c4)) := (below_keep (S := fun j => j = g) hb4).setCell (p := ⟨g, 1, none⟩) (.inr rfl) _
            have hfr := HL2.out.fresh hk ((HL2.out.box.below hb4 hg).set 1 _) (own_keep ho4 ((Keep.refl (fun j => j = g) W4).setCell (p := ⟨g, 1, none⟩) (.inr rfl) _) fun k hk1 e => by
              have h1 := (ho4.lt k hk1).1
              omega) (fun x hx => by
              rcases List.mem_append.1 hx with h1 | h1
              · rcases List.mem_append.1 h1 with h1 | h1
                · exact HL2.out.ok x (List.mem_of_mem_take h1)
                · simp at h1
                  subst h1
                  rw [hdN]
                  exact ⟨HO7.out.lies, HO7.out.cap, HO7.out.max, HO7.out.byte, HO7.out.len, HO7.out.syn, hto40⟩
              · exact HL2.out.ok x (List.mem_of_mem_drop h1)) (by rw [List.length_append, List.length_append, List.length_take, List.length_drop, List.length_singleton]; omega) (by
              rw [List.append_assoc, List.singleton_append, HMV.out.1]
              exact HMV.out.2)
            have ht : ((L.take i ++ [dN]) ++ L.drop i).map D.m = moved m.fs fr tn d.m := by
              rw [List.append_assoc, List.singleton_append]
              exact HMV.out.1
            rw [ht] at hfr
            refine ⟨_, rfl, hfr.toAt, HK7.out.trans hk (fun k _ hk => by rw [hk]; exact HSG.out), fun k hk => ?_⟩
            have h2 := HK7.out.size
            rcases hk with hk | hk
            · exact (HS6.out k hk).1
            · exact .inr (by omega))
          have hdc : cellsL [dN] = [.string tn, .slice d.a nb d.c, .int .i64 (sy : Int)] := by rw [hdN, HNB.out, HSY.out]; rfl
          obtain ⟨vP, WP1, hrP7, hoP1, hbP1, _⟩ := append_files (w := W2.drew) (base := W2.heap.size) (v := .slice none 0 0) (L := []) (M := L.take i) (c := c) (World.ownsRow_nil _ _ _ _) ((hlies.front (cellsL_take L i)).below ((Below.refl _ _).drew)) (k := i) (by rw [List.length_take]; omega) (by simp; omega) (Nat.le_refl _)
          rw [List.nil_append] at hoP1
          obtain ⟨AP, cP, rfl, _, _, _⟩ := own_parts hoP1
          have hBP1 : Below W2.heap.size W2 WP1 := (Below.refl W2.heap.size W2).drew.trans hbP1
          have hBP2 : Below W2.heap.size W2 (WP1.alloc (.cells #[.string tn, .slice d.a nb d.c, .int .i64 (sy : Int)] Ty.file)) := hBP1.trans ((Joins.below_alloc1 WP1 (.cells #[.string tn, .slice d.a nb d.c, .int .i64 (sy : Int)] Ty.file)).mono hBP1.size)
          have hlP : Lies (WP1.alloc (.cells #[.string tn, .slice d.a nb d.c, .int .i64 (sy : Int)] Ty.file)) (WP1.heap.size + 1) (some ⟨WP1.heap.size, 0, none⟩) (cellsL [dN]) := by rw [hdc]; exact lies_block (cs := #[.string tn, .slice d.a nb d.c, .int .i64 (sy : Int)]) (heap_alloc_new WP1 _) (Nat.lt_succ_self _)
          obtain ⟨vP3, WP3, hrP11, hoP3, hbP3, _⟩ := append_files (w := WP1.alloc (.cells #[.string tn, .slice d.a nb d.c, .int .i64 (sy : Int)] Ty.file)) (base := W2.heap.size) (M := [dN]) (c := 1) (k := 1) (own_later hoP1 (Joins.below_alloc1 WP1 (.cells #[.string tn, .slice d.a nb d.c, .int .i64 (sy : Int)] Ty.file))) hlP rfl (by rw [List.length_take]; simp; omega) hBP2.size
          obtain ⟨AP3, cP3, rfl, _, _, _⟩ := own_parts hoP3
          have hBP3 := hBP2.trans hbP3
          obtain ⟨vP4, WP4, hrP18, hoP4, hbP4, _⟩ := append_files (w := WP3) (base := W2.heap.size) (M := L.drop i) (c := c - i) (k := L.length - i) hoP3 ((lies_drop hlies hA2).below hBP3) (by rw [List.length_drop]) (by simp; omega) hBP3.size
          obtain ⟨AP4, cP4, rfl, _, _, _⟩ := own_parts hoP4
          have hBP4 := hBP3.trans hbP4
          have hBQ1 : Below W2.heap.size W2 (W2.alloc (.cells #[.string tn, .slice d.a nb d.c, .int .i64 (sy : Int)] Ty.file)).drew := (Joins.below_alloc1 W2 (.cells #[.string tn, .slice d.a nb d.c, .int .i64 (sy : Int)] Ty.file)).drew
          have hzQ : (W2.alloc (.cells #[.string tn, .slice d.a nb d.c, .int .i64 (sy : Int)] Ty.file)).drew.heap.size = W2.heap.size + 1 := by show (W2.alloc (.cells #[.string tn, .slice d.a nb d.c, .int .i64 (sy : Int)] Ty.file)).heap.size = _; simp
          have hlQ : Lies (W2.alloc (.cells #[.string tn, .slice d.a nb d.c, .int .i64 (sy : Int)] Ty.file)).drew (W2.heap.size + 1) (some ⟨W2.heap.size, 0, none⟩) (cellsL [dN]) := by rw [hdc]; exact lies_block (cs := #[.string tn, .slice d.a nb d.c, .int .i64 (sy : Int)]) (heap_alloc_new W2 _) (Nat.lt_succ_self _)
          obtain ⟨vQ, WQ2, hrQ7, hoQ2, hbQ2, _⟩ := append_files (w := (W2.alloc (.cells #[.string tn, .slice d.a nb d.c, .int .i64 (sy : Int)] Ty.file)).drew) (base := W2.heap.size + 1) (v := .slice none 0 0) (L := []) (M := L.take i) (c := c) (World.ownsRow_nil _ _ _ _) ((hlies.front (cellsL_take L i)).below hBQ1) (k := i) (by rw [List.length_take]; omega) (by simp; omega) (Nat.le_of_eq hzQ.symm)
          rw [List.nil_append] at hoQ2
          obtain ⟨AQ, cQ, rfl, _, _, _⟩ := own_parts hoQ2
          have hBQ2 : Below W2.heap.size W2 WQ2 := hBQ1.trans (hbQ2.mono (Nat.le_succ _))
          obtain ⟨vQ3, WQ3, hrQ11, hoQ3, hbQ3, _⟩ := append_files (w := WQ2) (base := W2.heap.size) (M := [dN]) (c := 1) (k := 1) (Joins.ownsRow_le hoQ2 (Nat.le_succ _)) (hlQ.below hbQ2) rfl (by rw [List.length_take]; simp; omega) hBQ2.size
          obtain ⟨AQ3, cQ3, rfl, _, _, _⟩ := own_parts hoQ3
          have hBQ3 := hBQ2.trans hbQ3
          obtain ⟨vQ4, WQ4, hrQ18, hoQ4, hbQ4, _⟩ := append_files (w := WQ3) (base := W2.heap.size) (M := L.drop i) (c := c - i) (k := L.length - i) hoQ3 ((lies_drop hlies hA2).below hBQ3) (by rw [List.length_drop]) (by simp; omega) hBQ3.size
          obtain ⟨AQ4, cQ4, rfl, _, _, _⟩ := own_parts hoQ4
          have hBQ4 := hBQ3.trans hbQ4
          have FINP := Lib.hid (HNEW.out WP4 AP4 cP4 hBP4 hoP4)
          have FINQ := Lib.hid (HNEW.out WQ4 AQ4 cQ4 hBQ4 hoQ4)
          obtain ⟨n1, hn1⟩ : ∃ n1, n1 = (L.take i).length := ⟨_, rfl⟩
          obtain ⟨n2, hn2⟩ : ∃ n2, n2 = (L.take i ++ [dN]).length := ⟨_, rfl⟩
          obtain ⟨n3, hn3⟩ : ∃ n3, n3 = ((L.take i ++ [dN]) ++ L.drop i).length := ⟨_, rfl⟩
          rw [← hn3] at hrP18 hrQ18 FINP FINQ
          rw [← hn2] at hrP11 hrP18 hrQ11 hrQ18
          rw [← hn1] at hrP7 hrP11 hrQ7 hrQ11
          have HRP7 := Lib.hid hrP7
          have HRP11 := Lib.hid hrP11
          have HRP18 := Lib.hid hrP18
          have HRQ7 := Lib.hid hrQ7
          have HRQ11 := Lib.hid hrQ11
          have HRQ18 := Lib.hid hrQ18
          have HB0 : Hid (Below W2.heap.size W2 W2) := Lib.hid (Below.refl _ _)
          have HBP1 := Lib.hid hBP1
          have HBP2 := Lib.hid hBP2
          have HBP3 := Lib.hid hBP3
          have HBP4 := Lib.hid hBP4
          have HBQ1 := Lib.hid hBQ1
          have HBQ2 := Lib.hid hBQ2
          have HBQ3 := Lib.hid hBQ3
          have HBQ4 := Lib.hid hBQ4
          have BX := Lib.hid HL2.out.box
          have HG := Lib.hid (HL2.out.lt g HL2.out.sg)
          clear hlies hA2 HNEW hdc hrP7 hoP1 hbP1 hBP1 hBP2 hlP hrP11 hoP3 hbP3 hBP3 hrP18 hoP4 hbP4 hBP4 hBQ1 hzQ hlQ hrQ7 hoQ2 hbQ2 hBQ2 hrQ11 hoQ3 hbQ3 hBQ3 hrQ18 hoQ4 hbQ4 hBQ4 hn1 hn2 hn3
          have HLD : Hid (∀ w', Keep (fun j => j = g) W2 w' → Sem.run Try.prog (loadVar 78 ⟨bx, 0, none⟩) w' = .ok (.agg #[.string tn, .slice d.a nb d.c, .int .i64 (sy : Int)]) w' ∧ w'.cell? ⟨bx, 0, none⟩ = some (.string tn) ∧ w'.cell? ⟨bx, 1, none⟩ = some (.slice d.a nb d.c) ∧ w'.cell? ⟨bx, 2, none⟩ = some (.int .i64 (sy : Int))) := Lib.hid (fun w' hk => by
            obtain ⟨b0, b1, b2, _, _, _⟩ := (HB7.out.keep hk (by omega)).facts3
            exact ⟨load_file (p := ⟨bx, 0, none⟩) b0 b1 rfl b2, b0, b1, b2⟩)
          clear hL7 hK7 hO7 hB7 htold hmv hmv2 hdN
          go_cut [] from 55 (fun wx => RTold w g S rm (0, { (hit m).2 with fs := moved m.fs fr tn d.m }) (.returned (.int .i64 0)) wx)
          case first =>
            refine wp_region_held_drew (S := fun w' => Hid (Keep (fun j => j = g) W2 w')) (by kernel_rfl) (Lib.hid (Keep.refl _ _).drew) (fun hS => ?_)
            refine wpAnyH_take (i := 0) (v := ?_) rfl (by kernel_rfl) (by kernel_rfl) (by kernel_rfl) (fun _ _ _ h => h) (Or.inl ⟨by rfl, ?_⟩) hS ?_
            rotate_left
            · intro w hw
              go_simp
              try with_reducible rfl
            try simp only [Act.put, List.getElem_toArray, List.getElem_cons_succ, List.getElem_cons_zero, List.setIfInBounds_toArray, List.set_cons_zero, List.set_cons_succ]
            refine wpAnyH_take (i := 1) (v := ?_) rfl (by kernel_rfl) (by kernel_rfl) (by kernel_rfl) (fun _ _ _ h => h) (Or.inl ⟨by rfl, ?_⟩) hS ?_
            rotate_left
            · intro w hw
              go_simp
              try with_reducible rfl
            try simp only [Act.put, List.getElem_toArray, List.getElem_cons_succ, List.getElem_cons_zero, List.setIfInBounds_toArray, List.set_cons_zero, List.set_cons_succ]
            refine wpAnyH_take (i := 2) (v := ?_) rfl (by kernel_rfl) (by kernel_rfl) (by kernel_rfl) (fun _ _ _ h => h) (Or.inl ⟨by rfl, ?_⟩) hS ?_
            rotate_left
            · intro w hw
              go_simp
              try with_reducible rfl
            try simp only [Act.put, List.getElem_toArray, List.getElem_cons_succ, List.getElem_cons_zero, List.setIfInBounds_toArray, List.set_cons_zero, List.set_cons_succ]
            refine wpAnyH_take (i := 3) (v := ?_) rfl (by kernel_rfl) (by kernel_rfl) (by kernel_rfl) (fun _ _ _ h => h) (Or.inl ⟨by rfl, ?_⟩) hS ?_
            rotate_left
            · intro w hw
              go_simp
              try with_reducible rfl
            try simp only [Act.put, List.getElem_toArray, List.getElem_cons_succ, List.getElem_cons_zero, List.setIfInBounds_toArray, List.set_cons_zero, List.set_cons_succ]
            refine wpAnyH_take (i := 5) (v := ?_) rfl (by kernel_rfl) (by kernel_rfl) (by kernel_rfl) (fun _ _ _ h => h) (Or.inl ⟨by rfl, ?_⟩) hS ?_
            rotate_left
            · intro w hw
              go_simp
              try with_reducible rfl
            try simp only [Act.put, List.getElem_toArray, List.getElem_cons_succ, List.getElem_cons_zero, List.setIfInBounds_toArray, List.set_cons_zero, List.set_cons_succ]
            refine wpAnyH_take (i := 8) (v := ?_) rfl (by kernel_rfl) (by kernel_rfl) (by kernel_rfl) (fun _ _ _ h => h) (Or.inl ⟨by rfl, ?_⟩) hS ?_
            rotate_left
            · intro w hw
              obtain ⟨l0, l1, l2, l3⟩ := HLD.out w hw.out
              go_simp
              try with_reducible rfl
            try simp only [Act.put, List.getElem_toArray, List.getElem_cons_succ, List.getElem_cons_zero, List.setIfInBounds_toArray, List.set_cons_zero, List.set_cons_succ]
            refine wpAnyH_take (i := 11) (v := ?_) rfl (by kernel_rfl) (by kernel_rfl) (by kernel_rfl) (fun _ _ _ h => h) (Or.inl ⟨by rfl, ?_⟩) hS ?_
            rotate_left
            · intro w hw
              go_simp
              try with_reducible rfl
            try simp only [Act.put, List.getElem_toArray, List.getElem_cons_succ, List.getElem_cons_zero, List.setIfInBounds_toArray, List.set_cons_zero, List.set_cons_succ]
            refine wpAnyH_take (i := 12) (v := ?_) rfl (by kernel_rfl) (by kernel_rfl) (by kernel_rfl) (fun _ _ _ h => h) (Or.inl ⟨by rfl, ?_⟩) hS ?_
            rotate_left
            · intro w hw
              go_simp
              try with_reducible rfl
            try simp only [Act.put, List.getElem_toArray, List.getElem_cons_succ, List.getElem_cons_zero, List.setIfInBounds_toArray, List.set_cons_zero, List.set_cons_succ]
            refine wpAnyH_take (i := 13) (v := ?_) rfl (by kernel_rfl) (by kernel_rfl) (by kernel_rfl) (fun _ _ _ h => h) (Or.inl ⟨by rfl, ?_⟩) hS ?_
            rotate_left
            · intro w hw
              go_simp
              try with_reducible rfl
            try simp only [Act.put, List.getElem_toArray, List.getElem_cons_succ, List.getElem_cons_zero, List.setIfInBounds_toArray, List.set_cons_zero, List.set_cons_succ]
            refine wpAnyH_take (i := 15) (v := ?_) rfl (by kernel_rfl) (by kernel_rfl) (by kernel_rfl) (fun _ _ _ h => h) (Or.inl ⟨by rfl, ?_⟩) hS ?_
            rotate_left
            · intro w hw
              go_simp
              try with_reducible rfl
            try simp only [Act.put, List.getElem_toArray, List.getElem_cons_succ, List.getElem_cons_zero, List.setIfInBounds_toArray, List.set_cons_zero, List.set_cons_succ]
            refine wpAnyH_ready (rs := [4, 9, 14]) (by kernel_rfl) (by simp) ?_
            refine (AllReadyH.cons rfl (fun K hK => ?_) (AllReadyH.cons rfl (fun K hK => ?_) (AllReadyH.cons rfl (fun K hK => ?_) AllReadyH.nil)))
            · skip
              have p1 : W2.cell? ⟨g, 1, none⟩ = some (.slice A L.length c) := (BX.out.below HB0.out HG.out).cell 1
              go_simp
              refine hK.out _ _ hS (fun hS => ?_)
              clear hK K p1
              try simp only [Act.put, List.getElem_toArray, List.getElem_cons_succ, List.getElem_cons_zero, List.setIfInBounds_toArray, List.set_cons_zero, List.set_cons_succ]
              refine wpAnyH_take (i := 6) (v := ?_) rfl (by kernel_rfl) (by kernel_rfl) (by kernel_rfl) (fun _ _ _ h => h) (Or.inl ⟨by rfl, ?_⟩) hS ?_
              rotate_left
              · intro w hw
                go_simp
                try with_reducible rfl
              try simp only [Act.put, List.getElem_toArray, List.getElem_cons_succ, List.getElem_cons_zero, List.setIfInBounds_toArray, List.set_cons_zero, List.set_cons_succ]
              refine wpAnyH_ready (rs := [7, 9, 14]) (by kernel_rfl) (by simp) ?_
              refine (AllReadyH.cons rfl (fun K hK => ?_) (AllReadyH.cons rfl (fun K hK => ?_) (AllReadyH.cons rfl (fun K hK => ?_) AllReadyH.nil)))
              · skip
                refine held_append rfl _ _ 45 rfl rfl rfl HRP7.out ?_
                refine hK.out _ _ (Lib.hid (below_keep (S := fun j => j = g) HBP1.out)) (fun hS => ?_)
                clear hK K
                try simp only [Act.put, List.getElem_toArray, List.getElem_cons_succ, List.getElem_cons_zero, List.setIfInBounds_toArray, List.set_cons_zero, List.set_cons_succ]
                refine wpAnyH_ready (rs := [9, 14]) (by kernel_rfl) (by simp) ?_
                refine (AllReadyH.cons rfl (fun K hK => ?_) (AllReadyH.cons rfl (fun K hK => ?_) AllReadyH.nil))
                · skip
                  go_simp
                  refine hK.out _ _ (Lib.hid (below_keep (S := fun j => j = g) HBP2.out)) (fun hS => ?_)
                  clear hK K
                  try simp only [Act.put, List.getElem_toArray, List.getElem_cons_succ, List.getElem_cons_zero, List.setIfInBounds_toArray, List.set_cons_zero, List.set_cons_succ]
                  refine wpAnyH_ready (rs := [10, 14]) (by kernel_rfl) (by simp) ?_
                  refine (AllReadyH.cons rfl (fun K hK => ?_) (AllReadyH.cons rfl (fun K hK => ?_) AllReadyH.nil))
                  · skip
                    refine held_append rfl _ _ 45 rfl rfl rfl HRP11.out ?_
                    refine hK.out _ _ (Lib.hid (below_keep (S := fun j => j = g) HBP3.out)) (fun hS => ?_)
                    clear hK K
                    try simp only [Act.put, List.getElem_toArray, List.getElem_cons_succ, List.getElem_cons_zero, List.setIfInBounds_toArray, List.set_cons_zero, List.set_cons_succ]
                    refine wpAnyH_ready (rs := [14]) (by kernel_rfl) (by simp) ?_
                    refine (AllReadyH.cons rfl (fun K hK => ?_) AllReadyH.nil)
                    have p1 : WP3.cell? ⟨g, 1, none⟩ = some (.slice A L.length c) := (BX.out.below HBP3.out HG.out).cell 1
                    go_simp
                    refine hK.out _ _ hS (fun hS => ?_)
                    clear hK K p1
                    try simp only [Act.put, List.getElem_toArray, List.getElem_cons_succ, List.getElem_cons_zero, List.setIfInBounds_toArray, List.set_cons_zero, List.set_cons_succ]
                    refine wpAnyH_take (i := 16) (v := ?_) rfl (by kernel_rfl) (by kernel_rfl) (by kernel_rfl) (fun _ _ _ h => h) (Or.inl ⟨by rfl, ?_⟩) hS ?_
                    rotate_left
                    · intro w hw
                      go_simp
                      try with_reducible rfl
                    try simp only [Act.put, List.getElem_toArray, List.getElem_cons_succ, List.getElem_cons_zero, List.setIfInBounds_toArray, List.set_cons_zero, List.set_cons_succ]
                    refine wpAnyH_ready (rs := [17]) (by kernel_rfl) (by simp) ?_
                    refine (AllReadyH.cons rfl (fun K hK => ?_) AllReadyH.nil)
                    refine held_append rfl _ _ 45 rfl rfl rfl HRP18.out ?_
                    refine hK.out _ _ (Lib.hid (below_keep (S := fun j => j = g) HBP4.out)) (fun hS => ?_)
                    clear hK K
                    try simp only [Act.put, List.getElem_toArray, List.getElem_cons_succ, List.getElem_cons_zero, List.setIfInBounds_toArray, List.set_cons_zero, List.set_cons_succ]
                    refine wpAnyH_take (i := 18) (v := ?_) rfl (by kernel_rfl) (by kernel_rfl) (by kernel_rfl) (fun _ _ _ h => h) (Or.inl ⟨by rfl, ?_⟩) hS ?_
                    rotate_left
                    · intro w hw
                      go_simp
                      try with_reducible rfl
                    try simp only [Act.put, List.getElem_toArray, List.getElem_cons_succ, List.getElem_cons_zero, List.setIfInBounds_toArray, List.set_cons_zero, List.set_cons_succ]
                    refine wpAnyH_take (i := 19) (v := ?_) rfl (by kernel_rfl) (by kernel_rfl) (by kernel_rfl) (fun _ _ _ h => h) (Or.inl ⟨by rfl, ?_⟩) hS ?_
                    rotate_left
                    · intro w hw
                      go_simp
                      try with_reducible rfl
                    try simp only [Act.put, List.getElem_toArray, List.getElem_cons_succ, List.getElem_cons_zero, List.setIfInBounds_toArray, List.set_cons_zero, List.set_cons_succ]
                    refine wpAnyH_ready (rs := [20]) (by kernel_rfl) (by simp) ?_
                    refine (AllReadyH.cons rfl (fun K hK => ?_) AllReadyH.nil)
                    have p1 := (BX.out.below HBP4.out HG.out).cell 1
                    have z1 := (BX.out.below HBP4.out HG.out).free 1
                    simp only [List.getElem?_cons_succ, List.getElem?_cons_zero] at p1
                    go_simp
                    refine hK.out _ _ (Lib.hid ((below_keep (S := fun j => j = g) HBP4.out).setCell (p := ⟨g, 1, none⟩) (.inr rfl) _)) (fun hS => ?_)
                    clear hK K p1 z1
                    try simp only [Act.put, List.getElem_toArray, List.getElem_cons_succ, List.getElem_cons_zero, List.setIfInBounds_toArray, List.set_cons_zero, List.set_cons_succ]
                    refine wpAnyH_done (by kernel_rfl) ?_ _
                    go_wp2_with fail
                    go_meet
                    exact FINP.out
                  · skip
                    have p1 : (WP1.alloc (.cells #[.string tn, .slice d.a nb d.c, .int .i64 (sy : Int)] Ty.file)).cell? ⟨g, 1, none⟩ = some (.slice A L.length c) := (BX.out.below HBP2.out HG.out).cell 1
                    go_simp
                    refine hK.out _ _ hS (fun hS => ?_)
                    clear hK K p1
                    try simp only [Act.put, List.getElem_toArray, List.getElem_cons_succ, List.getElem_cons_zero, List.setIfInBounds_toArray, List.set_cons_zero, List.set_cons_succ]
                    refine wpAnyH_take (i := 16) (v := ?_) rfl (by kernel_rfl) (by kernel_rfl) (by kernel_rfl) (fun _ _ _ h => h) (Or.inl ⟨by rfl, ?_⟩) hS ?_
                    rotate_left
                    · intro w hw
                      go_simp
                      try with_reducible rfl
                    try simp only [Act.put, List.getElem_toArray, List.getElem_cons_succ, List.getElem_cons_zero, List.setIfInBounds_toArray, List.set_cons_zero, List.set_cons_succ]
                    refine wpAnyH_ready (rs := [10]) (by kernel_rfl) (by simp) ?_
                    refine (AllReadyH.cons rfl (fun K hK => ?_) AllReadyH.nil)
                    refine held_append rfl _ _ 45 rfl rfl rfl HRP11.out ?_
                    refine hK.out _ _ (Lib.hid (below_keep (S := fun j => j = g) HBP3.out)) (fun hS => ?_)
                    clear hK K
                    try simp only [Act.put, List.getElem_toArray, List.getElem_cons_succ, List.getElem_cons_zero, List.setIfInBounds_toArray, List.set_cons_zero, List.set_cons_succ]
                    refine wpAnyH_ready (rs := [17]) (by kernel_rfl) (by simp) ?_
                    refine (AllReadyH.cons rfl (fun K hK => ?_) AllReadyH.nil)
                    refine held_append rfl _ _ 45 rfl rfl rfl HRP18.out ?_
                    refine hK.out _ _ (Lib.hid (below_keep (S := fun j => j = g) HBP4.out)) (fun hS => ?_)
                    clear hK K
                    try simp only [Act.put, List.getElem_toArray, List.getElem_cons_succ, List.getElem_cons_zero, List.setIfInBounds_toArray, List.set_cons_zero, List.set_cons_succ]
                    refine wpAnyH_take (i := 18) (v := ?_) rfl (by kernel_rfl) (by kernel_rfl) (by kernel_rfl) (fun _ _ _ h => h) (Or.inl ⟨by rfl, ?_⟩) hS ?_
                    rotate_left
                    · intro w hw
                      go_simp
                      try with_reducible rfl
                    try simp only [Act.put, List.getElem_toArray, List.getElem_cons_succ, List.getElem_cons_zero, List.setIfInBounds_toArray, List.set_cons_zero, List.set_cons_succ]
                    refine wpAnyH_take (i := 19) (v := ?_) rfl (by kernel_rfl) (by kernel_rfl) (by kernel_rfl) (fun _ _ _ h => h) (Or.inl ⟨by rfl, ?_⟩) hS ?_
                    rotate_left
                    · intro w hw
                      go_simp
                      try with_reducible rfl
                    try simp only [Act.put, List.getElem_toArray, List.getElem_cons_succ, List.getElem_cons_zero, List.setIfInBounds_toArray, List.set_cons_zero, List.set_cons_succ]
                    refine wpAnyH_ready (rs := [20]) (by kernel_rfl) (by simp) ?_
                    refine (AllReadyH.cons rfl (fun K hK => ?_) AllReadyH.nil)
                    have p1 := (BX.out.below HBP4.out HG.out).cell 1
                    have z1 := (BX.out.below HBP4.out HG.out).free 1
                    simp only [List.getElem?_cons_succ, List.getElem?_cons_zero] at p1
                    go_simp
                    refine hK.out _ _ (Lib.hid ((below_keep (S := fun j => j = g) HBP4.out).setCell (p := ⟨g, 1, none⟩) (.inr rfl) _)) (fun hS => ?_)
                    clear hK K p1 z1
                    try simp only [Act.put, List.getElem_toArray, List.getElem_cons_succ, List.getElem_cons_zero, List.setIfInBounds_toArray, List.set_cons_zero, List.set_cons_succ]
                    refine wpAnyH_done (by kernel_rfl) ?_ _
                    go_wp2_with fail
                    go_meet
                    exact FINP.out
                · skip
                  have p1 : WP1.cell? ⟨g, 1, none⟩ = some (.slice A L.length c) := (BX.out.below HBP1.out HG.out).cell 1
                  go_simp
                  refine hK.out _ _ hS (fun hS => ?_)
                  clear hK K p1
                  try simp only [Act.put, List.getElem_toArray, List.getElem_cons_succ, List.getElem_cons_zero, List.setIfInBounds_toArray, List.set_cons_zero, List.set_cons_succ]
                  refine wpAnyH_take (i := 16) (v := ?_) rfl (by kernel_rfl) (by kernel_rfl) (by kernel_rfl) (fun _ _ _ h => h) (Or.inl ⟨by rfl, ?_⟩) hS ?_
                  rotate_left
                  · intro w hw
                    go_simp
                    try with_reducible rfl
                  try simp only [Act.put, List.getElem_toArray, List.getElem_cons_succ, List.getElem_cons_zero, List.setIfInBounds_toArray, List.set_cons_zero, List.set_cons_succ]
                  refine wpAnyH_ready (rs := [9]) (by kernel_rfl) (by simp) ?_
                  refine (AllReadyH.cons rfl (fun K hK => ?_) AllReadyH.nil)
                  go_simp
                  refine hK.out _ _ (Lib.hid (below_keep (S := fun j => j = g) HBP2.out)) (fun hS => ?_)
                  clear hK K
                  try simp only [Act.put, List.getElem_toArray, List.getElem_cons_succ, List.getElem_cons_zero, List.setIfInBounds_toArray, List.set_cons_zero, List.set_cons_succ]
                  refine wpAnyH_ready (rs := [10]) (by kernel_rfl) (by simp) ?_
                  refine (AllReadyH.cons rfl (fun K hK => ?_) AllReadyH.nil)
                  refine held_append rfl _ _ 45 rfl rfl rfl HRP11.out ?_
                  refine hK.out _ _ (Lib.hid (below_keep (S := fun j => j = g) HBP3.out)) (fun hS => ?_)
                  clear hK K
                  try simp only [Act.put, List.getElem_toArray, List.getElem_cons_succ, List.getElem_cons_zero, List.setIfInBounds_toArray, List.set_cons_zero, List.set_cons_succ]
                  refine wpAnyH_ready (rs := [17]) (by kernel_rfl) (by simp) ?_
                  refine (AllReadyH.cons rfl (fun K hK => ?_) AllReadyH.nil)
                  refine held_append rfl _ _ 45 rfl rfl rfl HRP18.out ?_
                  refine hK.out _ _ (Lib.hid (below_keep (S := fun j => j = g) HBP4.out)) (fun hS => ?_)
                  clear hK K
                  try simp only [Act.put, List.getElem_toArray, List.getElem_cons_succ, List.getElem_cons_zero, List.setIfInBounds_toArray, List.set_cons_zero, List.set_cons_succ]
                  refine wpAnyH_take (i := 18) (v := ?_) rfl (by kernel_rfl) (by kernel_rfl) (by kernel_rfl) (fun _ _ _ h => h) (Or.inl ⟨by rfl, ?_⟩) hS ?_
                  rotate_left
                  · intro w hw
                    go_simp
                    try with_reducible rfl
                  try simp only [Act.put, List.getElem_toArray, List.getElem_cons_succ, List.getElem_cons_zero, List.setIfInBounds_toArray, List.set_cons_zero, List.set_cons_succ]
                  refine wpAnyH_take (i := 19) (v := ?_) rfl (by kernel_rfl) (by kernel_rfl) (by kernel_rfl) (fun _ _ _ h => h) (Or.inl ⟨by rfl, ?_⟩) hS ?_
                  rotate_left
                  · intro w hw
                    go_simp
                    try with_reducible rfl
                  try simp only [Act.put, List.getElem_toArray, List.getElem_cons_succ, List.getElem_cons_zero, List.setIfInBounds_toArray, List.set_cons_zero, List.set_cons_succ]
                  refine wpAnyH_ready (rs := [20]) (by kernel_rfl) (by simp) ?_
                  refine (AllReadyH.cons rfl (fun K hK => ?_) AllReadyH.nil)
                  have p1 := (BX.out.below HBP4.out HG.out).cell 1
                  have z1 := (BX.out.below HBP4.out HG.out).free 1
                  simp only [List.getElem?_cons_succ, List.getElem?_cons_zero] at p1
                  go_simp
                  refine hK.out _ _ (Lib.hid ((below_keep (S := fun j => j = g) HBP4.out).setCell (p := ⟨g, 1, none⟩) (.inr rfl) _)) (fun hS => ?_)
                  clear hK K p1 z1
                  try simp only [Act.put, List.getElem_toArray, List.getElem_cons_succ, List.getElem_cons_zero, List.setIfInBounds_toArray, List.set_cons_zero, List.set_cons_succ]
                  refine wpAnyH_done (by kernel_rfl) ?_ _
                  go_wp2_with fail
                  go_meet
                  exact FINP.out
              · skip
                go_simp
                refine hK.out _ _ (Lib.hid (below_keep (S := fun j => j = g) HBQ1.out)) (fun hS => ?_)
                clear hK K
                try simp only [Act.put, List.getElem_toArray, List.getElem_cons_succ, List.getElem_cons_zero, List.setIfInBounds_toArray, List.set_cons_zero, List.set_cons_succ]
                refine wpAnyH_ready (rs := [7, 14]) (by kernel_rfl) (by simp) ?_
                refine (AllReadyH.cons rfl (fun K hK => ?_) (AllReadyH.cons rfl (fun K hK => ?_) AllReadyH.nil))
                · skip
                  refine held_append rfl _ _ 45 rfl rfl rfl HRQ7.out ?_
                  refine hK.out _ _ (Lib.hid (below_keep (S := fun j => j = g) HBQ2.out)) (fun hS => ?_)
                  clear hK K
                  try simp only [Act.put, List.getElem_toArray, List.getElem_cons_succ, List.getElem_cons_zero, List.setIfInBounds_toArray, List.set_cons_zero, List.set_cons_succ]
                  refine wpAnyH_ready (rs := [10, 14]) (by kernel_rfl) (by simp) ?_
                  refine (AllReadyH.cons rfl (fun K hK => ?_) (AllReadyH.cons rfl (fun K hK => ?_) AllReadyH.nil))
                  · skip
                    refine held_append rfl _ _ 45 rfl rfl rfl HRQ11.out ?_
                    refine hK.out _ _ (Lib.hid (below_keep (S := fun j => j = g) HBQ3.out)) (fun hS => ?_)
                    clear hK K
                    try simp only [Act.put, List.getElem_toArray, List.getElem_cons_succ, List.getElem_cons_zero, List.setIfInBounds_toArray, List.set_cons_zero, List.set_cons_succ]
                    refine wpAnyH_ready (rs := [14]) (by kernel_rfl) (by simp) ?_
                    refine (AllReadyH.cons rfl (fun K hK => ?_) AllReadyH.nil)
                    have p1 : WQ3.cell? ⟨g, 1, none⟩ = some (.slice A L.length c) := (BX.out.below HBQ3.out HG.out).cell 1
                    go_simp
                    refine hK.out _ _ hS (fun hS => ?_)
                    clear hK K p1
                    try simp only [Act.put, List.getElem_toArray, List.getElem_cons_succ, List.getElem_cons_zero, List.setIfInBounds_toArray, List.set_cons_zero, List.set_cons_succ]
                    refine wpAnyH_take (i := 16) (v := ?_) rfl (by kernel_rfl) (by kernel_rfl) (by kernel_rfl) (fun _ _ _ h => h) (Or.inl ⟨by rfl, ?_⟩) hS ?_
                    rotate_left
                    · intro w hw
                      go_simp
                      try with_reducible rfl
                    try simp only [Act.put, List.getElem_toArray, List.getElem_cons_succ, List.getElem_cons_zero, List.setIfInBounds_toArray, List.set_cons_zero, List.set_cons_succ]
                    refine wpAnyH_ready (rs := [17]) (by kernel_rfl) (by simp) ?_
                    refine (AllReadyH.cons rfl (fun K hK => ?_) AllReadyH.nil)
                    refine held_append rfl _ _ 45 rfl rfl rfl HRQ18.out ?_
                    refine hK.out _ _ (Lib.hid (below_keep (S := fun j => j = g) HBQ4.out)) (fun hS => ?_)
                    clear hK K
                    try simp only [Act.put, List.getElem_toArray, List.getElem_cons_succ, List.getElem_cons_zero, List.setIfInBounds_toArray, List.set_cons_zero, List.set_cons_succ]
                    refine wpAnyH_take (i := 18) (v := ?_) rfl (by kernel_rfl) (by kernel_rfl) (by kernel_rfl) (fun _ _ _ h => h) (Or.inl ⟨by rfl, ?_⟩) hS ?_
                    rotate_left
                    · intro w hw
                      go_simp
                      try with_reducible rfl
                    try simp only [Act.put, List.getElem_toArray, List.getElem_cons_succ, List.getElem_cons_zero, List.setIfInBounds_toArray, List.set_cons_zero, List.set_cons_succ]
                    refine wpAnyH_take (i := 19) (v := ?_) rfl (by kernel_rfl) (by kernel_rfl) (by kernel_rfl) (fun _ _ _ h => h) (Or.inl ⟨by rfl, ?_⟩) hS ?_
                    rotate_left
                    · intro w hw
                      go_simp
                      try with_reducible rfl
                    try simp only [Act.put, List.getElem_toArray, List.getElem_cons_succ, List.getElem_cons_zero, List.setIfInBounds_toArray, List.set_cons_zero, List.set_cons_succ]
                    refine wpAnyH_ready (rs := [20]) (by kernel_rfl) (by simp) ?_
                    refine (AllReadyH.cons rfl (fun K hK => ?_) AllReadyH.nil)
                    have p1 := (BX.out.below HBQ4.out HG.out).cell 1
                    have z1 := (BX.out.below HBQ4.out HG.out).free 1
                    simp only [List.getElem?_cons_succ, List.getElem?_cons_zero] at p1
                    go_simp
                    refine hK.out _ _ (Lib.hid ((below_keep (S := fun j => j = g) HBQ4.out).setCell (p := ⟨g, 1, none⟩) (.inr rfl) _)) (fun hS => ?_)
                    clear hK K p1 z1
                    try simp only [Act.put, List.getElem_toArray, List.getElem_cons_succ, List.getElem_cons_zero, List.setIfInBounds_toArray, List.set_cons_zero, List.set_cons_succ]
                    refine wpAnyH_done (by kernel_rfl) ?_ _
                    go_wp2_with fail
                    go_meet
                    exact FINQ.out
                  · skip
                    have p1 : WQ2.cell? ⟨g, 1, none⟩ = some (.slice A L.length c) := (BX.out.below HBQ2.out HG.out).cell 1
                    go_simp
                    refine hK.out _ _ hS (fun hS => ?_)
                    clear hK K p1
                    try simp only [Act.put, List.getElem_toArray, List.getElem_cons_succ, List.getElem_cons_zero, List.setIfInBounds_toArray, List.set_cons_zero, List.set_cons_succ]
                    refine wpAnyH_take (i := 16) (v := ?_) rfl (by kernel_rfl) (by kernel_rfl) (by kernel_rfl) (fun _ _ _ h => h) (Or.inl ⟨by rfl, ?_⟩) hS ?_
                    rotate_left
                    · intro w hw
                      go_simp
                      try with_reducible rfl
                    try simp only [Act.put, List.getElem_toArray, List.getElem_cons_succ, List.getElem_cons_zero, List.setIfInBounds_toArray, List.set_cons_zero, List.set_cons_succ]
                    refine wpAnyH_ready (rs := [10]) (by kernel_rfl) (by simp) ?_
                    refine (AllReadyH.cons rfl (fun K hK => ?_) AllReadyH.nil)
                    refine held_append rfl _ _ 45 rfl rfl rfl HRQ11.out ?_
                    refine hK.out _ _ (Lib.hid (below_keep (S := fun j => j = g) HBQ3.out)) (fun hS => ?_)
                    clear hK K
                    try simp only [Act.put, List.getElem_toArray, List.getElem_cons_succ, List.getElem_cons_zero, List.setIfInBounds_toArray, List.set_cons_zero, List.set_cons_succ]
                    refine wpAnyH_ready (rs := [17]) (by kernel_rfl) (by simp) ?_
                    refine (AllReadyH.cons rfl (fun K hK => ?_) AllReadyH.nil)
                    refine held_append rfl _ _ 45 rfl rfl rfl HRQ18.out ?_
                    refine hK.out _ _ (Lib.hid (below_keep (S := fun j => j = g) HBQ4.out)) (fun hS => ?_)
                    clear hK K
                    try simp only [Act.put, List.getElem_toArray, List.getElem_cons_succ, List.getElem_cons_zero, List.setIfInBounds_toArray, List.set_cons_zero, List.set_cons_succ]
                    refine wpAnyH_take (i := 18) (v := ?_) rfl (by kernel_rfl) (by kernel_rfl) (by kernel_rfl) (fun _ _ _ h => h) (Or.inl ⟨by rfl, ?_⟩) hS ?_
                    rotate_left
                    · intro w hw
                      go_simp
                      try with_reducible rfl
                    try simp only [Act.put, List.getElem_toArray, List.getElem_cons_succ, List.getElem_cons_zero, List.setIfInBounds_toArray, List.set_cons_zero, List.set_cons_succ]
                    refine wpAnyH_take (i := 19) (v := ?_) rfl (by kernel_rfl) (by kernel_rfl) (by kernel_rfl) (fun _ _ _ h => h) (Or.inl ⟨by rfl, ?_⟩) hS ?_
                    rotate_left
                    · intro w hw
                      go_simp
                      try with_reducible rfl
                    try simp only [Act.put, List.getElem_toArray, List.getElem_cons_succ, List.getElem_cons_zero, List.setIfInBounds_toArray, List.set_cons_zero, List.set_cons_succ]
                    refine wpAnyH_ready (rs := [20]) (by kernel_rfl) (by simp) ?_
                    refine (AllReadyH.cons rfl (fun K hK => ?_) AllReadyH.nil)
                    have p1 := (BX.out.below HBQ4.out HG.out).cell 1
                    have z1 := (BX.out.below HBQ4.out HG.out).free 1
                    simp only [List.getElem?_cons_succ, List.getElem?_cons_zero] at p1
                    go_simp
                    refine hK.out _ _ (Lib.hid ((below_keep (S := fun j => j = g) HBQ4.out).setCell (p := ⟨g, 1, none⟩) (.inr rfl) _)) (fun hS => ?_)
                    clear hK K p1 z1
                    try simp only [Act.put, List.getElem_toArray, List.getElem_cons_succ, List.getElem_cons_zero, List.setIfInBounds_toArray, List.set_cons_zero, List.set_cons_succ]
                    refine wpAnyH_done (by kernel_rfl) ?_ _
                    go_wp2_with fail
                    go_meet
                    exact FINQ.out
                · skip
                  have p1 : (W2.alloc (.cells #[.string tn, .slice d.a nb d.c, .int .i64 (sy : Int)] Ty.file)).drew.cell? ⟨g, 1, none⟩ = some (.slice A L.length c) := (BX.out.below HBQ1.out HG.out).cell 1
                  go_simp
                  refine hK.out _ _ hS (fun hS => ?_)
                  clear hK K p1
                  try simp only [Act.put, List.getElem_toArray, List.getElem_cons_succ, List.getElem_cons_zero, List.setIfInBounds_toArray, List.set_cons_zero, List.set_cons_succ]
                  refine wpAnyH_take (i := 16) (v := ?_) rfl (by kernel_rfl) (by kernel_rfl) (by kernel_rfl) (fun _ _ _ h => h) (Or.inl ⟨by rfl, ?_⟩) hS ?_
                  rotate_left
                  · intro w hw
                    go_simp
                    try with_reducible rfl
                  try simp only [Act.put, List.getElem_toArray, List.getElem_cons_succ, List.getElem_cons_zero, List.setIfInBounds_toArray, List.set_cons_zero, List.set_cons_succ]
                  refine wpAnyH_ready (rs := [7]) (by kernel_rfl) (by simp) ?_
                  refine (AllReadyH.cons rfl (fun K hK => ?_) AllReadyH.nil)
                  refine held_append rfl _ _ 45 rfl rfl rfl HRQ7.out ?_
                  refine hK.out _ _ (Lib.hid (below_keep (S := fun j => j = g) HBQ2.out)) (fun hS => ?_)
                  clear hK K
                  try simp only [Act.put, List.getElem_toArray, List.getElem_cons_succ, List.getElem_cons_zero, List.setIfInBounds_toArray, List.set_cons_zero, List.set_cons_succ]
                  refine wpAnyH_ready (rs := [10]) (by kernel_rfl) (by simp) ?_
                  refine (AllReadyH.cons rfl (fun K hK => ?_) AllReadyH.nil)
                  refine held_append rfl _ _ 45 rfl rfl rfl HRQ11.out ?_
                  refine hK.out _ _ (Lib.hid (below_keep (S := fun j => j = g) HBQ3.out)) (fun hS => ?_)
                  clear hK K
                  try simp only [Act.put, List.getElem_toArray, List.getElem_cons_succ, List.getElem_cons_zero, List.setIfInBounds_toArray, List.set_cons_zero, List.set_cons_succ]
                  refine wpAnyH_ready (rs := [17]) (by kernel_rfl) (by simp) ?_
                  refine (AllReadyH.cons rfl (fun K hK => ?_) AllReadyH.nil)
                  refine held_append rfl _ _ 45 rfl rfl rfl HRQ18.out ?_
                  refine hK.out _ _ (Lib.hid (below_keep (S := fun j => j = g) HBQ4.out)) (fun hS => ?_)
                  clear hK K
                  try simp only [Act.put, List.getElem_toArray, List.getElem_cons_succ, List.getElem_cons_zero, List.setIfInBounds_toArray, List.set_cons_zero, List.set_cons_succ]
                  refine wpAnyH_take (i := 18) (v := ?_) rfl (by kernel_rfl) (by kernel_rfl) (by kernel_rfl) (fun _ _ _ h => h) (Or.inl ⟨by rfl, ?_⟩) hS ?_
                  rotate_left
                  · intro w hw
                    go_simp
                    try with_reducible rfl
                  try simp only [Act.put, List.getElem_toArray, List.getElem_cons_succ, List.getElem_cons_zero, List.setIfInBounds_toArray, List.set_cons_zero, List.set_cons_succ]
                  refine wpAnyH_take (i := 19) (v := ?_) rfl (by kernel_rfl) (by kernel_rfl) (by kernel_rfl) (fun _ _ _ h => h) (Or.inl ⟨by rfl, ?_⟩) hS ?_
                  rotate_left
                  · intro w hw
                    go_simp
                    try with_reducible rfl
                  try simp only [Act.put, List.getElem_toArray, List.getElem_cons_succ, List.getElem_cons_zero, List.setIfInBounds_toArray, List.set_cons_zero, List.set_cons_succ]
                  refine wpAnyH_ready (rs := [20]) (by kernel_rfl) (by simp) ?_
                  refine (AllReadyH.cons rfl (fun K hK => ?_) AllReadyH.nil)
                  have p1 := (BX.out.below HBQ4.out HG.out).cell 1
                  have z1 := (BX.out.below HBQ4.out HG.out).free 1
                  simp only [List.getElem?_cons_succ, List.getElem?_cons_zero] at p1
                  go_simp
                  refine hK.out _ _ (Lib.hid ((below_keep (S := fun j => j = g) HBQ4.out).setCell (p := ⟨g, 1, none⟩) (.inr rfl) _)) (fun hS => ?_)
                  clear hK K p1 z1
                  try simp only [Act.put, List.getElem_toArray, List.getElem_cons_succ, List.getElem_cons_zero, List.setIfInBounds_toArray, List.set_cons_zero, List.set_cons_succ]
                  refine wpAnyH_done (by kernel_rfl) ?_ _
                  go_wp2_with fail
                  go_meet
                  exact FINQ.out
              · skip
                have p1 : W2.cell? ⟨g, 1, none⟩ = some (.slice A L.length c) := (BX.out.below HB0.out HG.out).cell 1
                go_simp
                refine hK.out _ _ hS (fun hS => ?_)
                clear hK K p1
                try simp only [Act.put, List.getElem_toArray, List.getElem_cons_succ, List.getElem_cons_zero, List.setIfInBounds_toArray, List.set_cons_zero, List.set_cons_succ]
                refine wpAnyH_take (i := 16) (v := ?_) rfl (by kernel_rfl) (by kernel_rfl) (by kernel_rfl) (fun _ _ _ h => h) (Or.inl ⟨by rfl, ?_⟩) hS ?_
                rotate_left
                · intro w hw
                  go_simp
                  try with_reducible rfl
                try simp only [Act.put, List.getElem_toArray, List.getElem_cons_succ, List.getElem_cons_zero, List.setIfInBounds_toArray, List.set_cons_zero, List.set_cons_succ]
                refine wpAnyH_ready (rs := [7, 9]) (by kernel_rfl) (by simp) ?_
                refine (AllReadyH.cons rfl (fun K hK => ?_) (AllReadyH.cons rfl (fun K hK => ?_) AllReadyH.nil))
                · skip
                  refine held_append rfl _ _ 45 rfl rfl rfl HRP7.out ?_
                  refine hK.out _ _ (Lib.hid (below_keep (S := fun j => j = g) HBP1.out)) (fun hS => ?_)
                  clear hK K
                  try simp only [Act.put, List.getElem_toArray, List.getElem_cons_succ, List.getElem_cons_zero, List.setIfInBounds_toArray, List.set_cons_zero, List.set_cons_succ]
                  refine wpAnyH_ready (rs := [9]) (by kernel_rfl) (by simp) ?_
                  refine (AllReadyH.cons rfl (fun K hK => ?_) AllReadyH.nil)
                  go_simp
                  refine hK.out _ _ (Lib.hid (below_keep (S := fun j => j = g) HBP2.out)) (fun hS => ?_)
                  clear hK K
                  try simp only [Act.put, List.getElem_toArray, List.getElem_cons_succ, List.getElem_cons_zero, List.setIfInBounds_toArray, List.set_cons_zero, List.set_cons_succ]
                  refine wpAnyH_ready (rs := [10]) (by kernel_rfl) (by simp) ?_
                  refine (AllReadyH.cons rfl (fun K hK => ?_) AllReadyH.nil)
                  refine held_append rfl _ _ 45 rfl rfl rfl HRP11.out ?_
                  refine hK.out _ _ (Lib.hid (below_keep (S := fun j => j = g) HBP3.out)) (fun hS => ?_)
                  clear hK K
                  try simp only [Act.put, List.getElem_toArray, List.getElem_cons_succ, List.getElem_cons_zero, List.setIfInBounds_toArray, List.set_cons_zero, List.set_cons_succ]
                  refine wpAnyH_ready (rs := [17]) (by kernel_rfl) (by simp) ?_
                  refine (AllReadyH.cons rfl (fun K hK => ?_) AllReadyH.nil)
                  refine held_append rfl _ _ 45 rfl rfl rfl HRP18.out ?_
                  refine hK.out _ _ (Lib.hid (below_keep (S := fun j => j = g) HBP4.out)) (fun hS => ?_)
                  clear hK K
                  try simp only [Act.put, List.getElem_toArray, List.getElem_cons_succ, List.getElem_cons_zero, List.setIfInBounds_toArray, List.set_cons_zero, List.set_cons_succ]
                  refine wpAnyH_take (i := 18) (v := ?_) rfl (by kernel_rfl) (by kernel_rfl) (by kernel_rfl) (fun _ _ _ h => h) (Or.inl ⟨by rfl, ?_⟩) hS ?_
                  rotate_left
                  · intro w hw
                    go_simp
                    try with_reducible rfl
                  try simp only [Act.put, List.getElem_toArray, List.getElem_cons_succ, List.getElem_cons_zero, List.setIfInBounds_toArray, List.set_cons_zero, List.set_cons_succ]
                  refine wpAnyH_take (i := 19) (v := ?_) rfl (by kernel_rfl) (by kernel_rfl) (by kernel_rfl) (fun _ _ _ h => h) (Or.inl ⟨by rfl, ?_⟩) hS ?_
                  rotate_left
                  · intro w hw
                    go_simp
                    try with_reducible rfl
                  try simp only [Act.put, List.getElem_toArray, List.getElem_cons_succ, List.getElem_cons_zero, List.setIfInBounds_toArray, List.set_cons_zero, List.set_cons_succ]
                  refine wpAnyH_ready (rs := [20]) (by kernel_rfl) (by simp) ?_
                  refine (AllReadyH.cons rfl (fun K hK => ?_) AllReadyH.nil)
                  have p1 := (BX.out.below HBP4.out HG.out).cell 1
                  have z1 := (BX.out.below HBP4.out HG.out).free 1
                  simp only [List.getElem?_cons_succ, List.getElem?_cons_zero] at p1
                  go_simp
                  refine hK.out _ _ (Lib.hid ((below_keep (S := fun j => j = g) HBP4.out).setCell (p := ⟨g, 1, none⟩) (.inr rfl) _)) (fun hS => ?_)
                  clear hK K p1 z1
                  try simp only [Act.put, List.getElem_toArray, List.getElem_cons_succ, List.getElem_cons_zero, List.setIfInBounds_toArray, List.set_cons_zero, List.set_cons_succ]
                  refine wpAnyH_done (by kernel_rfl) ?_ _
                  go_wp2_with fail
                  go_meet
                  exact FINP.out
                · skip
                  go_simp
                  refine hK.out _ _ (Lib.hid (below_keep (S := fun j => j = g) HBQ1.out)) (fun hS => ?_)
                  clear hK K
                  try simp only [Act.put, List.getElem_toArray, List.getElem_cons_succ, List.getElem_cons_zero, List.setIfInBounds_toArray, List.set_cons_zero, List.set_cons_succ]
                  refine wpAnyH_ready (rs := [7]) (by kernel_rfl) (by simp) ?_
                  refine (AllReadyH.cons rfl (fun K hK => ?_) AllReadyH.nil)
                  refine held_append rfl _ _ 45 rfl rfl rfl HRQ7.out ?_
                  refine hK.out _ _ (Lib.hid (below_keep (S := fun j => j = g) HBQ2.out)) (fun hS => ?_)
                  clear hK K
                  try simp only [Act.put, List.getElem_toArray, List.getElem_cons_succ, List.getElem_cons_zero, List.setIfInBounds_toArray, List.set_cons_zero, List.set_cons_succ]
                  refine wpAnyH_ready (rs := [10]) (by kernel_rfl) (by simp) ?_
                  refine (AllReadyH.cons rfl (fun K hK => ?_) AllReadyH.nil)
                  refine held_append rfl _ _ 45 rfl rfl rfl HRQ11.out ?_
                  refine hK.out _ _ (Lib.hid (below_keep (S := fun j => j = g) HBQ3.out)) (fun hS => ?_)
                  clear hK K
                  try simp only [Act.put, List.getElem_toArray, List.getElem_cons_succ, List.getElem_cons_zero, List.setIfInBounds_toArray, List.set_cons_zero, List.set_cons_succ]
                  refine wpAnyH_ready (rs := [17]) (by kernel_rfl) (by simp) ?_
                  refine (AllReadyH.cons rfl (fun K hK => ?_) AllReadyH.nil)
                  refine held_append rfl _ _ 45 rfl rfl rfl HRQ18.out ?_
                  refine hK.out _ _ (Lib.hid (below_keep (S := fun j => j = g) HBQ4.out)) (fun hS => ?_)
                  clear hK K
                  try simp only [Act.put, List.getElem_toArray, List.getElem_cons_succ, List.getElem_cons_zero, List.setIfInBounds_toArray, List.set_cons_zero, List.set_cons_succ]
                  refine wpAnyH_take (i := 18) (v := ?_) rfl (by kernel_rfl) (by kernel_rfl) (by kernel_rfl) (fun _ _ _ h => h) (Or.inl ⟨by rfl, ?_⟩) hS ?_
                  rotate_left
                  · intro w hw
                    go_simp
                    try with_reducible rfl
                  try simp only [Act.put, List.getElem_toArray, List.getElem_cons_succ, List.getElem_cons_zero, List.setIfInBounds_toArray, List.set_cons_zero, List.set_cons_succ]
                  refine wpAnyH_take (i := 19) (v := ?_) rfl (by kernel_rfl) (by kernel_rfl) (by kernel_rfl) (fun _ _ _ h => h) (Or.inl ⟨by rfl, ?_⟩) hS ?_
                  rotate_left
                  · intro w hw
                    go_simp
                    try with_reducible rfl
                  try simp only [Act.put, List.getElem_toArray, List.getElem_cons_succ, List.getElem_cons_zero, List.setIfInBounds_toArray, List.set_cons_zero, List.set_cons_succ]
                  refine wpAnyH_ready (rs := [20]) (by kernel_rfl) (by simp) ?_
                  refine (AllReadyH.cons rfl (fun K hK => ?_) AllReadyH.nil)
                  have p1 := (BX.out.below HBQ4.out HG.out).cell 1
                  have z1 := (BX.out.below HBQ4.out HG.out).free 1
                  simp only [List.getElem?_cons_succ, List.getElem?_cons_zero] at p1
                  go_simp
                  refine hK.out _ _ (Lib.hid ((below_keep (S := fun j => j = g) HBQ4.out).setCell (p := ⟨g, 1, none⟩) (.inr rfl) _)) (fun hS => ?_)
                  clear hK K p1 z1
                  try simp only [Act.put, List.getElem_toArray, List.getElem_cons_succ, List.getElem_cons_zero, List.setIfInBounds_toArray, List.set_cons_zero, List.set_cons_succ]
                  refine wpAnyH_done (by kernel_rfl) ?_ _
                  go_wp2_with fail
                  go_meet
                  exact FINQ.out
            · skip
              go_simp
              refine hK.out _ _ (Lib.hid (below_keep (S := fun j => j = g) HBQ1.out)) (fun hS => ?_)
              clear hK K
              try simp only [Act.put, List.getElem_toArray, List.getElem_cons_succ, List.getElem_cons_zero, List.setIfInBounds_toArray, List.set_cons_zero, List.set_cons_succ]
              refine wpAnyH_ready (rs := [4, 14]) (by kernel_rfl) (by simp) ?_
              refine (AllReadyH.cons rfl (fun K hK => ?_) (AllReadyH.cons rfl (fun K hK => ?_) AllReadyH.nil))
              · skip
                have p1 : (W2.alloc (.cells #[.string tn, .slice d.a nb d.c, .int .i64 (sy : Int)] Ty.file)).drew.cell? ⟨g, 1, none⟩ = some (.slice A L.length c) := (BX.out.below HBQ1.out HG.out).cell 1
                go_simp
                refine hK.out _ _ hS (fun hS => ?_)
                clear hK K p1
                try simp only [Act.put, List.getElem_toArray, List.getElem_cons_succ, List.getElem_cons_zero, List.setIfInBounds_toArray, List.set_cons_zero, List.set_cons_succ]
                refine wpAnyH_take (i := 6) (v := ?_) rfl (by kernel_rfl) (by kernel_rfl) (by kernel_rfl) (fun _ _ _ h => h) (Or.inl ⟨by rfl, ?_⟩) hS ?_
                rotate_left
                · intro w hw
                  go_simp
                  try with_reducible rfl
                try simp only [Act.put, List.getElem_toArray, List.getElem_cons_succ, List.getElem_cons_zero, List.setIfInBounds_toArray, List.set_cons_zero, List.set_cons_succ]
                refine wpAnyH_ready (rs := [7, 14]) (by kernel_rfl) (by simp) ?_
                refine (AllReadyH.cons rfl (fun K hK => ?_) (AllReadyH.cons rfl (fun K hK => ?_) AllReadyH.nil))
                · skip
                  refine held_append rfl _ _ 45 rfl rfl rfl HRQ7.out ?_
                  refine hK.out _ _ (Lib.hid (below_keep (S := fun j => j = g) HBQ2.out)) (fun hS => ?_)
                  clear hK K
                  try simp only [Act.put, List.getElem_toArray, List.getElem_cons_succ, List.getElem_cons_zero, List.setIfInBounds_toArray, List.set_cons_zero, List.set_cons_succ]
                  refine wpAnyH_ready (rs := [10, 14]) (by kernel_rfl) (by simp) ?_
                  refine (AllReadyH.cons rfl (fun K hK => ?_) (AllReadyH.cons rfl (fun K hK => ?_) AllReadyH.nil))
                  · skip
                    refine held_append rfl _ _ 45 rfl rfl rfl HRQ11.out ?_
                    refine hK.out _ _ (Lib.hid (below_keep (S := fun j => j = g) HBQ3.out)) (fun hS => ?_)
                    clear hK K
                    try simp only [Act.put, List.getElem_toArray, List.getElem_cons_succ, List.getElem_cons_zero, List.setIfInBounds_toArray, List.set_cons_zero, List.set_cons_succ]
                    refine wpAnyH_ready (rs := [14]) (by kernel_rfl) (by simp) ?_
                    refine (AllReadyH.cons rfl (fun K hK => ?_) AllReadyH.nil)
                    have p1 : WQ3.cell? ⟨g, 1, none⟩ = some (.slice A L.length c) := (BX.out.below HBQ3.out HG.out).cell 1
                    go_simp
                    refine hK.out _ _ hS (fun hS => ?_)
                    clear hK K p1
                    try simp only [Act.put, List.getElem_toArray, List.getElem_cons_succ, List.getElem_cons_zero, List.setIfInBounds_toArray, List.set_cons_zero, List.set_cons_succ]
                    refine wpAnyH_take (i := 16) (v := ?_) rfl (by kernel_rfl) (by kernel_rfl) (by kernel_rfl) (fun _ _ _ h => h) (Or.inl ⟨by rfl, ?_⟩) hS ?_
                    rotate_left
                    · intro w hw
                      go_simp
                      try with_reducible rfl
                    try simp only [Act.put, List.getElem_toArray, List.getElem_cons_succ, List.getElem_cons_zero, List.setIfInBounds_toArray, List.set_cons_zero, List.set_cons_succ]
                    refine wpAnyH_ready (rs := [17]) (by kernel_rfl) (by simp) ?_
                    refine (AllReadyH.cons rfl (fun K hK => ?_) AllReadyH.nil)
                    refine held_append rfl _ _ 45 rfl rfl rfl HRQ18.out ?_
                    refine hK.out _ _ (Lib.hid (below_keep (S := fun j => j = g) HBQ4.out)) (fun hS => ?_)
                    clear hK K
                    try simp only [Act.put, List.getElem_toArray, List.getElem_cons_succ, List.getElem_cons_zero, List.setIfInBounds_toArray, List.set_cons_zero, List.set_cons_succ]
                    refine wpAnyH_take (i := 18) (v := ?_) rfl (by kernel_rfl) (by kernel_rfl) (by kernel_rfl) (fun _ _ _ h => h) (Or.inl ⟨by rfl, ?_⟩) hS ?_
                    rotate_left
                    · intro w hw
                      go_simp
                      try with_reducible rfl
                    try simp only [Act.put, List.getElem_toArray, List.getElem_cons_succ, List.getElem_cons_zero, List.setIfInBounds_toArray, List.set_cons_zero, List.set_cons_succ]
                    refine wpAnyH_take (i := 19) (v := ?_) rfl (by kernel_rfl) (by kernel_rfl) (by kernel_rfl) (fun _ _ _ h => h) (Or.inl ⟨by rfl, ?_⟩) hS ?_
                    rotate_left
                    · intro w hw
                      go_simp
                      try with_reducible rfl
                    try simp only [Act.put, List.getElem_toArray, List.getElem_cons_succ, List.getElem_cons_zero, List.setIfInBounds_toArray, List.set_cons_zero, List.set_cons_succ]
                    refine wpAnyH_ready (rs := [20]) (by kernel_rfl) (by simp) ?_
                    refine (AllReadyH.cons rfl (fun K hK => ?_) AllReadyH.nil)
                    have p1 := (BX.out.below HBQ4.out HG.out).cell 1
                    have z1 := (BX.out.below HBQ4.out HG.out).free 1
                    simp only [List.getElem?_cons_succ, List.getElem?_cons_zero] at p1
                    go_simp
                    refine hK.out _ _ (Lib.hid ((below_keep (S := fun j => j = g) HBQ4.out).setCell (p := ⟨g, 1, none⟩) (.inr rfl) _)) (fun hS => ?_)
                    clear hK K p1 z1
                    try simp only [Act.put, List.getElem_toArray, List.getElem_cons_succ, List.getElem_cons_zero, List.setIfInBounds_toArray, List.set_cons_zero, List.set_cons_succ]
                    refine wpAnyH_done (by kernel_rfl) ?_ _
                    go_wp2_with fail
                    go_meet
                    exact FINQ.out
                  · skip
                    have p1 : WQ2.cell? ⟨g, 1, none⟩ = some (.slice A L.length c) := (BX.out.below HBQ2.out HG.out).cell 1
                    go_simp
                    refine hK.out _ _ hS (fun hS => ?_)
                    clear hK K p1
                    try simp only [Act.put, List.getElem_toArray, List.getElem_cons_succ, List.getElem_cons_zero, List.setIfInBounds_toArray, List.set_cons_zero, List.set_cons_succ]
                    refine wpAnyH_take (i := 16) (v := ?_) rfl (by kernel_rfl) (by kernel_rfl) (by kernel_rfl) (fun _ _ _ h => h) (Or.inl ⟨by rfl, ?_⟩) hS ?_
                    rotate_left
                    · intro w hw
                      go_simp
                      try with_reducible rfl
                    try simp only [Act.put, List.getElem_toArray, List.getElem_cons_succ, List.getElem_cons_zero, List.setIfInBounds_toArray, List.set_cons_zero, List.set_cons_succ]
                    refine wpAnyH_ready (rs := [10]) (by kernel_rfl) (by simp) ?_
                    refine (AllReadyH.cons rfl (fun K hK => ?_) AllReadyH.nil)
                    refine held_append rfl _ _ 45 rfl rfl rfl HRQ11.out ?_
                    refine hK.out _ _ (Lib.hid (below_keep (S := fun j => j = g) HBQ3.out)) (fun hS => ?_)
                    clear hK K
                    try simp only [Act.put, List.getElem_toArray, List.getElem_cons_succ, List.getElem_cons_zero, List.setIfInBounds_toArray, List.set_cons_zero, List.set_cons_succ]
                    refine wpAnyH_ready (rs := [17]) (by kernel_rfl) (by simp) ?_
                    refine (AllReadyH.cons rfl (fun K hK => ?_) AllReadyH.nil)
                    refine held_append rfl _ _ 45 rfl rfl rfl HRQ18.out ?_
                    refine hK.out _ _ (Lib.hid (below_keep (S := fun j => j = g) HBQ4.out)) (fun hS => ?_)
                    clear hK K
                    try simp only [Act.put, List.getElem_toArray, List.getElem_cons_succ, List.getElem_cons_zero, List.setIfInBounds_toArray, List.set_cons_zero, List.set_cons_succ]
                    refine wpAnyH_take (i := 18) (v := ?_) rfl (by kernel_rfl) (by kernel_rfl) (by kernel_rfl) (fun _ _ _ h => h) (Or.inl ⟨by rfl, ?_⟩) hS ?_
                    rotate_left
                    · intro w hw
                      go_simp
                      try with_reducible rfl
                    try simp only [Act.put, List.getElem_toArray, List.getElem_cons_succ, List.getElem_cons_zero, List.setIfInBounds_toArray, List.set_cons_zero, List.set_cons_succ]
                    refine wpAnyH_take (i := 19) (v := ?_) rfl (by kernel_rfl) (by kernel_rfl) (by kernel_rfl) (fun _ _ _ h => h) (Or.inl ⟨by rfl, ?_⟩) hS ?_
                    rotate_left
                    · intro w hw
                      go_simp
                      try with_reducible rfl
                    try simp only [Act.put, List.getElem_toArray, List.getElem_cons_succ, List.getElem_cons_zero, List.setIfInBounds_toArray, List.set_cons_zero, List.set_cons_succ]
                    refine wpAnyH_ready (rs := [20]) (by kernel_rfl) (by simp) ?_
                    refine (AllReadyH.cons rfl (fun K hK => ?_) AllReadyH.nil)
                    have p1 := (BX.out.below HBQ4.out HG.out).cell 1
                    have z1 := (BX.out.below HBQ4.out HG.out).free 1
                    simp only [List.getElem?_cons_succ, List.getElem?_cons_zero] at p1
                    go_simp
                    refine hK.out _ _ (Lib.hid ((below_keep (S := fun j => j = g) HBQ4.out).setCell (p := ⟨g, 1, none⟩) (.inr rfl) _)) (fun hS => ?_)
                    clear hK K p1 z1
                    try simp only [Act.put, List.getElem_toArray, List.getElem_cons_succ, List.getElem_cons_zero, List.setIfInBounds_toArray, List.set_cons_zero, List.set_cons_succ]
                    refine wpAnyH_done (by kernel_rfl) ?_ _
                    go_wp2_with fail
                    go_meet
                    exact FINQ.out
                · skip
                  have p1 : (W2.alloc (.cells #[.string tn, .slice d.a nb d.c, .int .i64 (sy : Int)] Ty.file)).drew.cell? ⟨g, 1, none⟩ = some (.slice A L.length c) := (BX.out.below HBQ1.out HG.out).cell 1
                  go_simp
                  refine hK.out _ _ hS (fun hS => ?_)
                  clear hK K p1
                  try simp only [Act.put, List.getElem_toArray, List.getElem_cons_succ, List.getElem_cons_zero, List.setIfInBounds_toArray, List.set_cons_zero, List.set_cons_succ]
                  refine wpAnyH_take (i := 16) (v := ?_) rfl (by kernel_rfl) (by kernel_rfl) (by kernel_rfl) (fun _ _ _ h => h) (Or.inl ⟨by rfl, ?_⟩) hS ?_
                  rotate_left
                  · intro w hw
                    go_simp
                    try with_reducible rfl
                  try simp only [Act.put, List.getElem_toArray, List.getElem_cons_succ, List.getElem_cons_zero, List.setIfInBounds_toArray, List.set_cons_zero, List.set_cons_succ]
                  refine wpAnyH_ready (rs := [7]) (by kernel_rfl) (by simp) ?_
                  refine (AllReadyH.cons rfl (fun K hK => ?_) AllReadyH.nil)
                  refine held_append rfl _ _ 45 rfl rfl rfl HRQ7.out ?_
                  refine hK.out _ _ (Lib.hid (below_keep (S := fun j => j = g) HBQ2.out)) (fun hS => ?_)
                  clear hK K
                  try simp only [Act.put, List.getElem_toArray, List.getElem_cons_succ, List.getElem_cons_zero, List.setIfInBounds_toArray, List.set_cons_zero, List.set_cons_succ]
                  refine wpAnyH_ready (rs := [10]) (by kernel_rfl) (by simp) ?_
                  refine (AllReadyH.cons rfl (fun K hK => ?_) AllReadyH.nil)
                  refine held_append rfl _ _ 45 rfl rfl rfl HRQ11.out ?_
                  refine hK.out _ _ (Lib.hid (below_keep (S := fun j => j = g) HBQ3.out)) (fun hS => ?_)
                  clear hK K
                  try simp only [Act.put, List.getElem_toArray, List.getElem_cons_succ, List.getElem_cons_zero, List.setIfInBounds_toArray, List.set_cons_zero, List.set_cons_succ]
                  refine wpAnyH_ready (rs := [17]) (by kernel_rfl) (by simp) ?_
                  refine (AllReadyH.cons rfl (fun K hK => ?_) AllReadyH.nil)
                  refine held_append rfl _ _ 45 rfl rfl rfl HRQ18.out ?_
                  refine hK.out _ _ (Lib.hid (below_keep (S := fun j => j = g) HBQ4.out)) (fun hS => ?_)
                  clear hK K
                  try simp only [Act.put, List.getElem_toArray, List.getElem_cons_succ, List.getElem_cons_zero, List.setIfInBounds_toArray, List.set_cons_zero, List.set_cons_succ]
                  refine wpAnyH_take (i := 18) (v := ?_) rfl (by kernel_rfl) (by kernel_rfl) (by kernel_rfl) (fun _ _ _ h => h) (Or.inl ⟨by rfl, ?_⟩) hS ?_
                  rotate_left
                  · intro w hw
                    go_simp
                    try with_reducible rfl
                  try simp only [Act.put, List.getElem_toArray, List.getElem_cons_succ, List.getElem_cons_zero, List.setIfInBounds_toArray, List.set_cons_zero, List.set_cons_succ]
                  refine wpAnyH_take (i := 19) (v := ?_) rfl (by kernel_rfl) (by kernel_rfl) (by kernel_rfl) (fun _ _ _ h => h) (Or.inl ⟨by rfl, ?_⟩) hS ?_
                  rotate_left
                  · intro w hw
                    go_simp
                    try with_reducible rfl
                  try simp only [Act.put, List.getElem_toArray, List.getElem_cons_succ, List.getElem_cons_zero, List.setIfInBounds_toArray, List.set_cons_zero, List.set_cons_succ]
                  refine wpAnyH_ready (rs := [20]) (by kernel_rfl) (by simp) ?_
                  refine (AllReadyH.cons rfl (fun K hK => ?_) AllReadyH.nil)
                  have p1 := (BX.out.below HBQ4.out HG.out).cell 1
                  have z1 := (BX.out.below HBQ4.out HG.out).free 1
                  simp only [List.getElem?_cons_succ, List.getElem?_cons_zero] at p1
                  go_simp
                  refine hK.out _ _ (Lib.hid ((below_keep (S := fun j => j = g) HBQ4.out).setCell (p := ⟨g, 1, none⟩) (.inr rfl) _)) (fun hS => ?_)
                  clear hK K p1 z1
                  try simp only [Act.put, List.getElem_toArray, List.getElem_cons_succ, List.getElem_cons_zero, List.setIfInBounds_toArray, List.set_cons_zero, List.set_cons_succ]
                  refine wpAnyH_done (by kernel_rfl) ?_ _
                  go_wp2_with fail
                  go_meet
                  exact FINQ.out
              · skip
                have p1 : (W2.alloc (.cells #[.string tn, .slice d.a nb d.c, .int .i64 (sy : Int)] Ty.file)).drew.cell? ⟨g, 1, none⟩ = some (.slice A L.length c) := (BX.out.below HBQ1.out HG.out).cell 1
                go_simp
                refine hK.out _ _ hS (fun hS => ?_)
                clear hK K p1
                try simp only [Act.put, List.getElem_toArray, List.getElem_cons_succ, List.getElem_cons_zero, List.setIfInBounds_toArray, List.set_cons_zero, List.set_cons_succ]
                refine wpAnyH_take (i := 16) (v := ?_) rfl (by kernel_rfl) (by kernel_rfl) (by kernel_rfl) (fun _ _ _ h => h) (Or.inl ⟨by rfl, ?_⟩) hS ?_
                rotate_left
                · intro w hw
                  go_simp
                  try with_reducible rfl
                try simp only [Act.put, List.getElem_toArray, List.getElem_cons_succ, List.getElem_cons_zero, List.setIfInBounds_toArray, List.set_cons_zero, List.set_cons_succ]
                refine wpAnyH_ready (rs := [4]) (by kernel_rfl) (by simp) ?_
                refine (AllReadyH.cons rfl (fun K hK => ?_) AllReadyH.nil)
                have p1 : (W2.alloc (.cells #[.string tn, .slice d.a nb d.c, .int .i64 (sy : Int)] Ty.file)).drew.cell? ⟨g, 1, none⟩ = some (.slice A L.length c) := (BX.out.below HBQ1.out HG.out).cell 1
                go_simp
                refine hK.out _ _ hS (fun hS => ?_)
                clear hK K p1
                try simp only [Act.put, List.getElem_toArray, List.getElem_cons_succ, List.getElem_cons_zero, List.setIfInBounds_toArray, List.set_cons_zero, List.set_cons_succ]
                refine wpAnyH_take (i := 6) (v := ?_) rfl (by kernel_rfl) (by kernel_rfl) (by kernel_rfl) (fun _ _ _ h => h) (Or.inl ⟨by rfl, ?_⟩) hS ?_
                rotate_left
                · intro w hw
                  go_simp
                  try with_reducible rfl
                try simp only [Act.put, List.getElem_toArray, List.getElem_cons_succ, List.getElem_cons_zero, List.setIfInBounds_toArray, List.set_cons_zero, List.set_cons_succ]
                refine wpAnyH_ready (rs := [7]) (by kernel_rfl) (by simp) ?_
                refine (AllReadyH.cons rfl (fun K hK => ?_) AllReadyH.nil)
                refine held_append rfl _ _ 45 rfl rfl rfl HRQ7.out ?_
                refine hK.out _ _ (Lib.hid (below_keep (S := fun j => j = g) HBQ2.out)) (fun hS => ?_)
                clear hK K
                try simp only [Act.put, List.getElem_toArray, List.getElem_cons_succ, List.getElem_cons_zero, List.setIfInBounds_toArray, List.set_cons_zero, List.set_cons_succ]
                refine wpAnyH_ready (rs := [10]) (by kernel_rfl) (by simp) ?_
                refine (AllReadyH.cons rfl (fun K hK => ?_) AllReadyH.nil)
                refine held_append rfl _ _ 45 rfl rfl rfl HRQ11.out ?_
                refine hK.out _ _ (Lib.hid (below_keep (S := fun j => j = g) HBQ3.out)) (fun hS => ?_)
                clear hK K
                try simp only [Act.put, List.getElem_toArray, List.getElem_cons_succ, List.getElem_cons_zero, List.setIfInBounds_toArray, List.set_cons_zero, List.set_cons_succ]
                refine wpAnyH_ready (rs := [17]) (by kernel_rfl) (by simp) ?_
                refine (AllReadyH.cons rfl (fun K hK => ?_) AllReadyH.nil)
                refine held_append rfl _ _ 45 rfl rfl rfl HRQ18.out ?_
                refine hK.out _ _ (Lib.hid (below_keep (S := fun j => j = g) HBQ4.out)) (fun hS => ?_)
                clear hK K
                try simp only [Act.put, List.getElem_toArray, List.getElem_cons_succ, List.getElem_cons_zero, List.setIfInBounds_toArray, List.set_cons_zero, List.set_cons_succ]
                refine wpAnyH_take (i := 18) (v := ?_) rfl (by kernel_rfl) (by kernel_rfl) (by kernel_rfl) (fun _ _ _ h => h) (Or.inl ⟨by rfl, ?_⟩) hS ?_
                rotate_left
                · intro w hw
                  go_simp
                  try with_reducible rfl
                try simp only [Act.put, List.getElem_toArray, List.getElem_cons_succ, List.getElem_cons_zero, List.setIfInBounds_toArray, List.set_cons_zero, List.set_cons_succ]
                refine wpAnyH_take (i := 19) (v := ?_) rfl (by kernel_rfl) (by kernel_rfl) (by kernel_rfl) (fun _ _ _ h => h) (Or.inl ⟨by rfl, ?_⟩) hS ?_
                rotate_left
                · intro w hw
                  go_simp
                  try with_reducible rfl
                try simp only [Act.put, List.getElem_toArray, List.getElem_cons_succ, List.getElem_cons_zero, List.setIfInBounds_toArray, List.set_cons_zero, List.set_cons_succ]
                refine wpAnyH_ready (rs := [20]) (by kernel_rfl) (by simp) ?_
                refine (AllReadyH.cons rfl (fun K hK => ?_) AllReadyH.nil)
                have p1 := (BX.out.below HBQ4.out HG.out).cell 1
                have z1 := (BX.out.below HBQ4.out HG.out).free 1
                simp only [List.getElem?_cons_succ, List.getElem?_cons_zero] at p1
                go_simp
                refine hK.out _ _ (Lib.hid ((below_keep (S := fun j => j = g) HBQ4.out).setCell (p := ⟨g, 1, none⟩) (.inr rfl) _)) (fun hS => ?_)
                clear hK K p1 z1
                try simp only [Act.put, List.getElem_toArray, List.getElem_cons_succ, List.getElem_cons_zero, List.setIfInBounds_toArray, List.set_cons_zero, List.set_cons_succ]
                refine wpAnyH_done (by kernel_rfl) ?_ _
                go_wp2_with fail
                go_meet
                exact FINQ.out
            · skip
              have p1 : W2.cell? ⟨g, 1, none⟩ = some (.slice A L.length c) := (BX.out.below HB0.out HG.out).cell 1
              go_simp
              refine hK.out _ _ hS (fun hS => ?_)
              clear hK K p1
              try simp only [Act.put, List.getElem_toArray, List.getElem_cons_succ, List.getElem_cons_zero, List.setIfInBounds_toArray, List.set_cons_zero, List.set_cons_succ]
              refine wpAnyH_take (i := 16) (v := ?_) rfl (by kernel_rfl) (by kernel_rfl) (by kernel_rfl) (fun _ _ _ h => h) (Or.inl ⟨by rfl, ?_⟩) hS ?_
              rotate_left
              · intro w hw
                go_simp
                try with_reducible rfl
              try simp only [Act.put, List.getElem_toArray, List.getElem_cons_succ, List.getElem_cons_zero, List.setIfInBounds_toArray, List.set_cons_zero, List.set_cons_succ]
              refine wpAnyH_ready (rs := [4, 9]) (by kernel_rfl) (by simp) ?_
              refine (AllReadyH.cons rfl (fun K hK => ?_) (AllReadyH.cons rfl (fun K hK => ?_) AllReadyH.nil))
              · skip
                have p1 : W2.cell? ⟨g, 1, none⟩ = some (.slice A L.length c) := (BX.out.below HB0.out HG.out).cell 1
                go_simp
                refine hK.out _ _ hS (fun hS => ?_)
                clear hK K p1
                try simp only [Act.put, List.getElem_toArray, List.getElem_cons_succ, List.getElem_cons_zero, List.setIfInBounds_toArray, List.set_cons_zero, List.set_cons_succ]
                refine wpAnyH_take (i := 6) (v := ?_) rfl (by kernel_rfl) (by kernel_rfl) (by kernel_rfl) (fun _ _ _ h => h) (Or.inl ⟨by rfl, ?_⟩) hS ?_
                rotate_left
                · intro w hw
                  go_simp
                  try with_reducible rfl
                try simp only [Act.put, List.getElem_toArray, List.getElem_cons_succ, List.getElem_cons_zero, List.setIfInBounds_toArray, List.set_cons_zero, List.set_cons_succ]
                refine wpAnyH_ready (rs := [7, 9]) (by kernel_rfl) (by simp) ?_
                refine (AllReadyH.cons rfl (fun K hK => ?_) (AllReadyH.cons rfl (fun K hK => ?_) AllReadyH.nil))
                · skip
                  refine held_append rfl _ _ 45 rfl rfl rfl HRP7.out ?_
                  refine hK.out _ _ (Lib.hid (below_keep (S := fun j => j = g) HBP1.out)) (fun hS => ?_)
                  clear hK K
                  try simp only [Act.put, List.getElem_toArray, List.getElem_cons_succ, List.getElem_cons_zero, List.setIfInBounds_toArray, List.set_cons_zero, List.set_cons_succ]
                  refine wpAnyH_ready (rs := [9]) (by kernel_rfl) (by simp) ?_
                  refine (AllReadyH.cons rfl (fun K hK => ?_) AllReadyH.nil)
                  go_simp
                  refine hK.out _ _ (Lib.hid (below_keep (S := fun j => j = g) HBP2.out)) (fun hS => ?_)
                  clear hK K
                  try simp only [Act.put, List.getElem_toArray, List.getElem_cons_succ, List.getElem_cons_zero, List.setIfInBounds_toArray, List.set_cons_zero, List.set_cons_succ]
                  refine wpAnyH_ready (rs := [10]) (by kernel_rfl) (by simp) ?_
                  refine (AllReadyH.cons rfl (fun K hK => ?_) AllReadyH.nil)
                  refine held_append rfl _ _ 45 rfl rfl rfl HRP11.out ?_
                  refine hK.out _ _ (Lib.hid (below_keep (S := fun j => j = g) HBP3.out)) (fun hS => ?_)
                  clear hK K
                  try simp only [Act.put, List.getElem_toArray, List.getElem_cons_succ, List.getElem_cons_zero, List.setIfInBounds_toArray, List.set_cons_zero, List.set_cons_succ]
                  refine wpAnyH_ready (rs := [17]) (by kernel_rfl) (by simp) ?_
                  refine (AllReadyH.cons rfl (fun K hK => ?_) AllReadyH.nil)
                  refine held_append rfl _ _ 45 rfl rfl rfl HRP18.out ?_
                  refine hK.out _ _ (Lib.hid (below_keep (S := fun j => j = g) HBP4.out)) (fun hS => ?_)
                  clear hK K
                  try simp only [Act.put, List.getElem_toArray, List.getElem_cons_succ, List.getElem_cons_zero, List.setIfInBounds_toArray, List.set_cons_zero, List.set_cons_succ]
                  refine wpAnyH_take (i := 18) (v := ?_) rfl (by kernel_rfl) (by kernel_rfl) (by kernel_rfl) (fun _ _ _ h => h) (Or.inl ⟨by rfl, ?_⟩) hS ?_
                  rotate_left
                  · intro w hw
                    go_simp
                    try with_reducible rfl
                  try simp only [Act.put, List.getElem_toArray, List.getElem_cons_succ, List.getElem_cons_zero, List.setIfInBounds_toArray, List.set_cons_zero, List.set_cons_succ]
                  refine wpAnyH_take (i := 19) (v := ?_) rfl (by kernel_rfl) (by kernel_rfl) (by kernel_rfl) (fun _ _ _ h => h) (Or.inl ⟨by rfl, ?_⟩) hS ?_
                  rotate_left
                  · intro w hw
                    go_simp
                    try with_reducible rfl
                  try simp only [Act.put, List.getElem_toArray, List.getElem_cons_succ, List.getElem_cons_zero, List.setIfInBounds_toArray, List.set_cons_zero, List.set_cons_succ]
                  refine wpAnyH_ready (rs := [20]) (by kernel_rfl) (by simp) ?_
                  refine (AllReadyH.cons rfl (fun K hK => ?_) AllReadyH.nil)
                  have p1 := (BX.out.below HBP4.out HG.out).cell 1
                  have z1 := (BX.out.below HBP4.out HG.out).free 1
                  simp only [List.getElem?_cons_succ, List.getElem?_cons_zero] at p1
                  go_simp
                  refine hK.out _ _ (Lib.hid ((below_keep (S := fun j => j = g) HBP4.out).setCell (p := ⟨g, 1, none⟩) (.inr rfl) _)) (fun hS => ?_)
                  clear hK K p1 z1
                  try simp only [Act.put, List.getElem_toArray, List.getElem_cons_succ, List.getElem_cons_zero, List.setIfInBounds_toArray, List.set_cons_zero, List.set_cons_succ]
                  refine wpAnyH_done (by kernel_rfl) ?_ _
                  go_wp2_with fail
                  go_meet
                  exact FINP.out
                · skip
                  go_simp
                  refine hK.out _ _ (Lib.hid (below_keep (S := fun j => j = g) HBQ1.out)) (fun hS => ?_)
                  clear hK K
                  try simp only [Act.put, List.getElem_toArray, List.getElem_cons_succ, List.getElem_cons_zero, List.setIfInBounds_toArray, List.set_cons_zero, List.set_cons_succ]
                  refine wpAnyH_ready (rs := [7]) (by kernel_rfl) (by simp) ?_
                  refine (AllReadyH.cons rfl (fun K hK => ?_) AllReadyH.nil)
                  refine held_append rfl _ _ 45 rfl rfl rfl HRQ7.out ?_
                  refine hK.out _ _ (Lib.hid (below_keep (S := fun j => j = g) HBQ2.out)) (fun hS => ?_)
                  clear hK K
                  try simp only [Act.put, List.getElem_toArray, List.getElem_cons_succ, List.getElem_cons_zero, List.setIfInBounds_toArray, List.set_cons_zero, List.set_cons_succ]
                  refine wpAnyH_ready (rs := [10]) (by kernel_rfl) (by simp) ?_
                  refine (AllReadyH.cons rfl (fun K hK => ?_) AllReadyH.nil)
                  refine held_append rfl _ _ 45 rfl rfl rfl HRQ11.out ?_
                  refine hK.out _ _ (Lib.hid (below_keep (S := fun j => j = g) HBQ3.out)) (fun hS => ?_)
                  clear hK K
                  try simp only [Act.put, List.getElem_toArray, List.getElem_cons_succ, List.getElem_cons_zero, List.setIfInBounds_toArray, List.set_cons_zero, List.set_cons_succ]
                  refine wpAnyH_ready (rs := [17]) (by kernel_rfl) (by simp) ?_
                  refine (AllReadyH.cons rfl (fun K hK => ?_) AllReadyH.nil)
                  refine held_append rfl _ _ 45 rfl rfl rfl HRQ18.out ?_
                  refine hK.out _ _ (Lib.hid (below_keep (S := fun j => j = g) HBQ4.out)) (fun hS => ?_)
                  clear hK K
                  try simp only [Act.put, List.getElem_toArray, List.getElem_cons_succ, List.getElem_cons_zero, List.setIfInBounds_toArray, List.set_cons_zero, List.set_cons_succ]
                  refine wpAnyH_take (i := 18) (v := ?_) rfl (by kernel_rfl) (by kernel_rfl) (by kernel_rfl) (fun _ _ _ h => h) (Or.inl ⟨by rfl, ?_⟩) hS ?_
                  rotate_left
                  · intro w hw
                    go_simp
                    try with_reducible rfl
                  try simp only [Act.put, List.getElem_toArray, List.getElem_cons_succ, List.getElem_cons_zero, List.setIfInBounds_toArray, List.set_cons_zero, List.set_cons_succ]
                  refine wpAnyH_take (i := 19) (v := ?_) rfl (by kernel_rfl) (by kernel_rfl) (by kernel_rfl) (fun _ _ _ h => h) (Or.inl ⟨by rfl, ?_⟩) hS ?_
                  rotate_left
                  · intro w hw
                    go_simp
                    try with_reducible rfl
                  try simp only [Act.put, List.getElem_toArray, List.getElem_cons_succ, List.getElem_cons_zero, List.setIfInBounds_toArray, List.set_cons_zero, List.set_cons_succ]
                  refine wpAnyH_ready (rs := [20]) (by kernel_rfl) (by simp) ?_
                  refine (AllReadyH.cons rfl (fun K hK => ?_) AllReadyH.nil)
                  have p1 := (BX.out.below HBQ4.out HG.out).cell 1
                  have z1 := (BX.out.below HBQ4.out HG.out).free 1
                  simp only [List.getElem?_cons_succ, List.getElem?_cons_zero] at p1
                  go_simp
                  refine hK.out _ _ (Lib.hid ((below_keep (S := fun j => j = g) HBQ4.out).setCell (p := ⟨g, 1, none⟩) (.inr rfl) _)) (fun hS => ?_)
                  clear hK K p1 z1
                  try simp only [Act.put, List.getElem_toArray, List.getElem_cons_succ, List.getElem_cons_zero, List.setIfInBounds_toArray, List.set_cons_zero, List.set_cons_succ]
                  refine wpAnyH_done (by kernel_rfl) ?_ _
                  go_wp2_with fail
                  go_meet
                  exact FINQ.out
              · skip
                go_simp
                refine hK.out _ _ (Lib.hid (below_keep (S := fun j => j = g) HBQ1.out)) (fun hS => ?_)
                clear hK K
                try simp only [Act.put, List.getElem_toArray, List.getElem_cons_succ, List.getElem_cons_zero, List.setIfInBounds_toArray, List.set_cons_zero, List.set_cons_succ]
                refine wpAnyH_ready (rs := [4]) (by kernel_rfl) (by simp) ?_
                refine (AllReadyH.cons rfl (fun K hK => ?_) AllReadyH.nil)
                have p1 : (W2.alloc (.cells #[.string tn, .slice d.a nb d.c, .int .i64 (sy : Int)] Ty.file)).drew.cell? ⟨g, 1, none⟩ = some (.slice A L.length c) := (BX.out.below HBQ1.out HG.out).cell 1
                go_simp
                refine hK.out _ _ hS (fun hS => ?_)
                clear hK K p1
                try simp only [Act.put, List.getElem_toArray, List.getElem_cons_succ, List.getElem_cons_zero, List.setIfInBounds_toArray, List.set_cons_zero, List.set_cons_succ]
                refine wpAnyH_take (i := 6) (v := ?_) rfl (by kernel_rfl) (by kernel_rfl) (by kernel_rfl) (fun _ _ _ h => h) (Or.inl ⟨by rfl, ?_⟩) hS ?_
                rotate_left
                · intro w hw
                  go_simp
                  try with_reducible rfl
                try simp only [Act.put, List.getElem_toArray, List.getElem_cons_succ, List.getElem_cons_zero, List.setIfInBounds_toArray, List.set_cons_zero, List.set_cons_succ]
                refine wpAnyH_ready (rs := [7]) (by kernel_rfl) (by simp) ?_
                refine (AllReadyH.cons rfl (fun K hK => ?_) AllReadyH.nil)
                refine held_append rfl _ _ 45 rfl rfl rfl HRQ7.out ?_
                refine hK.out _ _ (Lib.hid (below_keep (S := fun j => j = g) HBQ2.out)) (fun hS => ?_)
                clear hK K
                try simp only [Act.put, List.getElem_toArray, List.getElem_cons_succ, List.getElem_cons_zero, List.setIfInBounds_toArray, List.set_cons_zero, List.set_cons_succ]
                refine wpAnyH_ready (rs := [10]) (by kernel_rfl) (by simp) ?_
                refine (AllReadyH.cons rfl (fun K hK => ?_) AllReadyH.nil)
                refine held_append rfl _ _ 45 rfl rfl rfl HRQ11.out ?_
                refine hK.out _ _ (Lib.hid (below_keep (S := fun j => j = g) HBQ3.out)) (fun hS => ?_)
                clear hK K
                try simp only [Act.put, List.getElem_toArray, List.getElem_cons_succ, List.getElem_cons_zero, List.setIfInBounds_toArray, List.set_cons_zero, List.set_cons_succ]
                refine wpAnyH_ready (rs := [17]) (by kernel_rfl) (by simp) ?_
                refine (AllReadyH.cons rfl (fun K hK => ?_) AllReadyH.nil)
                refine held_append rfl _ _ 45 rfl rfl rfl HRQ18.out ?_
                refine hK.out _ _ (Lib.hid (below_keep (S := fun j => j = g) HBQ4.out)) (fun hS => ?_)
                clear hK K
                try simp only [Act.put, List.getElem_toArray, List.getElem_cons_succ, List.getElem_cons_zero, List.setIfInBounds_toArray, List.set_cons_zero, List.set_cons_succ]
                refine wpAnyH_take (i := 18) (v := ?_) rfl (by kernel_rfl) (by kernel_rfl) (by kernel_rfl) (fun _ _ _ h => h) (Or.inl ⟨by rfl, ?_⟩) hS ?_
                rotate_left
                · intro w hw
                  go_simp
                  try with_reducible rfl
                try simp only [Act.put, List.getElem_toArray, List.getElem_cons_succ, List.getElem_cons_zero, List.setIfInBounds_toArray, List.set_cons_zero, List.set_cons_succ]
                refine wpAnyH_take (i := 19) (v := ?_) rfl (by kernel_rfl) (by kernel_rfl) (by kernel_rfl) (fun _ _ _ h => h) (Or.inl ⟨by rfl, ?_⟩) hS ?_
                rotate_left
                · intro w hw
                  go_simp
                  try with_reducible rfl
                try simp only [Act.put, List.getElem_toArray, List.getElem_cons_succ, List.getElem_cons_zero, List.setIfInBounds_toArray, List.set_cons_zero, List.set_cons_succ]
                refine wpAnyH_ready (rs := [20]) (by kernel_rfl) (by simp) ?_
                refine (AllReadyH.cons rfl (fun K hK => ?_) AllReadyH.nil)
                have p1 := (BX.out.below HBQ4.out HG.out).cell 1
                have z1 := (BX.out.below HBQ4.out HG.out).free 1
                simp only [List.getElem?_cons_succ, List.getElem?_cons_zero] at p1
                go_simp
                refine hK.out _ _ (Lib.hid ((below_keep (S := fun j => j = g) HBQ4.out).setCell (p := ⟨g, 1, none⟩) (.inr rfl) _)) (fun hS => ?_)
                clear hK K p1 z1
                try simp only [Act.put, List.getElem_toArray, List.getElem_cons_succ, List.getElem_cons_zero, List.setIfInBounds_toArray, List.set_cons_zero, List.set_cons_succ]
                refine wpAnyH_done (by kernel_rfl) ?_ _
                go_wp2_with fail
                go_meet
                exact FINQ.out
          case rest =>
          have HCUT := Lib.hid hcut
          clear hcut
          go_wp2_with fail
          go_ret
          rw [E.out]
          exact HCUT.out
    · have E : Hid (renameM m fr tn = (6, (hit m).2)) := Lib.hid (by
        have hb0 : bad m [fr, tn] = 6 := by
          unfold bad; rw [hh]
          cases h1 : nmB fr <;> cases h2 : nmB tn <;> simp [h1, h2] at hnm ⊢
        unfold renameM onFile
        rw [hb0, if_pos (by decide)])
      clear hh
      cases hnf : nmB fr
      · clear hnm
        go_wp2_with (go_at_call 43; refine (named_any _ _ (by first | exact hn1 | exact hn2)).mono ?_; rintro e w' ⟨rfl, rfl⟩)
        go_ret
        rw [E.out]
        exact rtold_same HL.out HK.out
      · have hnt : nmB tn = false := by
          cases h2 : nmB tn
          · rfl
          · exact absurd ⟨hnf, h2⟩ hnm
        clear hnm
        go_wp2_with (go_at_call 43; refine (named_any _ _ (by first | exact hn1 | exact hn2)).mono ?_; rintro e w' ⟨rfl, rfl⟩)
        go_ret
        rw [E.out]
        exact rtold_same HL.out HK.out
  · have E : Hid (renameM m fr tn = (11, (hit m).2)) := Lib.hid (by
      have hb0 : bad m [fr, tn] = 11 := by unfold bad; rw [hh]; rfl
      unfold renameM onFile
      rw [hb0, if_pos (by decide)])
    clear hh
    go_wp2_with fail
    go_ret
    rw [E.out]
    exact rtold_same HL.out HK.out
end
end Go.Proofs.Ytnbknihaefkllaa.Rk
