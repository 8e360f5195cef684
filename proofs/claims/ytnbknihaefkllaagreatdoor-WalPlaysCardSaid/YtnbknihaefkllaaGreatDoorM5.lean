/- What the laws of this seat are proved from, part 5 of 5: texts laid one behind the other. -/
import Derived.Test.YtnbknihaefkllaaGreatDoorM4
import Derived.Deep.DeepCutAuto
import Derived.Test.YtnbknihaefkllaaGreatDoorM3
import Derived.Deep.QuietTactic
import Derived.BigQuiet
import Derived.Test.YtnbknihaefkllaaGreatDoorM1
import Derived.Lib.SlBytesConst
import Derived.LaidMore
import Derived.Lay
import Derived.Stop.Joined
/- What Append of the document's own disk answers, of a file that is not there. -/
namespace Go.Proofs.YtnbknihaefkllaaGreatDoor.Rk
set_option linter.unusedVariables false
set_option linter.unusedSimpArgs false
open Go.RowKit Go.Maps Lift Ik Dk

theorem put_ins {f f' : FM} (h : f'.nm = f.nm) : ∀ {l : List FM}, (∀ x, x ∈ l → x.nm ≠ f.nm) → put1 (insM f l) f' = insM f' l
  | [], _ => by unfold insM put1; simp [h]
  | y :: r, hn => by
    have h1 : y.nm ≠ f.nm := hn y (by simp)
    have h2 : ∀ x, x ∈ r → x.nm ≠ f.nm := fun x hx => hn x (by simp [hx])
    have ih := put_ins h h2
    have hr : put1 r f' = r := by
      unfold put1
      conv => rhs; rw [← List.map_id r]
      refine List.map_congr_left fun x hx => ?_
      rw [if_neg (by rw [h]; exact h2 x hx)]
      rfl
    have hy : ¬ y.nm = f'.nm := by rw [h]; exact h1
    unfold insM
    rw [h]
    split
    · unfold put1 at hr ⊢
      rw [List.map_cons, List.map_cons, if_pos h.symm, if_neg hy, hr]
    · unfold put1 at ih ⊢
      rw [List.map_cons, if_neg hy, ih]
section
variable {w w' : World} {g : Nat} {S S' T : Nat → Prop} {rm : Int} {m : MS} {L : List D} {A F : Option Addr} {c cf : Nat}
set_option maxRecDepth 100000 in
set_option maxHeartbeats 6400000 in
theorem rappend_new (nm : ByteArray) (Ab : Option Addr) (cb : Nat) (bs : List Nat) (hn : nm.size ≤ 1000) (h : At w g S rm m) (hf : m.failed ≤ 1000000) (hia : isAt m.fs nm = false) (hb : LiesP w (fun k => ¬ S k ∧ k < w.heap.size) Ab (bs.map vb)) (hbl : bs.length ≤ 1099511627776) (hb8 : ∀ x, x ∈ bs → x < 256) :
    Calls Tryz.prog (8) #[.pointer (some ⟨g, 0, none⟩), .string nm, .slice Ab bs.length cb] w (RTold w g S rm (appendM m nm bs)) := by
  obtain ⟨L, A, F, c, cf, h⟩ := h
  have HD := Lib.hid (down_any h hf)
  have HT := Lib.hid h.told
  have HSO := Lib.hid h.sorted
  have HSG := Lib.hid h.sg
  have HB := Lib.hid hb
  have HB8 := Lib.hid hb8
  have HMN := Lib.hid h.many
  clear h hb hb8
  go_enter Tryz.func8, Tryz.ntmps8
  go_wp2_with fail
  refine HD.out.mono ?_
  rintro e W1 ⟨F1, cf1, rfl, hk1, hL1⟩
  have HK := Lib.hid hk1
  have HL := Lib.hid hL1
  clear hk1 hL1 HD
  cases hh : (hit m).1
  · cases hnm : nmB nm
    · have E : Hid (appendM m nm bs = (6, (hit m).2)) := Lib.hid (by
        have hb0 : bad m [nm] = 6 := by unfold bad; rw [hh]; simp [hnm]
        unfold appendM
        rw [hb0, if_pos (by decide)])
      clear hh
      go_wp2_with (go_at_call 27; refine (named_any nm _ hn).mono ?_; rintro e w' ⟨rfl, rfl⟩)
      go_ret
      rw [E.out]
      exact rtold_same HL.out HK.out
    · have HB0 : Hid (bad m [nm] = 0) := Lib.hid (by unfold bad; rw [hh]; simp [hnm])
      have hnm40 : nm.size ≤ 40 := by
        unfold nmB at hnm
        simp at hnm
        exact hnm.1.2
      have hat := at_any nm HL.out
      have hfs : (hit m).2.fs = m.fs := (hit_fs m).1
      have hrm2 : (hit m).2.room = m.room := (hit_fs m).2
      rw [hfs, hia] at hat
      have HAT := Lib.hid hat
      have HG0 := Lib.hid ((idx_get (nm := nm) HSO.out).2 hia)
      have HNO := Lib.hid (not_at HSO.out hia)
      have HFS2 := Lib.hid hfs
      have HRM2 := Lib.hid hrm2
      have HLE := Lib.hid (idx_le m.fs nm)
      have HML : Hid (m.fs.length = L.length) := Lib.hid (by rw [HT.out, List.length_map])
      obtain ⟨i, hi⟩ : ∃ i, i = idx m.fs nm := ⟨_, rfl⟩
      have HI := Lib.hid hi
      have hile : i ≤ L.length := by rw [hi, ← HML.out]; exact HLE.out
      rw [← hi] at HAT
      clear hh hat hfs hrm2 hi hia
      go_wp2_with (go_at_call 27; refine (named_any nm _ hn).mono ?_; rintro e w' ⟨rfl, rfl⟩)
      refine HAT.out.mono ?_
      rintro e W2 ⟨rfl, hb2⟩
      have hL2 := HL.out.keep (T := fun _ => False) (below_keep hb2) fun _ _ => id
      have HK2 : Hid (Keep (· = g) w W2) := Lib.hid (HK.out.trans (T := fun _ => False) (below_keep hb2) fun _ _ h => h.elim)
      have HL2 := Lib.hid hL2
      have hus := hL2.used_le
      have hrw := i64_of hL2.rwf
      have hroom := hL2.room
      obtain ⟨hcap, hcm⟩ := hL2.cap
      obtain ⟨p0, p1, _⟩ := hL2.facts
      have HU := Lib.hid (rused_any hL2)
      have HLS : Hid (LiesP W2 (fun k => ¬ S k ∧ k < W2.heap.size) Ab (bs.map vb)) := Lib.hid (HB.out.later (fun k hk => HK2.out.block k hk.2 fun e => hk.1 (by rw [e]; exact HSG.out)) fun k hk => ⟨hk.1, Nat.lt_of_lt_of_le hk.2 HK2.out.size⟩)
      obtain ⟨U, hU⟩ : ∃ U, U = used (hit m).2.fs := ⟨_, rfl⟩
      rw [← hU] at HU hus
      have HUU := Lib.hid hU
      have HP := Lib.hid p1
      have HR : Hid (m.room = rm.toNat) := Lib.hid (by rw [← HRM2.out]; exact hroom)
      have HM : Hid (lenOf (Dk.get m.fs nm) = 0) := Lib.hid (by rw [HG0.out]; rfl)
      have HUM : Hid (U = used m.fs) := Lib.hid (by rw [hU, HFS2.out])
      have hmany := HMN.out
      clear hb2 hL2 hroom hU HAT
      by_cases k1 : 16777216 < bs.length
      · have d1 : decide ((16777216 : Int) < (bs.length : Int)) = true := by simp; omega
        have E : Hid (appendM m nm bs = (3, (hit m).2)) := Lib.hid (by
          unfold appendM
          rw [if_neg (by have := HB0.out; omega), if_pos (.inl (by rw [HM.out]; omega))])
        clear k1
        go_wp2_with fail
        go_ret
        rw [E.out]
        exact rtold_same HL2.out HK2.out
      · have d1 : decide ((16777216 : Int) < (bs.length : Int)) = false := by simp; omega
        by_cases k2 : 1000 ≤ L.length
        · have d2 : decide ((1000 : Int) ≤ (L.length : Int)) = true := by simp; omega
          have E : Hid (appendM m nm bs = (3, (hit m).2)) := Lib.hid (by
            unfold appendM
            rw [if_neg (by have := HB0.out; omega), if_pos (.inr ⟨by rw [HG0.out]; rfl, by rw [HML.out]; exact k2⟩)])
          clear k1 k2
          go_wp2_with fail
          go_ret
          rw [E.out]
          exact rtold_same HL2.out HK2.out
        · have d2 : decide ((1000 : Int) ≤ (L.length : Int)) = false := by simp; omega
          have E0 : Hid (appendM m nm bs = if m.room < used m.fs + bs.length then (7, (hit m).2) else (0, { (hit m).2 with fs := insM ⟨nm, bs, 0⟩ m.fs })) := Lib.hid (by
            have hg := HG0.out
            unfold appendM
            have hno : ¬ (16777216 < lenOf (Dk.get m.fs nm) + bs.length ∨ (Dk.get m.fs nm).isNone = true ∧ 1000 ≤ m.fs.length) := fun h1 => by
              rw [HM.out, HML.out] at h1
              rcases h1 with h1 | h1
              · omega
              · exact k2 h1.2
            rw [if_neg (by have := HB0.out; omega), if_neg hno, hg]
            )
          have HLT := Lib.hid (show L.length < 1000 by omega)
          have HBL := Lib.hid (show bs.length ≤ 16777216 by omega)
          clear k1 k2
          go_upto_if 54 with fail
          go_cut [10] from 49 (fun v wx => v = .int .i64 (m.room : Int) ∧ wx = W2)
          case first =>
            by_cases kr : rm < 0
            · have d3 : decide (rm < 0) = true := decide_eq_true kr
              have hm0 : (m.room : Int) = 0 := by have := HR.out; omega
              go_wp2_with fail
              go_meet
              exact ⟨by rw [hm0], rfl⟩
            · have d3 : decide (rm < 0) = false := decide_eq_false kr
              have hm0 : (m.room : Int) = rm := by have := HR.out; omega
              go_wp2_with fail
              go_meet
              exact ⟨by rw [hm0], rfl⟩
          case rest =>
          obtain ⟨rfl, h0⟩ := hcut
          have h1 := h0.symm
          clear h0
          subst h1
          have hR9 : m.room ≤ 9223372036854775807 := by have := HR.out; omega
          by_cases k3 : m.room < U + bs.length
          · have d4 : decide ((m.room : Int) < (U : Int) + (bs.length : Int)) = true := by simp; omega
            have E : Hid (appendM m nm bs = (7, (hit m).2)) := Lib.hid (by rw [E0.out, ← HUM.out, if_pos k3])
            clear k3
            go_wp2_with (go_at_call 16; refine HU.out.mono ?_; rintro e w' ⟨rfl, rfl⟩)
            go_ret
            rw [E.out]
            exact rtold_same HL2.out HK2.out
          · have d4 : decide ((m.room : Int) < (U : Int) + (bs.length : Int)) = false := by simp; omega
            have E : Hid (appendM m nm bs = (0, { (hit m).2 with fs := insM ⟨nm, bs, 0⟩ m.fs })) := Lib.hid (by rw [E0.out, ← HUM.out, if_neg k3])
            have hlies : Lies W2 W2.heap.size A (cellsL L) := Lies.of_own HL2.out.own
            obtain ⟨A2, hA2, hs2⟩ := drop_at3 A L.length c i hile hcap hcm
            have hs1 := upto_at3 A L.length c i (by omega) hcap hcm
            obtain ⟨dN, hdN⟩ : ∃ dN, dN = (⟨nm, none, 0, [], 0⟩ : D) := ⟨_, rfl⟩
            have HNEW : Hid (∀ (W4 : World) (A4 : Option Addr) (c4 : Nat), Below W2.heap.size W2 W4 → W4.ownsRow W2.heap.size Ty.file 3 (.slice A4 ((L.take i ++ [dN]) ++ L.drop i).length c4) ((L.take i ++ [dN]) ++ L.drop i).length (cellsL ((L.take i ++ [dN]) ++ L.drop i)) →
                ∃ (A3 : Option Addr) (c3 : Nat), Lay (W4.setCell ⟨g, 1, none⟩ (.slice A4 ((L.take i ++ [dN]) ++ L.drop i).length c4)) g (Gr S W2 (W4.setCell ⟨g, 1, none⟩ (.slice A4 ((L.take i ++ [dN]) ++ L.drop i).length c4))) rm { (hit m).2 with fs := insM ⟨nm, [], 0⟩ m.fs } (L.take i ++ dN :: L.drop i) A3 F1 c3 cf1 ∧ Keep (· = g) W2 (W4.setCell ⟨g, 1, none⟩ (.slice A4 ((L.take i ++ [dN]) ++ L.drop i).length c4))) := Lib.hid (by
              intro W4 A4 c4 hb4 ho4
              have hg := HL2.out.lt g HL2.out.sg
              have hk : Keep (· = g) W2 (W4.setCell ⟨g, 1, none⟩ (.slice A4 ((L.take i ++ [dN]) ++ L.drop i).length c4)) := (below_keep (S := fun j => j = g) hb4).setCell (p := ⟨g, 1, none⟩) (.inr rfl) _
              have hfr := HL2.out.fresh hk ((HL2.out.box.below hb4 hg).set 1 _) (own_keep ho4 ((Keep.refl (fun j => j = g) W4).setCell (p := ⟨g, 1, none⟩) (.inr rfl) _) fun k hk1 e => by
                have h1 := (ho4.lt k hk1).1
                omega) (fun d hd => by
                rcases List.mem_append.1 hd with h1 | h1
                · rcases List.mem_append.1 h1 with h1 | h1
                  · exact HL2.out.ok d (List.mem_of_mem_take h1)
                  · simp at h1
                    subst h1
                    rw [hdN]
                    exact ⟨.inl rfl, Nat.le_refl _, (show 0 ≤ maxLen by decide), by simp, by simp, Nat.le_refl _, hnm40⟩
                · exact HL2.out.ok d (List.mem_of_mem_drop h1)) (by rw [List.length_append, List.length_append, List.length_take, List.length_drop, List.length_singleton]; have := HLT.out; omega) (by
                rw [List.append_assoc, List.singleton_append, HI.out, show nm = dN.nm by rw [hdN], ins_told (d := dN) HT.out HSO.out (by rw [hdN]; exact HNO.out)]
                rw [hdN]
                exact ins_sorted HSO.out HNO.out)
              have ht : ((L.take i ++ [dN]) ++ L.drop i).map D.m = insM ⟨nm, [], 0⟩ m.fs := by
                rw [List.append_assoc, List.singleton_append, HI.out]
                have h := ins_told (d := dN) HT.out HSO.out (by rw [hdN]; exact HNO.out)
                rw [show dN.nm = nm by rw [hdN]] at h
                rw [h, hdN]
                rfl
              rw [ht, List.append_assoc, List.singleton_append] at hfr
              rw [List.append_assoc, List.singleton_append] at hk ⊢
              exact ⟨_, _, hfr, hk⟩)
            have hdc : cellsL [dN] = [.string nm, .slice none 0 0, .int .i64 0] := by rw [hdN]; rfl
            obtain ⟨vP, WP1, hrP7, hoP1, hbP1, _⟩ := append_files (w := W2.drew) (base := W2.heap.size) (v := .slice none 0 0) (L := []) (M := L.take i) (c := c) (World.ownsRow_nil _ _ _ _) ((hlies.front (cellsL_take L i)).below ((Below.refl _ _).drew)) (k := i) (by rw [List.length_take]; omega) (by simp; omega) (Nat.le_refl _)
            rw [List.nil_append] at hoP1
            obtain ⟨AP, cP, rfl, _, _, _⟩ := own_parts hoP1
            have hBP1 : Below W2.heap.size W2 WP1 := (Below.refl W2.heap.size W2).drew.trans hbP1
            have hBP2 : Below W2.heap.size W2 (WP1.alloc (.cells #[.string nm, .slice none 0 0, .int .i64 0] Ty.file)) := hBP1.trans ((Joins.below_alloc1 WP1 (.cells #[.string nm, .slice none 0 0, .int .i64 0] Ty.file)).mono hBP1.size)
            have hlP : Lies (WP1.alloc (.cells #[.string nm, .slice none 0 0, .int .i64 0] Ty.file)) (WP1.heap.size + 1) (some ⟨WP1.heap.size, 0, none⟩) (cellsL [dN]) := by rw [hdc]; exact lies_block (cs := #[.string nm, .slice none 0 0, .int .i64 0]) (heap_alloc_new WP1 _) (Nat.lt_succ_self _)
            obtain ⟨vP3, WP3, hrP11, hoP3, hbP3, _⟩ := append_files (w := WP1.alloc (.cells #[.string nm, .slice none 0 0, .int .i64 0] Ty.file)) (base := W2.heap.size) (M := [dN]) (c := 1) (k := 1) (own_later hoP1 (Joins.below_alloc1 WP1 (.cells #[.string nm, .slice none 0 0, .int .i64 0] Ty.file))) hlP rfl (by rw [List.length_take]; simp; omega) hBP2.size
            obtain ⟨AP3, cP3, rfl, _, _, _⟩ := own_parts hoP3
            have hBP3 := hBP2.trans hbP3
            obtain ⟨vP4, WP4, hrP18, hoP4, hbP4, _⟩ := append_files (w := WP3) (base := W2.heap.size) (M := L.drop i) (c := c - i) (k := L.length - i) hoP3 ((lies_drop hlies hA2).below hBP3) (by rw [List.length_drop]) (by simp; omega) hBP3.size
            obtain ⟨AP4, cP4, rfl, _, _, _⟩ := own_parts hoP4
            have hBP4 := hBP3.trans hbP4
            have hBQ1 : Below W2.heap.size W2 (W2.alloc (.cells #[.string nm, .slice none 0 0, .int .i64 0] Ty.file)).drew := (Joins.below_alloc1 W2 (.cells #[.string nm, .slice none 0 0, .int .i64 0] Ty.file)).drew
            have hzQ : (W2.alloc (.cells #[.string nm, .slice none 0 0, .int .i64 0] Ty.file)).drew.heap.size = W2.heap.size + 1 := by show (W2.alloc (.cells #[.string nm, .slice none 0 0, .int .i64 0] Ty.file)).heap.size = _; simp
            have hlQ : Lies (W2.alloc (.cells #[.string nm, .slice none 0 0, .int .i64 0] Ty.file)).drew (W2.heap.size + 1) (some ⟨W2.heap.size, 0, none⟩) (cellsL [dN]) := by rw [hdc]; exact lies_block (cs := #[.string nm, .slice none 0 0, .int .i64 0]) (heap_alloc_new W2 _) (Nat.lt_succ_self _)
            obtain ⟨vQ, WQ2, hrQ7, hoQ2, hbQ2, _⟩ := append_files (w := (W2.alloc (.cells #[.string nm, .slice none 0 0, .int .i64 0] Ty.file)).drew) (base := W2.heap.size + 1) (v := .slice none 0 0) (L := []) (M := L.take i) (c := c) (World.ownsRow_nil _ _ _ _) ((hlies.front (cellsL_take L i)).below hBQ1) (k := i) (by rw [List.length_take]; omega) (by simp; omega) (Nat.le_of_eq hzQ.symm)
            rw [List.nil_append] at hoQ2
            obtain ⟨AQ, cQ, rfl, _, _, _⟩ := own_parts hoQ2
            have hBQ2 : Below W2.heap.size W2 WQ2 := hBQ1.trans (hbQ2.mono (Nat.le_succ _))
            obtain ⟨vQ3, WQ3, hrQ11, hoQ3, hbQ3, _⟩ := append_files (w := WQ2) (base := W2.heap.size) (M := [dN]) (c := 1) (k := 1) (Joins.ownsRow_le hoQ2 (Nat.le_succ _)) (hlQ.below hbQ2) rfl (by rw [List.length_take]; simp; omega) hBQ2.size
            obtain ⟨AQ3, cQ3, rfl, _, _, _⟩ := own_parts hoQ3
            have hBQ3 := hBQ2.trans hbQ3
            obtain ⟨vQ4, WQ4, hrQ18, hoQ4, hbQ4, _⟩ := append_files (w := WQ3) (base := W2.heap.size) (M := L.drop i) (c := c - i) (k := L.length - i) hoQ3 ((lies_drop hlies hA2).below hBQ3) (by rw [List.length_drop]) (by simp; omega) hBQ3.size
            obtain ⟨AQ4, cQ4, rfl, _, _, _⟩ := own_parts hoQ4
            have hBQ4 := hBQ3.trans hbQ4
            have FINP := Lib.hid (HNEW.out WP4 AP4 cP4 hBP4 hoP4)
            have FINQ := Lib.hid (HNEW.out WQ4 AQ4 cQ4 hBQ4 hoQ4)
            obtain ⟨n1, hn1⟩ : ∃ n1, n1 = (L.take i).length := ⟨_, rfl⟩
            obtain ⟨n2, hn2⟩ : ∃ n2, n2 = (L.take i ++ [dN]).length := ⟨_, rfl⟩
            obtain ⟨n3, hn3⟩ : ∃ n3, n3 = ((L.take i ++ [dN]) ++ L.drop i).length := ⟨_, rfl⟩
            rw [← hn3] at hrP18 hrQ18 FINP FINQ
            rw [← hn2] at hrP11 hrP18 hrQ11 hrQ18
            rw [← hn1] at hrP7 hrP11 hrQ7 hrQ11
            have HRP7 := Lib.hid hrP7
            have HRP11 := Lib.hid hrP11
            have HRP18 := Lib.hid hrP18
            have HRQ7 := Lib.hid hrQ7
            have HRQ11 := Lib.hid hrQ11
            have HRQ18 := Lib.hid hrQ18
            have HB0 : Hid (Below W2.heap.size W2 W2) := Lib.hid (Below.refl _ _)
            have HBP1 := Lib.hid hBP1
            have HBP2 := Lib.hid hBP2
            have HBP3 := Lib.hid hBP3
            have HBP4 := Lib.hid hBP4
            have HBQ1 := Lib.hid hBQ1
            have HBQ2 := Lib.hid hBQ2
            have HBQ3 := Lib.hid hBQ3
            have HBQ4 := Lib.hid hBQ4
            have BX := Lib.hid HL2.out.box
            have HG := Lib.hid (HL2.out.lt g HL2.out.sg)
            clear k3 hlies hA2 HNEW hdc hrP7 hoP1 hbP1 hBP1 hBP2 hlP hrP11 hoP3 hbP3 hBP3 hrP18 hoP4 hbP4 hBP4 hBQ1 hzQ hlQ hrQ7 hoQ2 hbQ2 hBQ2 hrQ11 hoQ3 hbQ3 hBQ3 hrQ18 hoQ4 hbQ4 hBQ4 hn1 hn2 hn3
            go_wp2_with (first | (go_at_call 16; refine HU.out.mono ?_; rintro e w' ⟨rfl, rfl⟩) | fail)
            go_cut [] from 64 (fun wx => ∃ (A3 : Option Addr) (c3 : Nat), Lay wx g (Gr S W2 wx) rm { (hit m).2 with fs := insM ⟨nm, [], 0⟩ m.fs } (L.take i ++ dN :: L.drop i) A3 F1 c3 cf1 ∧ Keep (· = g) W2 wx)
            case first =>
              refine wp_region_held_drew (S := fun w' => Hid (Keep (fun j => j = g) W2 w')) (by kernel_rfl) (Lib.hid (Keep.refl _ _).drew) (fun hS => ?_)
              refine wpAnyH_take (i := 0) (v := ?_) rfl (by kernel_rfl) (by kernel_rfl) (by kernel_rfl) (fun _ _ _ h => h) (Or.inl ⟨by rfl, ?_⟩) hS ?_
              rotate_left
              · intro w hw
                go_simp
                try with_reducible rfl
              try simp only [Act.put, List.getElem_toArray, List.getElem_cons_succ, List.getElem_cons_zero, List.setIfInBounds_toArray, List.set_cons_zero, List.set_cons_succ]
              refine wpAnyH_take (i := 1) (v := ?_) rfl (by kernel_rfl) (by kernel_rfl) (by kernel_rfl) (fun _ _ _ h => h) (Or.inl ⟨by rfl, ?_⟩) hS ?_
              rotate_left
              · intro w hw
                go_simp
                try with_reducible rfl
              try simp only [Act.put, List.getElem_toArray, List.getElem_cons_succ, List.getElem_cons_zero, List.setIfInBounds_toArray, List.set_cons_zero, List.set_cons_succ]
              refine wpAnyH_take (i := 2) (v := ?_) rfl (by kernel_rfl) (by kernel_rfl) (by kernel_rfl) (fun _ _ _ h => h) (Or.inl ⟨by rfl, ?_⟩) hS ?_
              rotate_left
              · intro w hw
                go_simp
                try with_reducible rfl
              try simp only [Act.put, List.getElem_toArray, List.getElem_cons_succ, List.getElem_cons_zero, List.setIfInBounds_toArray, List.set_cons_zero, List.set_cons_succ]
              refine wpAnyH_take (i := 3) (v := ?_) rfl (by kernel_rfl) (by kernel_rfl) (by kernel_rfl) (fun _ _ _ h => h) (Or.inl ⟨by rfl, ?_⟩) hS ?_
              rotate_left
              · intro w hw
                go_simp
                try with_reducible rfl
              try simp only [Act.put, List.getElem_toArray, List.getElem_cons_succ, List.getElem_cons_zero, List.setIfInBounds_toArray, List.set_cons_zero, List.set_cons_succ]
              refine wpAnyH_take (i := 5) (v := ?_) rfl (by kernel_rfl) (by kernel_rfl) (by kernel_rfl) (fun _ _ _ h => h) (Or.inl ⟨by rfl, ?_⟩) hS ?_
              rotate_left
              · intro w hw
                go_simp
                try with_reducible rfl
              try simp only [Act.put, List.getElem_toArray, List.getElem_cons_succ, List.getElem_cons_zero, List.setIfInBounds_toArray, List.set_cons_zero, List.set_cons_succ]
              refine wpAnyH_take (i := 8) (v := ?_) rfl (by kernel_rfl) (by kernel_rfl) (by kernel_rfl) (fun _ _ _ h => h) (Or.inl ⟨by rfl, ?_⟩) hS ?_
              rotate_left
              · intro w hw
                go_simp
                try with_reducible rfl
              try simp only [Act.put, List.getElem_toArray, List.getElem_cons_succ, List.getElem_cons_zero, List.setIfInBounds_toArray, List.set_cons_zero, List.set_cons_succ]
              refine wpAnyH_take (i := 9) (v := ?_) rfl (by kernel_rfl) (by kernel_rfl) (by kernel_rfl) (fun _ _ _ h => h) (Or.inl ⟨by rfl, ?_⟩) hS ?_
              rotate_left
              · intro w hw
                go_simp
                try with_reducible rfl
              try simp only [Act.put, List.getElem_toArray, List.getElem_cons_succ, List.getElem_cons_zero, List.setIfInBounds_toArray, List.set_cons_zero, List.set_cons_succ]
              refine wpAnyH_take (i := 12) (v := ?_) rfl (by kernel_rfl) (by kernel_rfl) (by kernel_rfl) (fun _ _ _ h => h) (Or.inl ⟨by rfl, ?_⟩) hS ?_
              rotate_left
              · intro w hw
                go_simp
                try with_reducible rfl
              try simp only [Act.put, List.getElem_toArray, List.getElem_cons_succ, List.getElem_cons_zero, List.setIfInBounds_toArray, List.set_cons_zero, List.set_cons_succ]
              refine wpAnyH_take (i := 13) (v := ?_) rfl (by kernel_rfl) (by kernel_rfl) (by kernel_rfl) (fun _ _ _ h => h) (Or.inl ⟨by rfl, ?_⟩) hS ?_
              rotate_left
              · intro w hw
                go_simp
                try with_reducible rfl
              try simp only [Act.put, List.getElem_toArray, List.getElem_cons_succ, List.getElem_cons_zero, List.setIfInBounds_toArray, List.set_cons_zero, List.set_cons_succ]
              refine wpAnyH_take (i := 14) (v := ?_) rfl (by kernel_rfl) (by kernel_rfl) (by kernel_rfl) (fun _ _ _ h => h) (Or.inl ⟨by rfl, ?_⟩) hS ?_
              rotate_left
              · intro w hw
                go_simp
                try with_reducible rfl
              try simp only [Act.put, List.getElem_toArray, List.getElem_cons_succ, List.getElem_cons_zero, List.setIfInBounds_toArray, List.set_cons_zero, List.set_cons_succ]
              refine wpAnyH_take (i := 16) (v := ?_) rfl (by kernel_rfl) (by kernel_rfl) (by kernel_rfl) (fun _ _ _ h => h) (Or.inl ⟨by rfl, ?_⟩) hS ?_
              rotate_left
              · intro w hw
                go_simp
                try with_reducible rfl
              try simp only [Act.put, List.getElem_toArray, List.getElem_cons_succ, List.getElem_cons_zero, List.setIfInBounds_toArray, List.set_cons_zero, List.set_cons_succ]
              refine wpAnyH_ready (rs := [4, 10, 15]) (by kernel_rfl) (by simp) ?_
              refine (AllReadyH.cons rfl (fun K hK => ?_) (AllReadyH.cons rfl (fun K hK => ?_) (AllReadyH.cons rfl (fun K hK => ?_) AllReadyH.nil)))
              · skip
                have p1 : W2.cell? ⟨g, 1, none⟩ = some (.slice A L.length c) := (BX.out.below HB0.out HG.out).cell 1
                go_simp
                refine hK.out _ _ hS (fun hS => ?_)
                clear hK K p1
                try simp only [Act.put, List.getElem_toArray, List.getElem_cons_succ, List.getElem_cons_zero, List.setIfInBounds_toArray, List.set_cons_zero, List.set_cons_succ]
                refine wpAnyH_take (i := 6) (v := ?_) rfl (by kernel_rfl) (by kernel_rfl) (by kernel_rfl) (fun _ _ _ h => h) (Or.inl ⟨by rfl, ?_⟩) hS ?_
                rotate_left
                · intro w hw
                  go_simp
                  try with_reducible rfl
                try simp only [Act.put, List.getElem_toArray, List.getElem_cons_succ, List.getElem_cons_zero, List.setIfInBounds_toArray, List.set_cons_zero, List.set_cons_succ]
                refine wpAnyH_ready (rs := [7, 10, 15]) (by kernel_rfl) (by simp) ?_
                refine (AllReadyH.cons rfl (fun K hK => ?_) (AllReadyH.cons rfl (fun K hK => ?_) (AllReadyH.cons rfl (fun K hK => ?_) AllReadyH.nil)))
                · skip
                  refine held_append rfl _ _ 55 rfl rfl rfl HRP7.out ?_
                  refine hK.out _ _ (Lib.hid (below_keep (S := fun j => j = g) HBP1.out)) (fun hS => ?_)
                  clear hK K
                  try simp only [Act.put, List.getElem_toArray, List.getElem_cons_succ, List.getElem_cons_zero, List.setIfInBounds_toArray, List.set_cons_zero, List.set_cons_succ]
                  refine wpAnyH_ready (rs := [10, 15]) (by kernel_rfl) (by simp) ?_
                  refine (AllReadyH.cons rfl (fun K hK => ?_) (AllReadyH.cons rfl (fun K hK => ?_) AllReadyH.nil))
                  · skip
                    go_simp
                    refine hK.out _ _ (Lib.hid (below_keep (S := fun j => j = g) HBP2.out)) (fun hS => ?_)
                    clear hK K
                    try simp only [Act.put, List.getElem_toArray, List.getElem_cons_succ, List.getElem_cons_zero, List.setIfInBounds_toArray, List.set_cons_zero, List.set_cons_succ]
                    refine wpAnyH_ready (rs := [11, 15]) (by kernel_rfl) (by simp) ?_
                    refine (AllReadyH.cons rfl (fun K hK => ?_) (AllReadyH.cons rfl (fun K hK => ?_) AllReadyH.nil))
                    · skip
                      refine held_append rfl _ _ 55 rfl rfl rfl HRP11.out ?_
                      refine hK.out _ _ (Lib.hid (below_keep (S := fun j => j = g) HBP3.out)) (fun hS => ?_)
                      clear hK K
                      try simp only [Act.put, List.getElem_toArray, List.getElem_cons_succ, List.getElem_cons_zero, List.setIfInBounds_toArray, List.set_cons_zero, List.set_cons_succ]
                      refine wpAnyH_ready (rs := [15]) (by kernel_rfl) (by simp) ?_
                      refine (AllReadyH.cons rfl (fun K hK => ?_) AllReadyH.nil)
                      have p1 : WP3.cell? ⟨g, 1, none⟩ = some (.slice A L.length c) := (BX.out.below HBP3.out HG.out).cell 1
                      go_simp
                      refine hK.out _ _ hS (fun hS => ?_)
                      clear hK K p1
                      try simp only [Act.put, List.getElem_toArray, List.getElem_cons_succ, List.getElem_cons_zero, List.setIfInBounds_toArray, List.set_cons_zero, List.set_cons_succ]
                      refine wpAnyH_take (i := 17) (v := ?_) rfl (by kernel_rfl) (by kernel_rfl) (by kernel_rfl) (fun _ _ _ h => h) (Or.inl ⟨by rfl, ?_⟩) hS ?_
                      rotate_left
                      · intro w hw
                        go_simp
                        try with_reducible rfl
                      try simp only [Act.put, List.getElem_toArray, List.getElem_cons_succ, List.getElem_cons_zero, List.setIfInBounds_toArray, List.set_cons_zero, List.set_cons_succ]
                      refine wpAnyH_ready (rs := [18]) (by kernel_rfl) (by simp) ?_
                      refine (AllReadyH.cons rfl (fun K hK => ?_) AllReadyH.nil)
                      refine held_append rfl _ _ 55 rfl rfl rfl HRP18.out ?_
                      refine hK.out _ _ (Lib.hid (below_keep (S := fun j => j = g) HBP4.out)) (fun hS => ?_)
                      clear hK K
                      try simp only [Act.put, List.getElem_toArray, List.getElem_cons_succ, List.getElem_cons_zero, List.setIfInBounds_toArray, List.set_cons_zero, List.set_cons_succ]
                      refine wpAnyH_take (i := 19) (v := ?_) rfl (by kernel_rfl) (by kernel_rfl) (by kernel_rfl) (fun _ _ _ h => h) (Or.inl ⟨by rfl, ?_⟩) hS ?_
                      rotate_left
                      · intro w hw
                        go_simp
                        try with_reducible rfl
                      try simp only [Act.put, List.getElem_toArray, List.getElem_cons_succ, List.getElem_cons_zero, List.setIfInBounds_toArray, List.set_cons_zero, List.set_cons_succ]
                      refine wpAnyH_take (i := 20) (v := ?_) rfl (by kernel_rfl) (by kernel_rfl) (by kernel_rfl) (fun _ _ _ h => h) (Or.inl ⟨by rfl, ?_⟩) hS ?_
                      rotate_left
                      · intro w hw
                        go_simp
                        try with_reducible rfl
                      try simp only [Act.put, List.getElem_toArray, List.getElem_cons_succ, List.getElem_cons_zero, List.setIfInBounds_toArray, List.set_cons_zero, List.set_cons_succ]
                      refine wpAnyH_ready (rs := [21]) (by kernel_rfl) (by simp) ?_
                      refine (AllReadyH.cons rfl (fun K hK => ?_) AllReadyH.nil)
                      have p1 := (BX.out.below HBP4.out HG.out).cell 1
                      have z1 := (BX.out.below HBP4.out HG.out).free 1
                      simp only [List.getElem?_cons_succ, List.getElem?_cons_zero] at p1
                      go_simp
                      refine hK.out _ _ (Lib.hid ((below_keep (S := fun j => j = g) HBP4.out).setCell (p := ⟨g, 1, none⟩) (.inr rfl) _)) (fun hS => ?_)
                      clear hK K p1 z1
                      try simp only [Act.put, List.getElem_toArray, List.getElem_cons_succ, List.getElem_cons_zero, List.setIfInBounds_toArray, List.set_cons_zero, List.set_cons_succ]
                      refine wpAnyH_done (by kernel_rfl) ?_ _
                      go_wp2_with fail
                      go_meet
                      exact FINP.out
                    · skip
                      have p1 : (WP1.alloc (.cells #[.string nm, .slice none 0 0, .int .i64 0] Ty.file)).cell? ⟨g, 1, none⟩ = some (.slice A L.length c) := (BX.out.below HBP2.out HG.out).cell 1
                      go_simp
                      refine hK.out _ _ hS (fun hS => ?_)
                      clear hK K p1
                      try simp only [Act.put, List.getElem_toArray, List.getElem_cons_succ, List.getElem_cons_zero, List.setIfInBounds_toArray, List.set_cons_zero, List.set_cons_succ]
                      refine wpAnyH_take (i := 17) (v := ?_) rfl (by kernel_rfl) (by kernel_rfl) (by kernel_rfl) (fun _ _ _ h => h) (Or.inl ⟨by rfl, ?_⟩) hS ?_
                      rotate_left
                      · intro w hw
                        go_simp
                        try with_reducible rfl
                      try simp only [Act.put, List.getElem_toArray, List.getElem_cons_succ, List.getElem_cons_zero, List.setIfInBounds_toArray, List.set_cons_zero, List.set_cons_succ]
                      refine wpAnyH_ready (rs := [11]) (by kernel_rfl) (by simp) ?_
                      refine (AllReadyH.cons rfl (fun K hK => ?_) AllReadyH.nil)
                      refine held_append rfl _ _ 55 rfl rfl rfl HRP11.out ?_
                      refine hK.out _ _ (Lib.hid (below_keep (S := fun j => j = g) HBP3.out)) (fun hS => ?_)
                      clear hK K
                      try simp only [Act.put, List.getElem_toArray, List.getElem_cons_succ, List.getElem_cons_zero, List.setIfInBounds_toArray, List.set_cons_zero, List.set_cons_succ]
                      refine wpAnyH_ready (rs := [18]) (by kernel_rfl) (by simp) ?_
                      refine (AllReadyH.cons rfl (fun K hK => ?_) AllReadyH.nil)
                      refine held_append rfl _ _ 55 rfl rfl rfl HRP18.out ?_
                      refine hK.out _ _ (Lib.hid (below_keep (S := fun j => j = g) HBP4.out)) (fun hS => ?_)
                      clear hK K
                      try simp only [Act.put, List.getElem_toArray, List.getElem_cons_succ, List.getElem_cons_zero, List.setIfInBounds_toArray, List.set_cons_zero, List.set_cons_succ]
                      refine wpAnyH_take (i := 19) (v := ?_) rfl (by kernel_rfl) (by kernel_rfl) (by kernel_rfl) (fun _ _ _ h => h) (Or.inl ⟨by rfl, ?_⟩) hS ?_
                      rotate_left
                      · intro w hw
                        go_simp
                        try with_reducible rfl
                      try simp only [Act.put, List.getElem_toArray, List.getElem_cons_succ, List.getElem_cons_zero, List.setIfInBounds_toArray, List.set_cons_zero, List.set_cons_succ]
                      refine wpAnyH_take (i := 20) (v := ?_) rfl (by kernel_rfl) (by kernel_rfl) (by kernel_rfl) (fun _ _ _ h => h) (Or.inl ⟨by rfl, ?_⟩) hS ?_
                      rotate_left
                      · intro w hw
                        go_simp
                        try with_reducible rfl
                      try simp only [Act.put, List.getElem_toArray, List.getElem_cons_succ, List.getElem_cons_zero, List.setIfInBounds_toArray, List.set_cons_zero, List.set_cons_succ]
                      refine wpAnyH_ready (rs := [21]) (by kernel_rfl) (by simp) ?_
                      refine (AllReadyH.cons rfl (fun K hK => ?_) AllReadyH.nil)
                      have p1 := (BX.out.below HBP4.out HG.out).cell 1
                      have z1 := (BX.out.below HBP4.out HG.out).free 1
                      simp only [List.getElem?_cons_succ, List.getElem?_cons_zero] at p1
                      go_simp
                      refine hK.out _ _ (Lib.hid ((below_keep (S := fun j => j = g) HBP4.out).setCell (p := ⟨g, 1, none⟩) (.inr rfl) _)) (fun hS => ?_)
                      clear hK K p1 z1
                      try simp only [Act.put, List.getElem_toArray, List.getElem_cons_succ, List.getElem_cons_zero, List.setIfInBounds_toArray, List.set_cons_zero, List.set_cons_succ]
                      refine wpAnyH_done (by kernel_rfl) ?_ _
                      go_wp2_with fail
                      go_meet
                      exact FINP.out
                  · skip
                    have p1 : WP1.cell? ⟨g, 1, none⟩ = some (.slice A L.length c) := (BX.out.below HBP1.out HG.out).cell 1
                    go_simp
                    refine hK.out _ _ hS (fun hS => ?_)
                    clear hK K p1
                    try simp only [Act.put, List.getElem_toArray, List.getElem_cons_succ, List.getElem_cons_zero, List.setIfInBounds_toArray, List.set_cons_zero, List.set_cons_succ]
                    refine wpAnyH_take (i := 17) (v := ?_) rfl (by kernel_rfl) (by kernel_rfl) (by kernel_rfl) (fun _ _ _ h => h) (Or.inl ⟨by rfl, ?_⟩) hS ?_
                    rotate_left
                    · intro w hw
                      go_simp
                      try with_reducible rfl
                    try simp only [Act.put, List.getElem_toArray, List.getElem_cons_succ, List.getElem_cons_zero, List.setIfInBounds_toArray, List.set_cons_zero, List.set_cons_succ]
                    refine wpAnyH_ready (rs := [10]) (by kernel_rfl) (by simp) ?_
                    refine (AllReadyH.cons rfl (fun K hK => ?_) AllReadyH.nil)
                    go_simp
                    refine hK.out _ _ (Lib.hid (below_keep (S := fun j => j = g) HBP2.out)) (fun hS => ?_)
                    clear hK K
                    try simp only [Act.put, List.getElem_toArray, List.getElem_cons_succ, List.getElem_cons_zero, List.setIfInBounds_toArray, List.set_cons_zero, List.set_cons_succ]
                    refine wpAnyH_ready (rs := [11]) (by kernel_rfl) (by simp) ?_
                    refine (AllReadyH.cons rfl (fun K hK => ?_) AllReadyH.nil)
                    refine held_append rfl _ _ 55 rfl rfl rfl HRP11.out ?_
                    refine hK.out _ _ (Lib.hid (below_keep (S := fun j => j = g) HBP3.out)) (fun hS => ?_)
                    clear hK K
                    try simp only [Act.put, List.getElem_toArray, List.getElem_cons_succ, List.getElem_cons_zero, List.setIfInBounds_toArray, List.set_cons_zero, List.set_cons_succ]
                    refine wpAnyH_ready (rs := [18]) (by kernel_rfl) (by simp) ?_
                    refine (AllReadyH.cons rfl (fun K hK => ?_) AllReadyH.nil)
                    refine held_append rfl _ _ 55 rfl rfl rfl HRP18.out ?_
                    refine hK.out _ _ (Lib.hid (below_keep (S := fun j => j = g) HBP4.out)) (fun hS => ?_)
                    clear hK K
                    try simp only [Act.put, List.getElem_toArray, List.getElem_cons_succ, List.getElem_cons_zero, List.setIfInBounds_toArray, List.set_cons_zero, List.set_cons_succ]
                    refine wpAnyH_take (i := 19) (v := ?_) rfl (by kernel_rfl) (by kernel_rfl) (by kernel_rfl) (fun _ _ _ h => h) (Or.inl ⟨by rfl, ?_⟩) hS ?_
                    rotate_left
                    · intro w hw
                      go_simp
                      try with_reducible rfl
                    try simp only [Act.put, List.getElem_toArray, List.getElem_cons_succ, List.getElem_cons_zero, List.setIfInBounds_toArray, List.set_cons_zero, List.set_cons_succ]
                    refine wpAnyH_take (i := 20) (v := ?_) rfl (by kernel_rfl) (by kernel_rfl) (by kernel_rfl) (fun _ _ _ h => h) (Or.inl ⟨by rfl, ?_⟩) hS ?_
                    rotate_left
                    · intro w hw
                      go_simp
                      try with_reducible rfl
                    try simp only [Act.put, List.getElem_toArray, List.getElem_cons_succ, List.getElem_cons_zero, List.setIfInBounds_toArray, List.set_cons_zero, List.set_cons_succ]
                    refine wpAnyH_ready (rs := [21]) (by kernel_rfl) (by simp) ?_
                    refine (AllReadyH.cons rfl (fun K hK => ?_) AllReadyH.nil)
                    have p1 := (BX.out.below HBP4.out HG.out).cell 1
                    have z1 := (BX.out.below HBP4.out HG.out).free 1
                    simp only [List.getElem?_cons_succ, List.getElem?_cons_zero] at p1
                    go_simp
                    refine hK.out _ _ (Lib.hid ((below_keep (S := fun j => j = g) HBP4.out).setCell (p := ⟨g, 1, none⟩) (.inr rfl) _)) (fun hS => ?_)
                    clear hK K p1 z1
                    try simp only [Act.put, List.getElem_toArray, List.getElem_cons_succ, List.getElem_cons_zero, List.setIfInBounds_toArray, List.set_cons_zero, List.set_cons_succ]
                    refine wpAnyH_done (by kernel_rfl) ?_ _
                    go_wp2_with fail
                    go_meet
                    exact FINP.out
                · skip
                  go_simp
                  refine hK.out _ _ (Lib.hid (below_keep (S := fun j => j = g) HBQ1.out)) (fun hS => ?_)
                  clear hK K
                  try simp only [Act.put, List.getElem_toArray, List.getElem_cons_succ, List.getElem_cons_zero, List.setIfInBounds_toArray, List.set_cons_zero, List.set_cons_succ]
                  refine wpAnyH_ready (rs := [7, 15]) (by kernel_rfl) (by simp) ?_
                  refine (AllReadyH.cons rfl (fun K hK => ?_) (AllReadyH.cons rfl (fun K hK => ?_) AllReadyH.nil))
                  · skip
                    refine held_append rfl _ _ 55 rfl rfl rfl HRQ7.out ?_
                    refine hK.out _ _ (Lib.hid (below_keep (S := fun j => j = g) HBQ2.out)) (fun hS => ?_)
                    clear hK K
                    try simp only [Act.put, List.getElem_toArray, List.getElem_cons_succ, List.getElem_cons_zero, List.setIfInBounds_toArray, List.set_cons_zero, List.set_cons_succ]
                    refine wpAnyH_ready (rs := [11, 15]) (by kernel_rfl) (by simp) ?_
                    refine (AllReadyH.cons rfl (fun K hK => ?_) (AllReadyH.cons rfl (fun K hK => ?_) AllReadyH.nil))
                    · skip
                      refine held_append rfl _ _ 55 rfl rfl rfl HRQ11.out ?_
                      refine hK.out _ _ (Lib.hid (below_keep (S := fun j => j = g) HBQ3.out)) (fun hS => ?_)
                      clear hK K
                      try simp only [Act.put, List.getElem_toArray, List.getElem_cons_succ, List.getElem_cons_zero, List.setIfInBounds_toArray, List.set_cons_zero, List.set_cons_succ]
                      refine wpAnyH_ready (rs := [15]) (by kernel_rfl) (by simp) ?_
                      refine (AllReadyH.cons rfl (fun K hK => ?_) AllReadyH.nil)
                      have p1 : WQ3.cell? ⟨g, 1, none⟩ = some (.slice A L.length c) := (BX.out.below HBQ3.out HG.out).cell 1
                      go_simp
                      refine hK.out _ _ hS (fun hS => ?_)
                      clear hK K p1
                      try simp only [Act.put, List.getElem_toArray, List.getElem_cons_succ, List.getElem_cons_zero, List.setIfInBounds_toArray, List.set_cons_zero, List.set_cons_succ]
                      refine wpAnyH_take (i := 17) (v := ?_) rfl (by kernel_rfl) (by kernel_rfl) (by kernel_rfl) (fun _ _ _ h => h) (Or.inl ⟨by rfl, ?_⟩) hS ?_
                      rotate_left
                      · intro w hw
                        go_simp
                        try with_reducible rfl
                      try simp only [Act.put, List.getElem_toArray, List.getElem_cons_succ, List.getElem_cons_zero, List.setIfInBounds_toArray, List.set_cons_zero, List.set_cons_succ]
                      refine wpAnyH_ready (rs := [18]) (by kernel_rfl) (by simp) ?_
                      refine (AllReadyH.cons rfl (fun K hK => ?_) AllReadyH.nil)
                      refine held_append rfl _ _ 55 rfl rfl rfl HRQ18.out ?_
                      refine hK.out _ _ (Lib.hid (below_keep (S := fun j => j = g) HBQ4.out)) (fun hS => ?_)
                      clear hK K
                      try simp only [Act.put, List.getElem_toArray, List.getElem_cons_succ, List.getElem_cons_zero, List.setIfInBounds_toArray, List.set_cons_zero, List.set_cons_succ]
                      refine wpAnyH_take (i := 19) (v := ?_) rfl (by kernel_rfl) (by kernel_rfl) (by kernel_rfl) (fun _ _ _ h => h) (Or.inl ⟨by rfl, ?_⟩) hS ?_
                      rotate_left
                      · intro w hw
                        go_simp
                        try with_reducible rfl
                      try simp only [Act.put, List.getElem_toArray, List.getElem_cons_succ, List.getElem_cons_zero, List.setIfInBounds_toArray, List.set_cons_zero, List.set_cons_succ]
                      refine wpAnyH_take (i := 20) (v := ?_) rfl (by kernel_rfl) (by kernel_rfl) (by kernel_rfl) (fun _ _ _ h => h) (Or.inl ⟨by rfl, ?_⟩) hS ?_
                      rotate_left
                      · intro w hw
                        go_simp
                        try with_reducible rfl
                      try simp only [Act.put, List.getElem_toArray, List.getElem_cons_succ, List.getElem_cons_zero, List.setIfInBounds_toArray, List.set_cons_zero, List.set_cons_succ]
                      refine wpAnyH_ready (rs := [21]) (by kernel_rfl) (by simp) ?_
                      refine (AllReadyH.cons rfl (fun K hK => ?_) AllReadyH.nil)
                      have p1 := (BX.out.below HBQ4.out HG.out).cell 1
                      have z1 := (BX.out.below HBQ4.out HG.out).free 1
                      simp only [List.getElem?_cons_succ, List.getElem?_cons_zero] at p1
                      go_simp
                      refine hK.out _ _ (Lib.hid ((below_keep (S := fun j => j = g) HBQ4.out).setCell (p := ⟨g, 1, none⟩) (.inr rfl) _)) (fun hS => ?_)
                      clear hK K p1 z1
                      try simp only [Act.put, List.getElem_toArray, List.getElem_cons_succ, List.getElem_cons_zero, List.setIfInBounds_toArray, List.set_cons_zero, List.set_cons_succ]
                      refine wpAnyH_done (by kernel_rfl) ?_ _
                      go_wp2_with fail
                      go_meet
                      exact FINQ.out
                    · skip
                      have p1 : WQ2.cell? ⟨g, 1, none⟩ = some (.slice A L.length c) := (BX.out.below HBQ2.out HG.out).cell 1
                      go_simp
                      refine hK.out _ _ hS (fun hS => ?_)
                      clear hK K p1
                      try simp only [Act.put, List.getElem_toArray, List.getElem_cons_succ, List.getElem_cons_zero, List.setIfInBounds_toArray, List.set_cons_zero, List.set_cons_succ]
                      refine wpAnyH_take (i := 17) (v := ?_) rfl (by kernel_rfl) (by kernel_rfl) (by kernel_rfl) (fun _ _ _ h => h) (Or.inl ⟨by rfl, ?_⟩) hS ?_
                      rotate_left
                      · intro w hw
                        go_simp
                        try with_reducible rfl
                      try simp only [Act.put, List.getElem_toArray, List.getElem_cons_succ, List.getElem_cons_zero, List.setIfInBounds_toArray, List.set_cons_zero, List.set_cons_succ]
                      refine wpAnyH_ready (rs := [11]) (by kernel_rfl) (by simp) ?_
                      refine (AllReadyH.cons rfl (fun K hK => ?_) AllReadyH.nil)
                      refine held_append rfl _ _ 55 rfl rfl rfl HRQ11.out ?_
                      refine hK.out _ _ (Lib.hid (below_keep (S := fun j => j = g) HBQ3.out)) (fun hS => ?_)
                      clear hK K
                      try simp only [Act.put, List.getElem_toArray, List.getElem_cons_succ, List.getElem_cons_zero, List.setIfInBounds_toArray, List.set_cons_zero, List.set_cons_succ]
                      refine wpAnyH_ready (rs := [18]) (by kernel_rfl) (by simp) ?_
                      refine (AllReadyH.cons rfl (fun K hK => ?_) AllReadyH.nil)
                      refine held_append rfl _ _ 55 rfl rfl rfl HRQ18.out ?_
                      refine hK.out _ _ (Lib.hid (below_keep (S := fun j => j = g) HBQ4.out)) (fun hS => ?_)
                      clear hK K
                      try simp only [Act.put, List.getElem_toArray, List.getElem_cons_succ, List.getElem_cons_zero, List.setIfInBounds_toArray, List.set_cons_zero, List.set_cons_succ]
                      refine wpAnyH_take (i := 19) (v := ?_) rfl (by kernel_rfl) (by kernel_rfl) (by kernel_rfl) (fun _ _ _ h => h) (Or.inl ⟨by rfl, ?_⟩) hS ?_
                      rotate_left
                      · intro w hw
                        go_simp
                        try with_reducible rfl
                      try simp only [Act.put, List.getElem_toArray, List.getElem_cons_succ, List.getElem_cons_zero, List.setIfInBounds_toArray, List.set_cons_zero, List.set_cons_succ]
                      refine wpAnyH_take (i := 20) (v := ?_) rfl (by kernel_rfl) (by kernel_rfl) (by kernel_rfl) (fun _ _ _ h => h) (Or.inl ⟨by rfl, ?_⟩) hS ?_
                      rotate_left
                      · intro w hw
                        go_simp
                        try with_reducible rfl
                      try simp only [Act.put, List.getElem_toArray, List.getElem_cons_succ, List.getElem_cons_zero, List.setIfInBounds_toArray, List.set_cons_zero, List.set_cons_succ]
                      refine wpAnyH_ready (rs := [21]) (by kernel_rfl) (by simp) ?_
                      refine (AllReadyH.cons rfl (fun K hK => ?_) AllReadyH.nil)
                      have p1 := (BX.out.below HBQ4.out HG.out).cell 1
                      have z1 := (BX.out.below HBQ4.out HG.out).free 1
                      simp only [List.getElem?_cons_succ, List.getElem?_cons_zero] at p1
                      go_simp
                      refine hK.out _ _ (Lib.hid ((below_keep (S := fun j => j = g) HBQ4.out).setCell (p := ⟨g, 1, none⟩) (.inr rfl) _)) (fun hS => ?_)
                      clear hK K p1 z1
                      try simp only [Act.put, List.getElem_toArray, List.getElem_cons_succ, List.getElem_cons_zero, List.setIfInBounds_toArray, List.set_cons_zero, List.set_cons_succ]
                      refine wpAnyH_done (by kernel_rfl) ?_ _
                      go_wp2_with fail
                      go_meet
                      exact FINQ.out
                  · skip
                    have p1 : (W2.alloc (.cells #[.string nm, .slice none 0 0, .int .i64 0] Ty.file)).drew.cell? ⟨g, 1, none⟩ = some (.slice A L.length c) := (BX.out.below HBQ1.out HG.out).cell 1
                    go_simp
                    refine hK.out _ _ hS (fun hS => ?_)
                    clear hK K p1
                    try simp only [Act.put, List.getElem_toArray, List.getElem_cons_succ, List.getElem_cons_zero, List.setIfInBounds_toArray, List.set_cons_zero, List.set_cons_succ]
                    refine wpAnyH_take (i := 17) (v := ?_) rfl (by kernel_rfl) (by kernel_rfl) (by kernel_rfl) (fun _ _ _ h => h) (Or.inl ⟨by rfl, ?_⟩) hS ?_
                    rotate_left
                    · intro w hw
                      go_simp
                      try with_reducible rfl
                    try simp only [Act.put, List.getElem_toArray, List.getElem_cons_succ, List.getElem_cons_zero, List.setIfInBounds_toArray, List.set_cons_zero, List.set_cons_succ]
                    refine wpAnyH_ready (rs := [7]) (by kernel_rfl) (by simp) ?_
                    refine (AllReadyH.cons rfl (fun K hK => ?_) AllReadyH.nil)
                    refine held_append rfl _ _ 55 rfl rfl rfl HRQ7.out ?_
                    refine hK.out _ _ (Lib.hid (below_keep (S := fun j => j = g) HBQ2.out)) (fun hS => ?_)
                    clear hK K
                    try simp only [Act.put, List.getElem_toArray, List.getElem_cons_succ, List.getElem_cons_zero, List.setIfInBounds_toArray, List.set_cons_zero, List.set_cons_succ]
                    refine wpAnyH_ready (rs := [11]) (by kernel_rfl) (by simp) ?_
                    refine (AllReadyH.cons rfl (fun K hK => ?_) AllReadyH.nil)
                    refine held_append rfl _ _ 55 rfl rfl rfl HRQ11.out ?_
                    refine hK.out _ _ (Lib.hid (below_keep (S := fun j => j = g) HBQ3.out)) (fun hS => ?_)
                    clear hK K
                    try simp only [Act.put, List.getElem_toArray, List.getElem_cons_succ, List.getElem_cons_zero, List.setIfInBounds_toArray, List.set_cons_zero, List.set_cons_succ]
                    refine wpAnyH_ready (rs := [18]) (by kernel_rfl) (by simp) ?_
                    refine (AllReadyH.cons rfl (fun K hK => ?_) AllReadyH.nil)
                    refine held_append rfl _ _ 55 rfl rfl rfl HRQ18.out ?_
                    refine hK.out _ _ (Lib.hid (below_keep (S := fun j => j = g) HBQ4.out)) (fun hS => ?_)
                    clear hK K
                    try simp only [Act.put, List.getElem_toArray, List.getElem_cons_succ, List.getElem_cons_zero, List.setIfInBounds_toArray, List.set_cons_zero, List.set_cons_succ]
                    refine wpAnyH_take (i := 19) (v := ?_) rfl (by kernel_rfl) (by kernel_rfl) (by kernel_rfl) (fun _ _ _ h => h) (Or.inl ⟨by rfl, ?_⟩) hS ?_
                    rotate_left
                    · intro w hw
                      go_simp
                      try with_reducible rfl
                    try simp only [Act.put, List.getElem_toArray, List.getElem_cons_succ, List.getElem_cons_zero, List.setIfInBounds_toArray, List.set_cons_zero, List.set_cons_succ]
                    refine wpAnyH_take (i := 20) (v := ?_) rfl (by kernel_rfl) (by kernel_rfl) (by kernel_rfl) (fun _ _ _ h => h) (Or.inl ⟨by rfl, ?_⟩) hS ?_
                    rotate_left
                    · intro w hw
                      go_simp
                      try with_reducible rfl
                    try simp only [Act.put, List.getElem_toArray, List.getElem_cons_succ, List.getElem_cons_zero, List.setIfInBounds_toArray, List.set_cons_zero, List.set_cons_succ]
                    refine wpAnyH_ready (rs := [21]) (by kernel_rfl) (by simp) ?_
                    refine (AllReadyH.cons rfl (fun K hK => ?_) AllReadyH.nil)
                    have p1 := (BX.out.below HBQ4.out HG.out).cell 1
                    have z1 := (BX.out.below HBQ4.out HG.out).free 1
                    simp only [List.getElem?_cons_succ, List.getElem?_cons_zero] at p1
                    go_simp
                    refine hK.out _ _ (Lib.hid ((below_keep (S := fun j => j = g) HBQ4.out).setCell (p := ⟨g, 1, none⟩) (.inr rfl) _)) (fun hS => ?_)
                    clear hK K p1 z1
                    try simp only [Act.put, List.getElem_toArray, List.getElem_cons_succ, List.getElem_cons_zero, List.setIfInBounds_toArray, List.set_cons_zero, List.set_cons_succ]
                    refine wpAnyH_done (by kernel_rfl) ?_ _
                    go_wp2_with fail
                    go_meet
                    exact FINQ.out
                · skip
                  have p1 : W2.cell? ⟨g, 1, none⟩ = some (.slice A L.length c) := (BX.out.below HB0.out HG.out).cell 1
                  go_simp
                  refine hK.out _ _ hS (fun hS => ?_)
                  clear hK K p1
                  try simp only [Act.put, List.getElem_toArray, List.getElem_cons_succ, List.getElem_cons_zero, List.setIfInBounds_toArray, List.set_cons_zero, List.set_cons_succ]
                  refine wpAnyH_take (i := 17) (v := ?_) rfl (by kernel_rfl) (by kernel_rfl) (by kernel_rfl) (fun _ _ _ h => h) (Or.inl ⟨by rfl, ?_⟩) hS ?_
                  rotate_left
                  · intro w hw
                    go_simp
                    try with_reducible rfl
                  try simp only [Act.put, List.getElem_toArray, List.getElem_cons_succ, List.getElem_cons_zero, List.setIfInBounds_toArray, List.set_cons_zero, List.set_cons_succ]
                  refine wpAnyH_ready (rs := [7, 10]) (by kernel_rfl) (by simp) ?_
                  refine (AllReadyH.cons rfl (fun K hK => ?_) (AllReadyH.cons rfl (fun K hK => ?_) AllReadyH.nil))
                  · skip
                    refine held_append rfl _ _ 55 rfl rfl rfl HRP7.out ?_
                    refine hK.out _ _ (Lib.hid (below_keep (S := fun j => j = g) HBP1.out)) (fun hS => ?_)
                    clear hK K
                    try simp only [Act.put, List.getElem_toArray, List.getElem_cons_succ, List.getElem_cons_zero, List.setIfInBounds_toArray, List.set_cons_zero, List.set_cons_succ]
                    refine wpAnyH_ready (rs := [10]) (by kernel_rfl) (by simp) ?_
                    refine (AllReadyH.cons rfl (fun K hK => ?_) AllReadyH.nil)
                    go_simp
                    refine hK.out _ _ (Lib.hid (below_keep (S := fun j => j = g) HBP2.out)) (fun hS => ?_)
                    clear hK K
                    try simp only [Act.put, List.getElem_toArray, List.getElem_cons_succ, List.getElem_cons_zero, List.setIfInBounds_toArray, List.set_cons_zero, List.set_cons_succ]
                    refine wpAnyH_ready (rs := [11]) (by kernel_rfl) (by simp) ?_
                    refine (AllReadyH.cons rfl (fun K hK => ?_) AllReadyH.nil)
                    refine held_append rfl _ _ 55 rfl rfl rfl HRP11.out ?_
                    refine hK.out _ _ (Lib.hid (below_keep (S := fun j => j = g) HBP3.out)) (fun hS => ?_)
                    clear hK K
                    try simp only [Act.put, List.getElem_toArray, List.getElem_cons_succ, List.getElem_cons_zero, List.setIfInBounds_toArray, List.set_cons_zero, List.set_cons_succ]
                    refine wpAnyH_ready (rs := [18]) (by kernel_rfl) (by simp) ?_
                    refine (AllReadyH.cons rfl (fun K hK => ?_) AllReadyH.nil)
                    refine held_append rfl _ _ 55 rfl rfl rfl HRP18.out ?_
                    refine hK.out _ _ (Lib.hid (below_keep (S := fun j => j = g) HBP4.out)) (fun hS => ?_)
                    clear hK K
                    try simp only [Act.put, List.getElem_toArray, List.getElem_cons_succ, List.getElem_cons_zero, List.setIfInBounds_toArray, List.set_cons_zero, List.set_cons_succ]
                    refine wpAnyH_take (i := 19) (v := ?_) rfl (by kernel_rfl) (by kernel_rfl) (by kernel_rfl) (fun _ _ _ h => h) (Or.inl ⟨by rfl, ?_⟩) hS ?_
                    rotate_left
                    · intro w hw
                      go_simp
                      try with_reducible rfl
                    try simp only [Act.put, List.getElem_toArray, List.getElem_cons_succ, List.getElem_cons_zero, List.setIfInBounds_toArray, List.set_cons_zero, List.set_cons_succ]
                    refine wpAnyH_take (i := 20) (v := ?_) rfl (by kernel_rfl) (by kernel_rfl) (by kernel_rfl) (fun _ _ _ h => h) (Or.inl ⟨by rfl, ?_⟩) hS ?_
                    rotate_left
                    · intro w hw
                      go_simp
                      try with_reducible rfl
                    try simp only [Act.put, List.getElem_toArray, List.getElem_cons_succ, List.getElem_cons_zero, List.setIfInBounds_toArray, List.set_cons_zero, List.set_cons_succ]
                    refine wpAnyH_ready (rs := [21]) (by kernel_rfl) (by simp) ?_
                    refine (AllReadyH.cons rfl (fun K hK => ?_) AllReadyH.nil)
                    have p1 := (BX.out.below HBP4.out HG.out).cell 1
                    have z1 := (BX.out.below HBP4.out HG.out).free 1
                    simp only [List.getElem?_cons_succ, List.getElem?_cons_zero] at p1
                    go_simp
                    refine hK.out _ _ (Lib.hid ((below_keep (S := fun j => j = g) HBP4.out).setCell (p := ⟨g, 1, none⟩) (.inr rfl) _)) (fun hS => ?_)
                    clear hK K p1 z1
                    try simp only [Act.put, List.getElem_toArray, List.getElem_cons_succ, List.getElem_cons_zero, List.setIfInBounds_toArray, List.set_cons_zero, List.set_cons_succ]
                    refine wpAnyH_done (by kernel_rfl) ?_ _
                    go_wp2_with fail
                    go_meet
                    exact FINP.out
                  · skip
                    go_simp
                    refine hK.out _ _ (Lib.hid (below_keep (S := fun j => j = g) HBQ1.out)) (fun hS => ?_)
                    clear hK K
                    try simp only [Act.put, List.getElem_toArray, List.getElem_cons_succ, List.getElem_cons_zero, List.setIfInBounds_toArray, List.set_cons_zero, List.set_cons_succ]
                    refine wpAnyH_ready (rs := [7]) (by kernel_rfl) (by simp) ?_
                    refine (AllReadyH.cons rfl (fun K hK => ?_) AllReadyH.nil)
                    refine held_append rfl _ _ 55 rfl rfl rfl HRQ7.out ?_
                    refine hK.out _ _ (Lib.hid (below_keep (S := fun j => j = g) HBQ2.out)) (fun hS => ?_)
                    clear hK K
                    try simp only [Act.put, List.getElem_toArray, List.getElem_cons_succ, List.getElem_cons_zero, List.setIfInBounds_toArray, List.set_cons_zero, List.set_cons_succ]
                    refine wpAnyH_ready (rs := [11]) (by kernel_rfl) (by simp) ?_
                    refine (AllReadyH.cons rfl (fun K hK => ?_) AllReadyH.nil)
                    refine held_append rfl _ _ 55 rfl rfl rfl HRQ11.out ?_
                    refine hK.out _ _ (Lib.hid (below_keep (S := fun j => j = g) HBQ3.out)) (fun hS => ?_)
                    clear hK K
                    try simp only [Act.put, List.getElem_toArray, List.getElem_cons_succ, List.getElem_cons_zero, List.setIfInBounds_toArray, List.set_cons_zero, List.set_cons_succ]
                    refine wpAnyH_ready (rs := [18]) (by kernel_rfl) (by simp) ?_
                    refine (AllReadyH.cons rfl (fun K hK => ?_) AllReadyH.nil)
                    refine held_append rfl _ _ 55 rfl rfl rfl HRQ18.out ?_
                    refine hK.out _ _ (Lib.hid (below_keep (S := fun j => j = g) HBQ4.out)) (fun hS => ?_)
                    clear hK K
                    try simp only [Act.put, List.getElem_toArray, List.getElem_cons_succ, List.getElem_cons_zero, List.setIfInBounds_toArray, List.set_cons_zero, List.set_cons_succ]
                    refine wpAnyH_take (i := 19) (v := ?_) rfl (by kernel_rfl) (by kernel_rfl) (by kernel_rfl) (fun _ _ _ h => h) (Or.inl ⟨by rfl, ?_⟩) hS ?_
                    rotate_left
                    · intro w hw
                      go_simp
                      try with_reducible rfl
                    try simp only [Act.put, List.getElem_toArray, List.getElem_cons_succ, List.getElem_cons_zero, List.setIfInBounds_toArray, List.set_cons_zero, List.set_cons_succ]
                    refine wpAnyH_take (i := 20) (v := ?_) rfl (by kernel_rfl) (by kernel_rfl) (by kernel_rfl) (fun _ _ _ h => h) (Or.inl ⟨by rfl, ?_⟩) hS ?_
                    rotate_left
                    · intro w hw
                      go_simp
                      try with_reducible rfl
                    try simp only [Act.put, List.getElem_toArray, List.getElem_cons_succ, List.getElem_cons_zero, List.setIfInBounds_toArray, List.set_cons_zero, List.set_cons_succ]
                    refine wpAnyH_ready (rs := [21]) (by kernel_rfl) (by simp) ?_
                    refine (AllReadyH.cons rfl (fun K hK => ?_) AllReadyH.nil)
                    have p1 := (BX.out.below HBQ4.out HG.out).cell 1
                    have z1 := (BX.out.below HBQ4.out HG.out).free 1
                    simp only [List.getElem?_cons_succ, List.getElem?_cons_zero] at p1
                    go_simp
                    refine hK.out _ _ (Lib.hid ((below_keep (S := fun j => j = g) HBQ4.out).setCell (p := ⟨g, 1, none⟩) (.inr rfl) _)) (fun hS => ?_)
                    clear hK K p1 z1
                    try simp only [Act.put, List.getElem_toArray, List.getElem_cons_succ, List.getElem_cons_zero, List.setIfInBounds_toArray, List.set_cons_zero, List.set_cons_succ]
                    refine wpAnyH_done (by kernel_rfl) ?_ _
                    go_wp2_with fail
                    go_meet
                    exact FINQ.out
              · skip
                go_simp
                refine hK.out _ _ (Lib.hid (below_keep (S := fun j => j = g) HBQ1.out)) (fun hS => ?_)
                clear hK K
                try simp only [Act.put, List.getElem_toArray, List.getElem_cons_succ, List.getElem_cons_zero, List.setIfInBounds_toArray, List.set_cons_zero, List.set_cons_succ]
                refine wpAnyH_ready (rs := [4, 15]) (by kernel_rfl) (by simp) ?_
                refine (AllReadyH.cons rfl (fun K hK => ?_) (AllReadyH.cons rfl (fun K hK => ?_) AllReadyH.nil))
                · skip
                  have p1 : (W2.alloc (.cells #[.string nm, .slice none 0 0, .int .i64 0] Ty.file)).drew.cell? ⟨g, 1, none⟩ = some (.slice A L.length c) := (BX.out.below HBQ1.out HG.out).cell 1
                  go_simp
                  refine hK.out _ _ hS (fun hS => ?_)
                  clear hK K p1
                  try simp only [Act.put, List.getElem_toArray, List.getElem_cons_succ, List.getElem_cons_zero, List.setIfInBounds_toArray, List.set_cons_zero, List.set_cons_succ]
                  refine wpAnyH_take (i := 6) (v := ?_) rfl (by kernel_rfl) (by kernel_rfl) (by kernel_rfl) (fun _ _ _ h => h) (Or.inl ⟨by rfl, ?_⟩) hS ?_
                  rotate_left
                  · intro w hw
                    go_simp
                    try with_reducible rfl
                  try simp only [Act.put, List.getElem_toArray, List.getElem_cons_succ, List.getElem_cons_zero, List.setIfInBounds_toArray, List.set_cons_zero, List.set_cons_succ]
                  refine wpAnyH_ready (rs := [7, 15]) (by kernel_rfl) (by simp) ?_
                  refine (AllReadyH.cons rfl (fun K hK => ?_) (AllReadyH.cons rfl (fun K hK => ?_) AllReadyH.nil))
                  · skip
                    refine held_append rfl _ _ 55 rfl rfl rfl HRQ7.out ?_
                    refine hK.out _ _ (Lib.hid (below_keep (S := fun j => j = g) HBQ2.out)) (fun hS => ?_)
                    clear hK K
                    try simp only [Act.put, List.getElem_toArray, List.getElem_cons_succ, List.getElem_cons_zero, List.setIfInBounds_toArray, List.set_cons_zero, List.set_cons_succ]
                    refine wpAnyH_ready (rs := [11, 15]) (by kernel_rfl) (by simp) ?_
                    refine (AllReadyH.cons rfl (fun K hK => ?_) (AllReadyH.cons rfl (fun K hK => ?_) AllReadyH.nil))
                    · skip
                      refine held_append rfl _ _ 55 rfl rfl rfl HRQ11.out ?_
                      refine hK.out _ _ (Lib.hid (below_keep (S := fun j => j = g) HBQ3.out)) (fun hS => ?_)
                      clear hK K
                      try simp only [Act.put, List.getElem_toArray, List.getElem_cons_succ, List.getElem_cons_zero, List.setIfInBounds_toArray, List.set_cons_zero, List.set_cons_succ]
                      refine wpAnyH_ready (rs := [15]) (by kernel_rfl) (by simp) ?_
                      refine (AllReadyH.cons rfl (fun K hK => ?_) AllReadyH.nil)
                      have p1 : WQ3.cell? ⟨g, 1, none⟩ = some (.slice A L.length c) := (BX.out.below HBQ3.out HG.out).cell 1
                      go_simp
                      refine hK.out _ _ hS (fun hS => ?_)
                      clear hK K p1
                      try simp only [Act.put, List.getElem_toArray, List.getElem_cons_succ, List.getElem_cons_zero, List.setIfInBounds_toArray, List.set_cons_zero, List.set_cons_succ]
                      refine wpAnyH_take (i := 17) (v := ?_) rfl (by kernel_rfl) (by kernel_rfl) (by kernel_rfl) (fun _ _ _ h => h) (Or.inl ⟨by rfl, ?_⟩) hS ?_
                      rotate_left
                      · intro w hw
                        go_simp
                        try with_reducible rfl
                      try simp only [Act.put, List.getElem_toArray, List.getElem_cons_succ, List.getElem_cons_zero, List.setIfInBounds_toArray, List.set_cons_zero, List.set_cons_succ]
                      refine wpAnyH_ready (rs := [18]) (by kernel_rfl) (by simp) ?_
                      refine (AllReadyH.cons rfl (fun K hK => ?_) AllReadyH.nil)
                      refine held_append rfl _ _ 55 rfl rfl rfl HRQ18.out ?_
                      refine hK.out _ _ (Lib.hid (below_keep (S := fun j => j = g) HBQ4.out)) (fun hS => ?_)
                      clear hK K
                      try simp only [Act.put, List.getElem_toArray, List.getElem_cons_succ, List.getElem_cons_zero, List.setIfInBounds_toArray, List.set_cons_zero, List.set_cons_succ]
                      refine wpAnyH_take (i := 19) (v := ?_) rfl (by kernel_rfl) (by kernel_rfl) (by kernel_rfl) (fun _ _ _ h => h) (Or.inl ⟨by rfl, ?_⟩) hS ?_
                      rotate_left
                      · intro w hw
                        go_simp
                        try with_reducible rfl
                      try simp only [Act.put, List.getElem_toArray, List.getElem_cons_succ, List.getElem_cons_zero, List.setIfInBounds_toArray, List.set_cons_zero, List.set_cons_succ]
                      refine wpAnyH_take (i := 20) (v := ?_) rfl (by kernel_rfl) (by kernel_rfl) (by kernel_rfl) (fun _ _ _ h => h) (Or.inl ⟨by rfl, ?_⟩) hS ?_
                      rotate_left
                      · intro w hw
                        go_simp
                        try with_reducible rfl
                      try simp only [Act.put, List.getElem_toArray, List.getElem_cons_succ, List.getElem_cons_zero, List.setIfInBounds_toArray, List.set_cons_zero, List.set_cons_succ]
                      refine wpAnyH_ready (rs := [21]) (by kernel_rfl) (by simp) ?_
                      refine (AllReadyH.cons rfl (fun K hK => ?_) AllReadyH.nil)
                      have p1 := (BX.out.below HBQ4.out HG.out).cell 1
                      have z1 := (BX.out.below HBQ4.out HG.out).free 1
                      simp only [List.getElem?_cons_succ, List.getElem?_cons_zero] at p1
                      go_simp
                      refine hK.out _ _ (Lib.hid ((below_keep (S := fun j => j = g) HBQ4.out).setCell (p := ⟨g, 1, none⟩) (.inr rfl) _)) (fun hS => ?_)
                      clear hK K p1 z1
                      try simp only [Act.put, List.getElem_toArray, List.getElem_cons_succ, List.getElem_cons_zero, List.setIfInBounds_toArray, List.set_cons_zero, List.set_cons_succ]
                      refine wpAnyH_done (by kernel_rfl) ?_ _
                      go_wp2_with fail
                      go_meet
                      exact FINQ.out
                    · skip
                      have p1 : WQ2.cell? ⟨g, 1, none⟩ = some (.slice A L.length c) := (BX.out.below HBQ2.out HG.out).cell 1
                      go_simp
                      refine hK.out _ _ hS (fun hS => ?_)
                      clear hK K p1
                      try simp only [Act.put, List.getElem_toArray, List.getElem_cons_succ, List.getElem_cons_zero, List.setIfInBounds_toArray, List.set_cons_zero, List.set_cons_succ]
                      refine wpAnyH_take (i := 17) (v := ?_) rfl (by kernel_rfl) (by kernel_rfl) (by kernel_rfl) (fun _ _ _ h => h) (Or.inl ⟨by rfl, ?_⟩) hS ?_
                      rotate_left
                      · intro w hw
                        go_simp
                        try with_reducible rfl
                      try simp only [Act.put, List.getElem_toArray, List.getElem_cons_succ, List.getElem_cons_zero, List.setIfInBounds_toArray, List.set_cons_zero, List.set_cons_succ]
                      refine wpAnyH_ready (rs := [11]) (by kernel_rfl) (by simp) ?_
                      refine (AllReadyH.cons rfl (fun K hK => ?_) AllReadyH.nil)
                      refine held_append rfl _ _ 55 rfl rfl rfl HRQ11.out ?_
                      refine hK.out _ _ (Lib.hid (below_keep (S := fun j => j = g) HBQ3.out)) (fun hS => ?_)
                      clear hK K
                      try simp only [Act.put, List.getElem_toArray, List.getElem_cons_succ, List.getElem_cons_zero, List.setIfInBounds_toArray, List.set_cons_zero, List.set_cons_succ]
                      refine wpAnyH_ready (rs := [18]) (by kernel_rfl) (by simp) ?_
                      refine (AllReadyH.cons rfl (fun K hK => ?_) AllReadyH.nil)
                      refine held_append rfl _ _ 55 rfl rfl rfl HRQ18.out ?_
                      refine hK.out _ _ (Lib.hid (below_keep (S := fun j => j = g) HBQ4.out)) (fun hS => ?_)
                      clear hK K
                      try simp only [Act.put, List.getElem_toArray, List.getElem_cons_succ, List.getElem_cons_zero, List.setIfInBounds_toArray, List.set_cons_zero, List.set_cons_succ]
                      refine wpAnyH_take (i := 19) (v := ?_) rfl (by kernel_rfl) (by kernel_rfl) (by kernel_rfl) (fun _ _ _ h => h) (Or.inl ⟨by rfl, ?_⟩) hS ?_
                      rotate_left
                      · intro w hw
                        go_simp
                        try with_reducible rfl
                      try simp only [Act.put, List.getElem_toArray, List.getElem_cons_succ, List.getElem_cons_zero, List.setIfInBounds_toArray, List.set_cons_zero, List.set_cons_succ]
                      refine wpAnyH_take (i := 20) (v := ?_) rfl (by kernel_rfl) (by kernel_rfl) (by kernel_rfl) (fun _ _ _ h => h) (Or.inl ⟨by rfl, ?_⟩) hS ?_
                      rotate_left
                      · intro w hw
                        go_simp
                        try with_reducible rfl
                      try simp only [Act.put, List.getElem_toArray, List.getElem_cons_succ, List.getElem_cons_zero, List.setIfInBounds_toArray, List.set_cons_zero, List.set_cons_succ]
                      refine wpAnyH_ready (rs := [21]) (by kernel_rfl) (by simp) ?_
                      refine (AllReadyH.cons rfl (fun K hK => ?_) AllReadyH.nil)
                      have p1 := (BX.out.below HBQ4.out HG.out).cell 1
                      have z1 := (BX.out.below HBQ4.out HG.out).free 1
                      simp only [List.getElem?_cons_succ, List.getElem?_cons_zero] at p1
                      go_simp
                      refine hK.out _ _ (Lib.hid ((below_keep (S := fun j => j = g) HBQ4.out).setCell (p := ⟨g, 1, none⟩) (.inr rfl) _)) (fun hS => ?_)
                      clear hK K p1 z1
                      try simp only [Act.put, List.getElem_toArray, List.getElem_cons_succ, List.getElem_cons_zero, List.setIfInBounds_toArray, List.set_cons_zero, List.set_cons_succ]
                      refine wpAnyH_done (by kernel_rfl) ?_ _
                      go_wp2_with fail
                      go_meet
                      exact FINQ.out
                  · skip
                    have p1 : (W2.alloc (.cells #[.string nm, .slice none 0 0, .int .i64 0] Ty.file)).drew.cell? ⟨g, 1, none⟩ = some (.slice A L.length c) := (BX.out.below HBQ1.out HG.out).cell 1
                    go_simp
                    refine hK.out _ _ hS (fun hS => ?_)
                    clear hK K p1
                    try simp only [Act.put, List.getElem_toArray, List.getElem_cons_succ, List.getElem_cons_zero, List.setIfInBounds_toArray, List.set_cons_zero, List.set_cons_succ]
                    refine wpAnyH_take (i := 17) (v := ?_) rfl (by kernel_rfl) (by kernel_rfl) (by kernel_rfl) (fun _ _ _ h => h) (Or.inl ⟨by rfl, ?_⟩) hS ?_
                    rotate_left
                    · intro w hw
                      go_simp
                      try with_reducible rfl
                    try simp only [Act.put, List.getElem_toArray, List.getElem_cons_succ, List.getElem_cons_zero, List.setIfInBounds_toArray, List.set_cons_zero, List.set_cons_succ]
                    refine wpAnyH_ready (rs := [7]) (by kernel_rfl) (by simp) ?_
                    refine (AllReadyH.cons rfl (fun K hK => ?_) AllReadyH.nil)
                    refine held_append rfl _ _ 55 rfl rfl rfl HRQ7.out ?_
                    refine hK.out _ _ (Lib.hid (below_keep (S := fun j => j = g) HBQ2.out)) (fun hS => ?_)
                    clear hK K
                    try simp only [Act.put, List.getElem_toArray, List.getElem_cons_succ, List.getElem_cons_zero, List.setIfInBounds_toArray, List.set_cons_zero, List.set_cons_succ]
                    refine wpAnyH_ready (rs := [11]) (by kernel_rfl) (by simp) ?_
                    refine (AllReadyH.cons rfl (fun K hK => ?_) AllReadyH.nil)
                    refine held_append rfl _ _ 55 rfl rfl rfl HRQ11.out ?_
                    refine hK.out _ _ (Lib.hid (below_keep (S := fun j => j = g) HBQ3.out)) (fun hS => ?_)
                    clear hK K
                    try simp only [Act.put, List.getElem_toArray, List.getElem_cons_succ, List.getElem_cons_zero, List.setIfInBounds_toArray, List.set_cons_zero, List.set_cons_succ]
                    refine wpAnyH_ready (rs := [18]) (by kernel_rfl) (by simp) ?_
                    refine (AllReadyH.cons rfl (fun K hK => ?_) AllReadyH.nil)
                    refine held_append rfl _ _ 55 rfl rfl rfl HRQ18.out ?_
                    refine hK.out _ _ (Lib.hid (below_keep (S := fun j => j = g) HBQ4.out)) (fun hS => ?_)
                    clear hK K
                    try simp only [Act.put, List.getElem_toArray, List.getElem_cons_succ, List.getElem_cons_zero, List.setIfInBounds_toArray, List.set_cons_zero, List.set_cons_succ]
                    refine wpAnyH_take (i := 19) (v := ?_) rfl (by kernel_rfl) (by kernel_rfl) (by kernel_rfl) (fun _ _ _ h => h) (Or.inl ⟨by rfl, ?_⟩) hS ?_
                    rotate_left
                    · intro w hw
                      go_simp
                      try with_reducible rfl
                    try simp only [Act.put, List.getElem_toArray, List.getElem_cons_succ, List.getElem_cons_zero, List.setIfInBounds_toArray, List.set_cons_zero, List.set_cons_succ]
                    refine wpAnyH_take (i := 20) (v := ?_) rfl (by kernel_rfl) (by kernel_rfl) (by kernel_rfl) (fun _ _ _ h => h) (Or.inl ⟨by rfl, ?_⟩) hS ?_
                    rotate_left
                    · intro w hw
                      go_simp
                      try with_reducible rfl
                    try simp only [Act.put, List.getElem_toArray, List.getElem_cons_succ, List.getElem_cons_zero, List.setIfInBounds_toArray, List.set_cons_zero, List.set_cons_succ]
                    refine wpAnyH_ready (rs := [21]) (by kernel_rfl) (by simp) ?_
                    refine (AllReadyH.cons rfl (fun K hK => ?_) AllReadyH.nil)
                    have p1 := (BX.out.below HBQ4.out HG.out).cell 1
                    have z1 := (BX.out.below HBQ4.out HG.out).free 1
                    simp only [List.getElem?_cons_succ, List.getElem?_cons_zero] at p1
                    go_simp
                    refine hK.out _ _ (Lib.hid ((below_keep (S := fun j => j = g) HBQ4.out).setCell (p := ⟨g, 1, none⟩) (.inr rfl) _)) (fun hS => ?_)
                    clear hK K p1 z1
                    try simp only [Act.put, List.getElem_toArray, List.getElem_cons_succ, List.getElem_cons_zero, List.setIfInBounds_toArray, List.set_cons_zero, List.set_cons_succ]
                    refine wpAnyH_done (by kernel_rfl) ?_ _
                    go_wp2_with fail
                    go_meet
                    exact FINQ.out
                · skip
                  have p1 : (W2.alloc (.cells #[.string nm, .slice none 0 0, .int .i64 0] Ty.file)).drew.cell? ⟨g, 1, none⟩ = some (.slice A L.length c) := (BX.out.below HBQ1.out HG.out).cell 1
                  go_simp
                  refine hK.out _ _ hS (fun hS => ?_)
                  clear hK K p1
                  try simp only [Act.put, List.getElem_toArray, List.getElem_cons_succ, List.getElem_cons_zero, List.setIfInBounds_toArray, List.set_cons_zero, List.set_cons_succ]
                  refine wpAnyH_take (i := 17) (v := ?_) rfl (by kernel_rfl) (by kernel_rfl) (by kernel_rfl) (fun _ _ _ h => h) (Or.inl ⟨by rfl, ?_⟩) hS ?_
                  rotate_left
                  · intro w hw
                    go_simp
                    try with_reducible rfl
                  try simp only [Act.put, List.getElem_toArray, List.getElem_cons_succ, List.getElem_cons_zero, List.setIfInBounds_toArray, List.set_cons_zero, List.set_cons_succ]
                  refine wpAnyH_ready (rs := [4]) (by kernel_rfl) (by simp) ?_
                  refine (AllReadyH.cons rfl (fun K hK => ?_) AllReadyH.nil)
                  have p1 : (W2.alloc (.cells #[.string nm, .slice none 0 0, .int .i64 0] Ty.file)).drew.cell? ⟨g, 1, none⟩ = some (.slice A L.length c) := (BX.out.below HBQ1.out HG.out).cell 1
                  go_simp
                  refine hK.out _ _ hS (fun hS => ?_)
                  clear hK K p1
                  try simp only [Act.put, List.getElem_toArray, List.getElem_cons_succ, List.getElem_cons_zero, List.setIfInBounds_toArray, List.set_cons_zero, List.set_cons_succ]
                  refine wpAnyH_take (i := 6) (v := ?_) rfl (by kernel_rfl) (by kernel_rfl) (by kernel_rfl) (fun _ _ _ h => h) (Or.inl ⟨by rfl, ?_⟩) hS ?_
                  rotate_left
                  · intro w hw
                    go_simp
                    try with_reducible rfl
                  try simp only [Act.put, List.getElem_toArray, List.getElem_cons_succ, List.getElem_cons_zero, List.setIfInBounds_toArray, List.set_cons_zero, List.set_cons_succ]
                  refine wpAnyH_ready (rs := [7]) (by kernel_rfl) (by simp) ?_
                  refine (AllReadyH.cons rfl (fun K hK => ?_) AllReadyH.nil)
                  refine held_append rfl _ _ 55 rfl rfl rfl HRQ7.out ?_
                  refine hK.out _ _ (Lib.hid (below_keep (S := fun j => j = g) HBQ2.out)) (fun hS => ?_)
                  clear hK K
                  try simp only [Act.put, List.getElem_toArray, List.getElem_cons_succ, List.getElem_cons_zero, List.setIfInBounds_toArray, List.set_cons_zero, List.set_cons_succ]
                  refine wpAnyH_ready (rs := [11]) (by kernel_rfl) (by simp) ?_
                  refine (AllReadyH.cons rfl (fun K hK => ?_) AllReadyH.nil)
                  refine held_append rfl _ _ 55 rfl rfl rfl HRQ11.out ?_
                  refine hK.out _ _ (Lib.hid (below_keep (S := fun j => j = g) HBQ3.out)) (fun hS => ?_)
                  clear hK K
                  try simp only [Act.put, List.getElem_toArray, List.getElem_cons_succ, List.getElem_cons_zero, List.setIfInBounds_toArray, List.set_cons_zero, List.set_cons_succ]
                  refine wpAnyH_ready (rs := [18]) (by kernel_rfl) (by simp) ?_
                  refine (AllReadyH.cons rfl (fun K hK => ?_) AllReadyH.nil)
                  refine held_append rfl _ _ 55 rfl rfl rfl HRQ18.out ?_
                  refine hK.out _ _ (Lib.hid (below_keep (S := fun j => j = g) HBQ4.out)) (fun hS => ?_)
                  clear hK K
                  try simp only [Act.put, List.getElem_toArray, List.getElem_cons_succ, List.getElem_cons_zero, List.setIfInBounds_toArray, List.set_cons_zero, List.set_cons_succ]
                  refine wpAnyH_take (i := 19) (v := ?_) rfl (by kernel_rfl) (by kernel_rfl) (by kernel_rfl) (fun _ _ _ h => h) (Or.inl ⟨by rfl, ?_⟩) hS ?_
                  rotate_left
                  · intro w hw
                    go_simp
                    try with_reducible rfl
                  try simp only [Act.put, List.getElem_toArray, List.getElem_cons_succ, List.getElem_cons_zero, List.setIfInBounds_toArray, List.set_cons_zero, List.set_cons_succ]
                  refine wpAnyH_take (i := 20) (v := ?_) rfl (by kernel_rfl) (by kernel_rfl) (by kernel_rfl) (fun _ _ _ h => h) (Or.inl ⟨by rfl, ?_⟩) hS ?_
                  rotate_left
                  · intro w hw
                    go_simp
                    try with_reducible rfl
                  try simp only [Act.put, List.getElem_toArray, List.getElem_cons_succ, List.getElem_cons_zero, List.setIfInBounds_toArray, List.set_cons_zero, List.set_cons_succ]
                  refine wpAnyH_ready (rs := [21]) (by kernel_rfl) (by simp) ?_
                  refine (AllReadyH.cons rfl (fun K hK => ?_) AllReadyH.nil)
                  have p1 := (BX.out.below HBQ4.out HG.out).cell 1
                  have z1 := (BX.out.below HBQ4.out HG.out).free 1
                  simp only [List.getElem?_cons_succ, List.getElem?_cons_zero] at p1
                  go_simp
                  refine hK.out _ _ (Lib.hid ((below_keep (S := fun j => j = g) HBQ4.out).setCell (p := ⟨g, 1, none⟩) (.inr rfl) _)) (fun hS => ?_)
                  clear hK K p1 z1
                  try simp only [Act.put, List.getElem_toArray, List.getElem_cons_succ, List.getElem_cons_zero, List.setIfInBounds_toArray, List.set_cons_zero, List.set_cons_succ]
                  refine wpAnyH_done (by kernel_rfl) ?_ _
                  go_wp2_with fail
                  go_meet
                  exact FINQ.out
              · skip
                have p1 : W2.cell? ⟨g, 1, none⟩ = some (.slice A L.length c) := (BX.out.below HB0.out HG.out).cell 1
                go_simp
                refine hK.out _ _ hS (fun hS => ?_)
                clear hK K p1
                try simp only [Act.put, List.getElem_toArray, List.getElem_cons_succ, List.getElem_cons_zero, List.setIfInBounds_toArray, List.set_cons_zero, List.set_cons_succ]
                refine wpAnyH_take (i := 17) (v := ?_) rfl (by kernel_rfl) (by kernel_rfl) (by kernel_rfl) (fun _ _ _ h => h) (Or.inl ⟨by rfl, ?_⟩) hS ?_
                rotate_left
                · intro w hw
                  go_simp
                  try with_reducible rfl
                try simp only [Act.put, List.getElem_toArray, List.getElem_cons_succ, List.getElem_cons_zero, List.setIfInBounds_toArray, List.set_cons_zero, List.set_cons_succ]
                refine wpAnyH_ready (rs := [4, 10]) (by kernel_rfl) (by simp) ?_
                refine (AllReadyH.cons rfl (fun K hK => ?_) (AllReadyH.cons rfl (fun K hK => ?_) AllReadyH.nil))
                · skip
                  have p1 : W2.cell? ⟨g, 1, none⟩ = some (.slice A L.length c) := (BX.out.below HB0.out HG.out).cell 1
                  go_simp
                  refine hK.out _ _ hS (fun hS => ?_)
                  clear hK K p1
                  try simp only [Act.put, List.getElem_toArray, List.getElem_cons_succ, List.getElem_cons_zero, List.setIfInBounds_toArray, List.set_cons_zero, List.set_cons_succ]
                  refine wpAnyH_take (i := 6) (v := ?_) rfl (by kernel_rfl) (by kernel_rfl) (by kernel_rfl) (fun _ _ _ h => h) (Or.inl ⟨by rfl, ?_⟩) hS ?_
                  rotate_left
                  · intro w hw
                    go_simp
                    try with_reducible rfl
                  try simp only [Act.put, List.getElem_toArray, List.getElem_cons_succ, List.getElem_cons_zero, List.setIfInBounds_toArray, List.set_cons_zero, List.set_cons_succ]
                  refine wpAnyH_ready (rs := [7, 10]) (by kernel_rfl) (by simp) ?_
                  refine (AllReadyH.cons rfl (fun K hK => ?_) (AllReadyH.cons rfl (fun K hK => ?_) AllReadyH.nil))
                  · skip
                    refine held_append rfl _ _ 55 rfl rfl rfl HRP7.out ?_
                    refine hK.out _ _ (Lib.hid (below_keep (S := fun j => j = g) HBP1.out)) (fun hS => ?_)
                    clear hK K
                    try simp only [Act.put, List.getElem_toArray, List.getElem_cons_succ, List.getElem_cons_zero, List.setIfInBounds_toArray, List.set_cons_zero, List.set_cons_succ]
                    refine wpAnyH_ready (rs := [10]) (by kernel_rfl) (by simp) ?_
                    refine (AllReadyH.cons rfl (fun K hK => ?_) AllReadyH.nil)
                    go_simp
                    refine hK.out _ _ (Lib.hid (below_keep (S := fun j => j = g) HBP2.out)) (fun hS => ?_)
                    clear hK K
                    try simp only [Act.put, List.getElem_toArray, List.getElem_cons_succ, List.getElem_cons_zero, List.setIfInBounds_toArray, List.set_cons_zero, List.set_cons_succ]
                    refine wpAnyH_ready (rs := [11]) (by kernel_rfl) (by simp) ?_
                    refine (AllReadyH.cons rfl (fun K hK => ?_) AllReadyH.nil)
                    refine held_append rfl _ _ 55 rfl rfl rfl HRP11.out ?_
                    refine hK.out _ _ (Lib.hid (below_keep (S := fun j => j = g) HBP3.out)) (fun hS => ?_)
                    clear hK K
                    try simp only [Act.put, List.getElem_toArray, List.getElem_cons_succ, List.getElem_cons_zero, List.setIfInBounds_toArray, List.set_cons_zero, List.set_cons_succ]
                    refine wpAnyH_ready (rs := [18]) (by kernel_rfl) (by simp) ?_
                    refine (AllReadyH.cons rfl (fun K hK => ?_) AllReadyH.nil)
                    refine held_append rfl _ _ 55 rfl rfl rfl HRP18.out ?_
                    refine hK.out _ _ (Lib.hid (below_keep (S := fun j => j = g) HBP4.out)) (fun hS => ?_)
                    clear hK K
                    try simp only [Act.put, List.getElem_toArray, List.getElem_cons_succ, List.getElem_cons_zero, List.setIfInBounds_toArray, List.set_cons_zero, List.set_cons_succ]
                    refine wpAnyH_take (i := 19) (v := ?_) rfl (by kernel_rfl) (by kernel_rfl) (by kernel_rfl) (fun _ _ _ h => h) (Or.inl ⟨by rfl, ?_⟩) hS ?_
                    rotate_left
                    · intro w hw
                      go_simp
                      try with_reducible rfl
                    try simp only [Act.put, List.getElem_toArray, List.getElem_cons_succ, List.getElem_cons_zero, List.setIfInBounds_toArray, List.set_cons_zero, List.set_cons_succ]
                    refine wpAnyH_take (i := 20) (v := ?_) rfl (by kernel_rfl) (by kernel_rfl) (by kernel_rfl) (fun _ _ _ h => h) (Or.inl ⟨by rfl, ?_⟩) hS ?_
                    rotate_left
                    · intro w hw
                      go_simp
                      try with_reducible rfl
                    try simp only [Act.put, List.getElem_toArray, List.getElem_cons_succ, List.getElem_cons_zero, List.setIfInBounds_toArray, List.set_cons_zero, List.set_cons_succ]
                    refine wpAnyH_ready (rs := [21]) (by kernel_rfl) (by simp) ?_
                    refine (AllReadyH.cons rfl (fun K hK => ?_) AllReadyH.nil)
                    have p1 := (BX.out.below HBP4.out HG.out).cell 1
                    have z1 := (BX.out.below HBP4.out HG.out).free 1
                    simp only [List.getElem?_cons_succ, List.getElem?_cons_zero] at p1
                    go_simp
                    refine hK.out _ _ (Lib.hid ((below_keep (S := fun j => j = g) HBP4.out).setCell (p := ⟨g, 1, none⟩) (.inr rfl) _)) (fun hS => ?_)
                    clear hK K p1 z1
                    try simp only [Act.put, List.getElem_toArray, List.getElem_cons_succ, List.getElem_cons_zero, List.setIfInBounds_toArray, List.set_cons_zero, List.set_cons_succ]
                    refine wpAnyH_done (by kernel_rfl) ?_ _
                    go_wp2_with fail
                    go_meet
                    exact FINP.out
                  · skip
                    go_simp
                    refine hK.out _ _ (Lib.hid (below_keep (S := fun j => j = g) HBQ1.out)) (fun hS => ?_)
                    clear hK K
                    try simp only [Act.put, List.getElem_toArray, List.getElem_cons_succ, List.getElem_cons_zero, List.setIfInBounds_toArray, List.set_cons_zero, List.set_cons_succ]
                    refine wpAnyH_ready (rs := [7]) (by kernel_rfl) (by simp) ?_
                    refine (AllReadyH.cons rfl (fun K hK => ?_) AllReadyH.nil)
                    refine held_append rfl _ _ 55 rfl rfl rfl HRQ7.out ?_
                    refine hK.out _ _ (Lib.hid (below_keep (S := fun j => j = g) HBQ2.out)) (fun hS => ?_)
                    clear hK K
                    try simp only [Act.put, List.getElem_toArray, List.getElem_cons_succ, List.getElem_cons_zero, List.setIfInBounds_toArray, List.set_cons_zero, List.set_cons_succ]
                    refine wpAnyH_ready (rs := [11]) (by kernel_rfl) (by simp) ?_
                    refine (AllReadyH.cons rfl (fun K hK => ?_) AllReadyH.nil)
                    refine held_append rfl _ _ 55 rfl rfl rfl HRQ11.out ?_
                    refine hK.out _ _ (Lib.hid (below_keep (S := fun j => j = g) HBQ3.out)) (fun hS => ?_)
                    clear hK K
                    try simp only [Act.put, List.getElem_toArray, List.getElem_cons_succ, List.getElem_cons_zero, List.setIfInBounds_toArray, List.set_cons_zero, List.set_cons_succ]
                    refine wpAnyH_ready (rs := [18]) (by kernel_rfl) (by simp) ?_
                    refine (AllReadyH.cons rfl (fun K hK => ?_) AllReadyH.nil)
                    refine held_append rfl _ _ 55 rfl rfl rfl HRQ18.out ?_
                    refine hK.out _ _ (Lib.hid (below_keep (S := fun j => j = g) HBQ4.out)) (fun hS => ?_)
                    clear hK K
                    try simp only [Act.put, List.getElem_toArray, List.getElem_cons_succ, List.getElem_cons_zero, List.setIfInBounds_toArray, List.set_cons_zero, List.set_cons_succ]
                    refine wpAnyH_take (i := 19) (v := ?_) rfl (by kernel_rfl) (by kernel_rfl) (by kernel_rfl) (fun _ _ _ h => h) (Or.inl ⟨by rfl, ?_⟩) hS ?_
                    rotate_left
                    · intro w hw
                      go_simp
                      try with_reducible rfl
                    try simp only [Act.put, List.getElem_toArray, List.getElem_cons_succ, List.getElem_cons_zero, List.setIfInBounds_toArray, List.set_cons_zero, List.set_cons_succ]
                    refine wpAnyH_take (i := 20) (v := ?_) rfl (by kernel_rfl) (by kernel_rfl) (by kernel_rfl) (fun _ _ _ h => h) (Or.inl ⟨by rfl, ?_⟩) hS ?_
                    rotate_left
                    · intro w hw
                      go_simp
                      try with_reducible rfl
                    try simp only [Act.put, List.getElem_toArray, List.getElem_cons_succ, List.getElem_cons_zero, List.setIfInBounds_toArray, List.set_cons_zero, List.set_cons_succ]
                    refine wpAnyH_ready (rs := [21]) (by kernel_rfl) (by simp) ?_
                    refine (AllReadyH.cons rfl (fun K hK => ?_) AllReadyH.nil)
                    have p1 := (BX.out.below HBQ4.out HG.out).cell 1
                    have z1 := (BX.out.below HBQ4.out HG.out).free 1
                    simp only [List.getElem?_cons_succ, List.getElem?_cons_zero] at p1
                    go_simp
                    refine hK.out _ _ (Lib.hid ((below_keep (S := fun j => j = g) HBQ4.out).setCell (p := ⟨g, 1, none⟩) (.inr rfl) _)) (fun hS => ?_)
                    clear hK K p1 z1
                    try simp only [Act.put, List.getElem_toArray, List.getElem_cons_succ, List.getElem_cons_zero, List.setIfInBounds_toArray, List.set_cons_zero, List.set_cons_succ]
                    refine wpAnyH_done (by kernel_rfl) ?_ _
                    go_wp2_with fail
                    go_meet
                    exact FINQ.out
                · skip
                  go_simp
                  refine hK.out _ _ (Lib.hid (below_keep (S := fun j => j = g) HBQ1.out)) (fun hS => ?_)
                  clear hK K
                  try simp only [Act.put, List.getElem_toArray, List.getElem_cons_succ, List.getElem_cons_zero, List.setIfInBounds_toArray, List.set_cons_zero, List.set_cons_succ]
                  refine wpAnyH_ready (rs := [4]) (by kernel_rfl) (by simp) ?_
                  refine (AllReadyH.cons rfl (fun K hK => ?_) AllReadyH.nil)
                  have p1 : (W2.alloc (.cells #[.string nm, .slice none 0 0, .int .i64 0] Ty.file)).drew.cell? ⟨g, 1, none⟩ = some (.slice A L.length c) := (BX.out.below HBQ1.out HG.out).cell 1
                  go_simp
                  refine hK.out _ _ hS (fun hS => ?_)
                  clear hK K p1
                  try simp only [Act.put, List.getElem_toArray, List.getElem_cons_succ, List.getElem_cons_zero, List.setIfInBounds_toArray, List.set_cons_zero, List.set_cons_succ]
                  refine wpAnyH_take (i := 6) (v := ?_) rfl (by kernel_rfl) (by kernel_rfl) (by kernel_rfl) (fun _ _ _ h => h) (Or.inl ⟨by rfl, ?_⟩) hS ?_
                  rotate_left
                  · intro w hw
                    go_simp
                    try with_reducible rfl
                  try simp only [Act.put, List.getElem_toArray, List.getElem_cons_succ, List.getElem_cons_zero, List.setIfInBounds_toArray, List.set_cons_zero, List.set_cons_succ]
                  refine wpAnyH_ready (rs := [7]) (by kernel_rfl) (by simp) ?_
                  refine (AllReadyH.cons rfl (fun K hK => ?_) AllReadyH.nil)
                  refine held_append rfl _ _ 55 rfl rfl rfl HRQ7.out ?_
                  refine hK.out _ _ (Lib.hid (below_keep (S := fun j => j = g) HBQ2.out)) (fun hS => ?_)
                  clear hK K
                  try simp only [Act.put, List.getElem_toArray, List.getElem_cons_succ, List.getElem_cons_zero, List.setIfInBounds_toArray, List.set_cons_zero, List.set_cons_succ]
                  refine wpAnyH_ready (rs := [11]) (by kernel_rfl) (by simp) ?_
                  refine (AllReadyH.cons rfl (fun K hK => ?_) AllReadyH.nil)
                  refine held_append rfl _ _ 55 rfl rfl rfl HRQ11.out ?_
                  refine hK.out _ _ (Lib.hid (below_keep (S := fun j => j = g) HBQ3.out)) (fun hS => ?_)
                  clear hK K
                  try simp only [Act.put, List.getElem_toArray, List.getElem_cons_succ, List.getElem_cons_zero, List.setIfInBounds_toArray, List.set_cons_zero, List.set_cons_succ]
                  refine wpAnyH_ready (rs := [18]) (by kernel_rfl) (by simp) ?_
                  refine (AllReadyH.cons rfl (fun K hK => ?_) AllReadyH.nil)
                  refine held_append rfl _ _ 55 rfl rfl rfl HRQ18.out ?_
                  refine hK.out _ _ (Lib.hid (below_keep (S := fun j => j = g) HBQ4.out)) (fun hS => ?_)
                  clear hK K
                  try simp only [Act.put, List.getElem_toArray, List.getElem_cons_succ, List.getElem_cons_zero, List.setIfInBounds_toArray, List.set_cons_zero, List.set_cons_succ]
                  refine wpAnyH_take (i := 19) (v := ?_) rfl (by kernel_rfl) (by kernel_rfl) (by kernel_rfl) (fun _ _ _ h => h) (Or.inl ⟨by rfl, ?_⟩) hS ?_
                  rotate_left
                  · intro w hw
                    go_simp
                    try with_reducible rfl
                  try simp only [Act.put, List.getElem_toArray, List.getElem_cons_succ, List.getElem_cons_zero, List.setIfInBounds_toArray, List.set_cons_zero, List.set_cons_succ]
                  refine wpAnyH_take (i := 20) (v := ?_) rfl (by kernel_rfl) (by kernel_rfl) (by kernel_rfl) (fun _ _ _ h => h) (Or.inl ⟨by rfl, ?_⟩) hS ?_
                  rotate_left
                  · intro w hw
                    go_simp
                    try with_reducible rfl
                  try simp only [Act.put, List.getElem_toArray, List.getElem_cons_succ, List.getElem_cons_zero, List.setIfInBounds_toArray, List.set_cons_zero, List.set_cons_succ]
                  refine wpAnyH_ready (rs := [21]) (by kernel_rfl) (by simp) ?_
                  refine (AllReadyH.cons rfl (fun K hK => ?_) AllReadyH.nil)
                  have p1 := (BX.out.below HBQ4.out HG.out).cell 1
                  have z1 := (BX.out.below HBQ4.out HG.out).free 1
                  simp only [List.getElem?_cons_succ, List.getElem?_cons_zero] at p1
                  go_simp
                  refine hK.out _ _ (Lib.hid ((below_keep (S := fun j => j = g) HBQ4.out).setCell (p := ⟨g, 1, none⟩) (.inr rfl) _)) (fun hS => ?_)
                  clear hK K p1 z1
                  try simp only [Act.put, List.getElem_toArray, List.getElem_cons_succ, List.getElem_cons_zero, List.setIfInBounds_toArray, List.set_cons_zero, List.set_cons_succ]
                  refine wpAnyH_done (by kernel_rfl) ?_ _
                  go_wp2_with fail
                  go_meet
                  exact FINQ.out
            case rest =>
            obtain ⟨A3, c3, hL3, hk3⟩ := hcut
            have HK3 := Lib.hid hk3
            obtain ⟨L3, hL3e⟩ : ∃ L3, L3 = L.take i ++ dN :: L.drop i := ⟨_, rfl⟩
            rw [← hL3e] at hL3
            have hd3 : L3[i]? = some dN := by
              rw [hL3e, List.getElem?_append_right (by rw [List.length_take]; omega), List.length_take, Nat.min_eq_left hile, Nat.sub_self]
              rfl
            have HL3 := Lib.hid hL3
            have HD3 := Lib.hid hd3
            have hlt3 := (List.getElem?_eq_some_iff.1 hd3).1
            obtain ⟨hcap3, hcm3⟩ := hL3.cap
            obtain ⟨_, p1, _⟩ := hL3.facts
            obtain ⟨gl, hA, _, q1, _, z1, _⟩ := hL3.place hd3
            subst hA
            have HGL : Hid (¬ gl = g) := Lib.hid fun e => by
              subst e
              exact own_apart hL3.own hL3.box (by decide) rfl
            have hok := hL3.ok dN (List.mem_of_getElem? hd3)
            have hlies : Lies wc wc.heap.size dN.a (dN.bs.map vb) := hok.lies.lies fun k hk => hL3.lt k hk.1
            have HLS3 : Lies wc wc.heap.size Ab (bs.map vb) := LiesP.lies (LiesP.later (R' := fun k => k < wc.heap.size) HLS.out (fun k hk => hk3.block k hk.2 fun e => hk.1 (by rw [e]; exact HSG.out)) fun k hk => Nat.lt_of_lt_of_le hk.2 hk3.size) fun k hk => hk
            have hdb : dN.bs = [] := by rw [hdN]
            obtain ⟨A5, c5, W3, hr3, hown3, hb3⟩ := fresh_bytes dN.a dN.c _ dN.bs wc.drew (hlies.below ((Below.refl _ _).drew)) (by rw [hdb]; simp)
            have hb3' : Below wc.heap.size wc W3 := (Below.refl wc.heap.size wc).drew.trans hb3
            have hl4 : Lies W3 wc.heap.size Ab (bs.map vb) := HLS3.below hb3'
            obtain ⟨v4, W4, hr4, hown4, hb4, hz4⟩ := run_append_lies (P := Tryz.prog) (w := W3) (base := wc.heap.size) (m := bs.length) (c := cb) 24 24 5 (.int .u8 0) 1 1 Tryz.underlying24 (by kernel_rfl) rfl (by decide)
              (fun u hu => by simp at hu; obtain ⟨_, _, rfl⟩ := hu; rfl) hown3 hl4 (by simp) (by rw [hdb]; unfold maxLen; simp; omega) (by rw [hdb]; simp; omega) hb3'.size
            have hb4' : Below wc.heap.size wc W4 := hb3'.trans hb4
            rw [← List.map_append, ← List.length_append] at hown4
            obtain ⟨A4, c4, rfl, _, _, _⟩ := own_parts hown4
            have hfin := hL3.wrote (i := i) (d := dN) (xs := dN.bs ++ bs) hd3 hb4' hown4 (fun x hx => by
              rw [hdb, List.nil_append] at hx
              exact HB8.out x hx) (by rw [hdb, List.nil_append]; have := HBL.out; omega) (by rw [hdN]; exact Nat.zero_le _)
            have FIN : Hid (∀ W', W' = W4.setCell ⟨gl, i * 3 + 1, none⟩ (.slice A4 (dN.bs ++ bs).length c4) → RTold w g S rm (0, { (hit m).2 with fs := insM ⟨nm, bs, 0⟩ m.fs }) (.returned (.int .i64 0)) W') := Lib.hid (by
              rintro W' rfl
              have hgl : S gl ∨ W2.heap.size ≤ gl := (hL3.so gl rfl).imp id fun h => h.1
              refine ⟨Gr (Gr S W2 wc) wc W4, rfl, ?_, ?_, fun k hk => ?_⟩
              · have h1 := hfin.toAt
                have e1 : put1 (insM ⟨nm, [], 0⟩ m.fs) ⟨dN.nm, dN.bs ++ bs, dN.syn⟩ = insM ⟨nm, bs, 0⟩ m.fs := by
                  rw [hdN]
                  exact put_ins (f := ⟨nm, [], 0⟩) (f' := ⟨nm, bs, 0⟩) rfl HNO.out
                dsimp only at h1
                rw [e1] at h1
                exact h1
              · have hkw : Keep S w wc := (HK2.out.mono (T := S) fun k hk => by rw [hk]; exact HSG.out).trans HK3.out fun k _ hk => by rw [hk]; exact HSG.out
                exact (hkw.trans (T := fun _ => False) (below_keep hb4') fun _ _ h => h.elim).setCell (p := ⟨gl, i * 3 + 1, none⟩) (hgl.elim .inr fun h => .inl (Nat.le_trans HK2.out.size h)) _
              · have h2 := HK2.out.size
                have h3 := HK3.out.size
                rcases hk with hk | hk
                · exact hk.imp id fun h => Nat.le_trans h2 h.1
                · exact .inr (Nat.le_trans h2 (Nat.le_trans h3 hk.1)))
            have hL4 := hL3.keep (T := fun _ => False) (below_keep hb4') fun _ _ => id
            obtain ⟨gl', hA', _, q2, _, z2, _⟩ := hL4.place hd3
            cases hA'
            obtain ⟨n4, hn4⟩ : ∃ n4, n4 = (dN.bs ++ bs).length := ⟨_, rfl⟩
            rw [← hn4] at FIN hr4
            obtain ⟨nb, hnb⟩ : ∃ nb, nb = dN.bs.length := ⟨_, rfl⟩
            rw [← hnb] at hr3 hr4 q1 q2
            obtain ⟨n2, hn2⟩ : ∃ n2, n2 = L3.length := ⟨_, rfl⟩
            rw [← hn2] at p1 hlt3 hcap3
            have HP := Lib.hid p1
            have Q1 := Lib.hid q1
            have HR3 := Lib.hid hr3
            have HR4 := Lib.hid hr4
            have HB3 := Lib.hid hb3'
            have HB4 := Lib.hid hb4'
            have Q2 := Lib.hid q2
            have Z2 := Lib.hid z2
            clear hk3 hL3 hd3 z1 hok hlies HLS3 hdb hr3 hown3 hb3 hb3' hl4 hr4 hown4 hb4 hz4 hb4' hfin hL4 q2 z2 hn4 hnb hn2 hL3e hdN p0 hs1 hs2 FINP FINQ HRP7 HRP11 HRP18 HRQ7 HRQ11 HRQ18 HBP1 HBP2 HBP3 HBP4 HBQ1 HBQ2 HBQ3 HBQ4
            go_upto_region 18 with fail
            refine wp_region_held_drew (S := fun w' => Hid (Keep (fun j => j = gl) wc w')) (by kernel_rfl) (Lib.hid (Keep.refl _ _).drew) (fun hS => ?_)
            refine wpAnyH_take (i := 0) (v := ?_) rfl (by kernel_rfl) (by kernel_rfl) (by kernel_rfl) (fun _ _ _ h => h) (Or.inl ⟨by rfl, ?_⟩) hS ?_
            rotate_left
            · intro w hw
              go_simp
              try with_reducible rfl
            try simp only [Act.put, List.getElem_toArray, List.getElem_cons_succ, List.getElem_cons_zero, List.setIfInBounds_toArray, List.set_cons_zero, List.set_cons_succ]
            refine wpAnyH_take (i := 1) (v := ?_) rfl (by kernel_rfl) (by kernel_rfl) (by kernel_rfl) (fun _ _ _ h => h) (Or.inl ⟨by rfl, ?_⟩) hS ?_
            rotate_left
            · intro w hw
              go_simp
              try with_reducible rfl
            try simp only [Act.put, List.getElem_toArray, List.getElem_cons_succ, List.getElem_cons_zero, List.setIfInBounds_toArray, List.set_cons_zero, List.set_cons_succ]
            refine wpAnyH_take (i := 2) (v := ?_) rfl (by kernel_rfl) (by kernel_rfl) (by kernel_rfl) (fun _ _ _ h => h) (Or.inl ⟨by rfl, ?_⟩) hS ?_
            rotate_left
            · intro w hw
              go_simp
              try with_reducible rfl
            try simp only [Act.put, List.getElem_toArray, List.getElem_cons_succ, List.getElem_cons_zero, List.setIfInBounds_toArray, List.set_cons_zero, List.set_cons_succ]
            refine wpAnyH_take (i := 3) (v := ?_) rfl (by kernel_rfl) (by kernel_rfl) (by kernel_rfl) (fun _ _ _ h => h) (Or.inl ⟨by rfl, ?_⟩) hS ?_
            rotate_left
            · intro w hw
              have p1 : w.cell? ⟨g, 1, none⟩ = some (.slice (some ⟨gl, 0, none⟩) n2 c3) := (World.cell?_of_block (w := wc) (hw.out.block g (HL3.out.lt g HL3.out.sg) (fun e => HGL.out e.symm))).trans HP.out
              go_simp
              try with_reducible rfl
            try simp only [Act.put, List.getElem_toArray, List.getElem_cons_succ, List.getElem_cons_zero, List.setIfInBounds_toArray, List.set_cons_zero, List.set_cons_succ]
            refine wpAnyH_take (i := 4) (v := ?_) rfl (by kernel_rfl) (by kernel_rfl) (by kernel_rfl) (fun _ _ _ h => h) (Or.inl ⟨by rfl, ?_⟩) hS ?_
            rotate_left
            · intro w hw
              go_simp
              try with_reducible rfl
            try simp only [Act.put, List.getElem_toArray, List.getElem_cons_succ, List.getElem_cons_zero, List.setIfInBounds_toArray, List.set_cons_zero, List.set_cons_succ]
            refine wpAnyH_take (i := 5) (v := ?_) rfl (by kernel_rfl) (by kernel_rfl) (by kernel_rfl) (fun _ _ _ h => h) (Or.inl ⟨by rfl, ?_⟩) hS ?_
            rotate_left
            · intro w hw
              go_simp
              try with_reducible rfl
            try simp only [Act.put, List.getElem_toArray, List.getElem_cons_succ, List.getElem_cons_zero, List.setIfInBounds_toArray, List.set_cons_zero, List.set_cons_succ]
            refine wpAnyH_take (i := 6) (v := ?_) rfl (by kernel_rfl) (by kernel_rfl) (by kernel_rfl) (fun _ _ _ h => h) (Or.inl ⟨by rfl, ?_⟩) hS ?_
            rotate_left
            · intro w hw
              go_simp
              try with_reducible rfl
            try simp only [Act.put, List.getElem_toArray, List.getElem_cons_succ, List.getElem_cons_zero, List.setIfInBounds_toArray, List.set_cons_zero, List.set_cons_succ]
            refine wpAnyH_take (i := 7) (v := ?_) rfl (by kernel_rfl) (by kernel_rfl) (by kernel_rfl) (fun _ _ _ h => h) (Or.inl ⟨by rfl, ?_⟩) hS ?_
            rotate_left
            · intro w hw
              go_simp
              try with_reducible rfl
            try simp only [Act.put, List.getElem_toArray, List.getElem_cons_succ, List.getElem_cons_zero, List.setIfInBounds_toArray, List.set_cons_zero, List.set_cons_succ]
            refine wpAnyH_take (i := 8) (v := ?_) rfl (by kernel_rfl) (by kernel_rfl) (by kernel_rfl) (fun _ _ _ h => h) (Or.inl ⟨by rfl, ?_⟩) hS ?_
            rotate_left
            · intro w hw
              have p1 : w.cell? ⟨g, 1, none⟩ = some (.slice (some ⟨gl, 0, none⟩) n2 c3) := (World.cell?_of_block (w := wc) (hw.out.block g (HL3.out.lt g HL3.out.sg) (fun e => HGL.out e.symm))).trans HP.out
              go_simp
              try with_reducible rfl
            try simp only [Act.put, List.getElem_toArray, List.getElem_cons_succ, List.getElem_cons_zero, List.setIfInBounds_toArray, List.set_cons_zero, List.set_cons_succ]
            refine wpAnyH_take (i := 9) (v := ?_) rfl (by kernel_rfl) (by kernel_rfl) (by kernel_rfl) (fun _ _ _ h => h) (Or.inl ⟨by rfl, ?_⟩) hS ?_
            rotate_left
            · intro w hw
              go_simp
              try with_reducible rfl
            try simp only [Act.put, List.getElem_toArray, List.getElem_cons_succ, List.getElem_cons_zero, List.setIfInBounds_toArray, List.set_cons_zero, List.set_cons_succ]
            refine wpAnyH_take (i := 10) (v := ?_) rfl (by kernel_rfl) (by kernel_rfl) (by kernel_rfl) (fun _ _ _ h => h) (Or.inl ⟨by rfl, ?_⟩) hS ?_
            rotate_left
            · intro w hw
              go_simp
              try with_reducible rfl
            try simp only [Act.put, List.getElem_toArray, List.getElem_cons_succ, List.getElem_cons_zero, List.setIfInBounds_toArray, List.set_cons_zero, List.set_cons_succ]
            refine wpAnyH_take (i := 11) (v := ?_) rfl (by kernel_rfl) (by kernel_rfl) (by kernel_rfl) (fun _ _ _ h => h) (Or.inl ⟨by rfl, ?_⟩) hS ?_
            rotate_left
            · intro w hw
              go_simp
              try with_reducible rfl
            try simp only [Act.put, List.getElem_toArray, List.getElem_cons_succ, List.getElem_cons_zero, List.setIfInBounds_toArray, List.set_cons_zero, List.set_cons_succ]
            refine wpAnyH_take (i := 14) (v := ?_) rfl (by kernel_rfl) (by kernel_rfl) (by kernel_rfl) (fun _ _ _ h => h) (Or.inl ⟨by rfl, ?_⟩) hS ?_
            rotate_left
            · intro w hw
              go_simp
              try with_reducible rfl
            try simp only [Act.put, List.getElem_toArray, List.getElem_cons_succ, List.getElem_cons_zero, List.setIfInBounds_toArray, List.set_cons_zero, List.set_cons_succ]
            refine wpAnyH_ready (rs := [12]) (by kernel_rfl) (by simp) ?_
            refine (AllReadyH.cons rfl (fun K hK => ?_) AllReadyH.nil)
            have q1 : wc.cell? ⟨gl, i * 3 + 1, none⟩ = some (.slice dN.a nb dN.c) := Q1.out
            go_simp
            refine hK.out _ _ hS (fun hS => ?_)
            clear hK K q1
            try simp only [Act.put, List.getElem_toArray, List.getElem_cons_succ, List.getElem_cons_zero, List.setIfInBounds_toArray, List.set_cons_zero, List.set_cons_succ]
            refine wpAnyH_ready (rs := [13]) (by kernel_rfl) (by simp) ?_
            refine (AllReadyH.cons rfl (fun K hK => ?_) AllReadyH.nil)
            refine held_append rfl _ _ 24 rfl rfl rfl HR3.out ?_
            refine hK.out _ _ (Lib.hid (below_keep (S := fun j => j = gl) HB3.out)) (fun hS => ?_)
            clear hK K
            try simp only [Act.put, List.getElem_toArray, List.getElem_cons_succ, List.getElem_cons_zero, List.setIfInBounds_toArray, List.set_cons_zero, List.set_cons_succ]
            refine wpAnyH_ready (rs := [15]) (by kernel_rfl) (by simp) ?_
            refine (AllReadyH.cons rfl (fun K hK => ?_) AllReadyH.nil)
            refine held_append rfl _ _ 24 rfl rfl rfl HR4.out ?_
            refine hK.out _ _ (Lib.hid (below_keep (S := fun j => j = gl) HB4.out)) (fun hS => ?_)
            clear hK K
            try simp only [Act.put, List.getElem_toArray, List.getElem_cons_succ, List.getElem_cons_zero, List.setIfInBounds_toArray, List.set_cons_zero, List.set_cons_succ]
            refine wpAnyH_take (i := 16) (v := ?_) rfl (by kernel_rfl) (by kernel_rfl) (by kernel_rfl) (fun _ _ _ h => h) (Or.inl ⟨by rfl, ?_⟩) hS ?_
            rotate_left
            · intro w hw
              go_simp
              try with_reducible rfl
            try simp only [Act.put, List.getElem_toArray, List.getElem_cons_succ, List.getElem_cons_zero, List.setIfInBounds_toArray, List.set_cons_zero, List.set_cons_succ]
            refine wpAnyH_take (i := 17) (v := ?_) rfl (by kernel_rfl) (by kernel_rfl) (by kernel_rfl) (fun _ _ _ h => h) (Or.inl ⟨by rfl, ?_⟩) hS ?_
            rotate_left
            · intro w hw
              go_simp
              try with_reducible rfl
            try simp only [Act.put, List.getElem_toArray, List.getElem_cons_succ, List.getElem_cons_zero, List.setIfInBounds_toArray, List.set_cons_zero, List.set_cons_succ]
            refine wpAnyH_ready (rs := [18]) (by kernel_rfl) (by simp) ?_
            refine (AllReadyH.cons rfl (fun K hK => ?_) AllReadyH.nil)
            have q2 := Q2.out
            have z2 := Z2.out
            go_simp
            refine hK.out _ _ (Lib.hid ((below_keep (S := fun j => j = gl) HB4.out).setCell (p := ⟨gl, i * 3 + 1, none⟩) (.inr rfl) _)) (fun hS => ?_)
            clear hK K q2 z2
            try simp only [Act.put, List.getElem_toArray, List.getElem_cons_succ, List.getElem_cons_zero, List.setIfInBounds_toArray, List.set_cons_zero, List.set_cons_succ]
            refine wpAnyH_done (by kernel_rfl) ?_ _
            go_wp2_with fail
            go_ret
            rw [E.out]
            exact FIN.out _ rfl

  · have E : Hid (appendM m nm bs = (11, (hit m).2)) := Lib.hid (by
      have hb0 : bad m [nm] = 11 := by unfold bad; rw [hh]; rfl
      unfold appendM
      rw [hb0, if_pos (by decide)])
    clear hh
    go_wp2_with fail
    go_ret
    rw [E.out]
    exact rtold_same HL.out HK.out
end
end Go.Proofs.YtnbknihaefkllaaGreatDoor.Rk
/- The document's own disk: a crash, round by round. -/
namespace Go.Proofs.YtnbknihaefkllaaGreatDoor.Rk
set_option linter.unusedVariables false
set_option linter.unusedSimpArgs false
open Go.RowKit Go.Maps Lift Ik Dk

theorem crash_step {l : List FM} {j : Nat} {f : FM} (k : Nat) (h : l[j]? = some f) : ((l.take j).map (crm k) ++ l.drop j).set j (crm k f) = (l.take (j + 1)).map (crm k) ++ l.drop (j + 1) := by
  have hlt := (List.getElem?_eq_some_iff.1 h).1
  have hl : ((l.take j).map (crm k)).length = j := by rw [List.length_map, List.length_take]; omega
  rw [List.set_append_right _ _ (by omega), hl, Nat.sub_self, Ik.drop_cons h, List.set_cons_zero, List.take_add_one, h]
  simp
theorem set_map {L : List D} {i : Nat} {d : D} : (L.set i d).map D.m = (L.map D.m).set i d.m := List.map_set
section
variable {w w' : World} {g : Nat} {S S' T : Nat → Prop} {rm : Int} {m : MS} {L : List D} {A F : Option Addr} {c cf : Nat}
/-- How many of a file's bytes are synced is written. -/
theorem Lay.syn {W : World} {i gl s : Nat} {d : D} (h : Lay W g S rm m L (some ⟨gl, 0, none⟩) F c cf) (hd : L[i]? = some d) (hs : s ≤ d.bs.length) :
    Lay (W.setCell ⟨gl, i * 3 + 2, none⟩ (.int .i64 (s : Int))) g S rm { m with fs := put1 m.fs ⟨d.nm, d.bs, s⟩ } (L.set i ⟨d.nm, d.a, d.c, d.bs, s⟩) (some ⟨gl, 0, none⟩) F c cf := by
  have hlt := (List.getElem?_eq_some_iff.1 hd).1
  have hcl := cellsL_set L i d ⟨d.nm, d.a, d.c, d.bs, s⟩ hd rfl
  have hlen := cellsL_length L
  have hkk : Keep (fun k => (Value.slice (some (⟨gl, 0, none⟩ : Addr)) L.length c).ownBlock = some k) W (W.setCell ⟨gl, i * 3 + 2, none⟩ (.int .i64 (s : Int))) := (Keep.refl (fun k => (Value.slice (some (⟨gl, 0, none⟩ : Addr)) L.length c).ownBlock = some k) W).setCell (p := ⟨gl, i * 3 + 2, none⟩) (.inr rfl) _
  have hown := own_set (u := .int .i64 (s : Int)) h.own (show i * 3 + 2 < (cellsL L).length by rw [hlen]; omega)
  have hset : (cellsL L).set (i * 3 + 1) (.slice d.a d.bs.length d.c) = cellsL L := set_same (cellsL_at hd 1 (by omega))
  have ok := h.ok d (List.mem_of_getElem? hd)
  refine h.put (S' := S) (d' := ⟨d.nm, d.a, d.c, d.bs, s⟩) hd rfl hkk (by rw [hcl]; simp only; rw [hset]; exact hown) ?_ (fun _ => id) (fun k hk => by have := h.lt k hk; simpa [World.setCell] using this)
  have o2 := ok.keep hkk (fun k hk _ hh => by
    obtain ⟨cs, fr, hh⟩ := hh
    rcases h.own.2 with ⟨h0, _⟩ | ⟨b, cap, cur, hv', _, hh', _⟩
    · cases h0
    · injection hv' with e1
      injection e1 with e1
      injection e1 with e1
      subst e1
      have e2 : gl = k := by simpa [Value.ownBlock] using hk
      subst e2
      exact typed hh' hh (by decide)) (S' := S) fun _ => id
  exact ⟨o2.lies, o2.cap, o2.max, o2.byte, o2.len, hs, o2.nm⟩
end
end Go.Proofs.YtnbknihaefkllaaGreatDoor.Rk
/- What Crash of the document's own disk does. -/
namespace Go.Proofs.YtnbknihaefkllaaGreatDoor.Rk
set_option linter.unusedVariables false
set_option linter.unusedSimpArgs false
open Go.RowKit Go.Maps Lift Ik Dk

theorem crm_cut {f : FM} {k s : Nat} (hs : f.syn ≤ f.bs.length) (h : s = min (f.syn + k) f.bs.length) : crm k f = ⟨f.nm, f.bs.take s, s⟩ := by
  have e : f.bs.take (f.syn + k) = f.bs.take s := by rw [List.take_eq_take_iff]; omega
  have hl : (f.bs.take s).length = s := by rw [List.length_take]; omega
  unfold crm
  rw [e, hl]
section
variable {w w' : World} {g : Nat} {S S' T : Nat → Prop} {rm : Int} {m : MS} {L : List D} {A F : Option Addr} {c cf : Nat}
/-- Behind a call that tells nothing. -/
def RDone (w : World) (g : Nat) (S : Nat → Prop) (rm : Int) (m : MS) (e : Ending) (w' : World) : Prop :=
  ∃ S', e = .returned (.tuple #[]) ∧ At w' g S' rm m ∧ Keep S w w' ∧ ∀ k, S' k → S k ∨ w.heap.size ≤ k
def half (m : MS) (k j : Nat) : MS := { m with fs := (m.fs.take j).map (crm k) ++ m.fs.drop j }
theorem half_at {m : MS} {k j : Nat} {f : FM} (h : m.fs[j]? = some f) : (half m k j).fs[j]? = some f := by
  have hlt := (List.getElem?_eq_some_iff.1 h).1
  have hl : ((m.fs.take j).map (crm k)).length = j := by rw [List.length_map, List.length_take]; omega
  show ((m.fs.take j).map (crm k) ++ m.fs.drop j)[j]? = some f
  rw [List.getElem?_append_right (by omega), hl, Nat.sub_self, List.getElem?_drop, Nat.add_zero]
  exact h
set_option maxRecDepth 100000 in
set_option maxHeartbeats 6400000 in
theorem rcrash_any (keep : Int) (hwf : (Lit.int .i64 keep).wf = true) (h : At w g S rm m) : Calls Tryz.prog (20) #[.pointer (some ⟨g, 0, none⟩), .int .i64 keep] w (RDone w g S rm (crashM m keep)) := by
  obtain ⟨L, A, F, c, cf, h⟩ := h
  have hk := i64_of hwf
  have H0 := Lib.hid h
  have HML : Hid (m.fs.length = L.length) := Lib.hid (by rw [h.told, List.length_map])
  have hmany := h.many
  obtain ⟨hcap, hcm⟩ := h.cap
  obtain ⟨p0, p1, _⟩ := h.facts
  obtain ⟨K, hKe⟩ : ∃ K, K = keep.toNat := ⟨_, rfl⟩
  have HKE := Lib.hid hKe
  obtain ⟨nn, hnn⟩ : ∃ nn, nn = L.length := ⟨_, rfl⟩
  have HNN := Lib.hid hnn
  rw [← hnn] at hmany hcap p1
  clear h hwf hnn
  go_enter Tryz.func20, Tryz.ntmps20
  go_wp2_with fail
  go_loopw [4] (fun i wr => ∃ (j : Nat) (S1 : Nat → Prop) (L1 : List D), i = .int .i64 (j : Int) ∧ j ≤ nn ∧ Hid (Lay wr g S1 rm (half m K j) L1 A F c cf) ∧ Hid (L1.length = nn) ∧ Hid (Keep S w wr) ∧ Hid (∀ k, S1 k → S k ∨ w.heap.size ≤ k)) (fun i _ => nn + 1 - (intOf i).toNat)
  case atStart => exact ⟨0, S, L, rfl, Nat.zero_le _, H0, Lib.hid HNN.out.symm, Lib.hid (Keep.refl _ _), Lib.hid fun k hk => .inl hk⟩
  case round =>
    clear p0 p1
    obtain ⟨j, S1, L1, rfl, hj, HL, HLN, HK, HS1⟩ := hrel
    obtain ⟨p0, p1, _⟩ := HL.out.facts
    rw [HLN.out] at p1
    by_cases hlt : j < nn
    · have dl : decide (j < nn) = true := decide_eq_true hlt
      obtain ⟨d, hd⟩ : ∃ d, L1[j]? = some d := ⟨_, List.getElem?_eq_getElem (by rw [HLN.out]; exact hlt)⟩
      have hf : m.fs[j]? = some d.m := by
        obtain ⟨f, hf⟩ : ∃ f, m.fs[j]? = some f := ⟨_, List.getElem?_eq_getElem (by rw [HML.out, ← HNN.out]; exact hlt)⟩
        have h1 := half_at (k := K) hf
        rw [HL.out.told, List.getElem?_map, hd] at h1
        rw [hf, ← h1]
        rfl
      have HF := Lib.hid hf
      have HD := Lib.hid hd
      obtain ⟨gl, hA, _, q1, q2, z1, z2⟩ := HL.out.place hd
      have hok := HL.out.ok d (List.mem_of_getElem? hd)
      have hdl := hok.len
      have hds := hok.syn
      have HGL : Hid (¬ gl = g) := Lib.hid fun e => by
        subst e
        exact own_apart HL.out.own HL.out.box (by decide) (by rw [hA]; rfl)
      subst hA
      have hgl := HL.out.lt gl (HL.out.so gl rfl)
      have HGS := Lib.hid (HL.out.so gl rfl)
      obtain ⟨nb, hnb⟩ : ∃ nb, nb = d.bs.length := ⟨_, rfl⟩
      obtain ⟨sy, hsy⟩ : ∃ sy, sy = d.syn := ⟨_, rfl⟩
      rw [← hnb, ← hsy] at hds
      rw [← hnb] at q1 hdl
      rw [← hsy] at q2
      have HNB := Lib.hid hnb
      have HSY := Lib.hid hsy
      have Q2 := Lib.hid q2
      have Z2 := Lib.hid z2
      have HP := Lib.hid p1
      clear hd hf hok hnb hsy z1 z2
      go_wp2_with fail
      go_quiet (fail)
      generalize hWq : wr.drewN _ = W2
      have hb2 : Below wr.heap.size wr W2 := by rw [← hWq]; exact Joins.below_draws _ _ _
      have HL2 := Lib.hid (HL.out.keep (T := fun _ => False) (below_keep hb2) fun _ _ => id)
      have HK2 := Lib.hid (HK.out.trans (T := fun _ => False) (below_keep hb2) fun _ _ h => h.elim)
      have HGW := Lib.hid (HL2.out.lt g HL2.out.sg)
      have q2' : W2.cell? ⟨gl, j * 3 + 2, none⟩ = some (.int .i64 (sy : Int)) := (hb2.cell (p := ⟨gl, j * 3 + 2, none⟩) hgl).trans q2
      have z2' : W2.frozen? ⟨gl, j * 3 + 2, none⟩ = false := by rw [← hWq]; exact Z2.out
      have p1' : W2.cell? ⟨g, 1, none⟩ = some (.slice (some ⟨gl, 0, none⟩) nn c) := (hb2.cell (p := ⟨g, 1, none⟩) (HL.out.lt g HL.out.sg)).trans p1
      clear Q2 Z2 HP
      have Q2 := Lib.hid q2'
      have Z2 := Lib.hid z2'
      have HP := Lib.hid p1'
      clear hWq hb2 q1 q2 q2' z2' p1' p0 p1
      go_upto_if 36 with fail
      go_cut [6] (fun v wx => v = .int .i64 (K : Int) ∧ wx = W2)
      case first =>
        by_cases kr : keep < 0
        · have d3 : decide (keep < 0) = true := decide_eq_true kr
          have hm0 : (K : Int) = 0 := by have := HKE.out; omega
          go_wp2_with fail
          go_meet
          exact ⟨by rw [hm0], rfl⟩
        · have d3 : decide (keep < 0) = false := decide_eq_false kr
          have hm0 : (K : Int) = keep := by have := HKE.out; omega
          go_wp2_with fail
          go_meet
          exact ⟨by rw [hm0], rfl⟩
      case rest =>
      obtain ⟨rfl, h0⟩ := hcut
      have h1 := h0.symm
      clear h0
      subst h1
      have hK9 : K ≤ 9223372036854775807 := by have := HKE.out; omega
      obtain ⟨kk, hkk⟩ : ∃ kk, kk = min K (nb - sy) := ⟨_, rfl⟩
      have HKK := Lib.hid hkk
      have hkk2 : kk ≤ nb - sy := by omega
      go_upto_if 39 with fail
      go_cut [6] (fun v wx => v = .int .i64 (kk : Int) ∧ wx = W2)
      case first =>
        by_cases kr : nb - sy < K
        · have d3 : decide ((nb : Int) - (sy : Int) < (K : Int)) = true := decide_eq_true (by omega)
          have hm0 : (kk : Int) = (nb : Int) - (sy : Int) := by omega
          go_wp2_with fail
          go_meet
          exact ⟨by rw [hm0], rfl⟩
        · have d3 : decide ((nb : Int) - (sy : Int) < (K : Int)) = false := decide_eq_false (by omega)
          have hm0 : (kk : Int) = (K : Int) := by omega
          go_wp2_with fail
          go_meet
          exact ⟨by rw [hm0], rfl⟩
      case rest =>
      obtain ⟨rfl, h0⟩ := hcut
      have h1 := h0.symm
      clear h0
      subst h1
      clear hkk
      have hsw : IntKind.i64.wrap ((sy : Int) + (kk : Int)) = (sy : Int) + (kk : Int) := by rw [IntKind.wrap_i64]; omega
      have FIN9 : Hid (Lay (W2.setCell ⟨gl, j * 3 + 2, none⟩ (.int .i64 ((sy : Int) + (kk : Int)))).drew g S1 rm { half m K j with fs := put1 (half m K j).fs ⟨d.nm, d.bs, sy + kk⟩ } (L1.set j ⟨d.nm, d.a, d.c, d.bs, sy + kk⟩) (some ⟨gl, 0, none⟩) F c cf ∧ Keep S w (W2.setCell ⟨gl, j * 3 + 2, none⟩ (.int .i64 ((sy : Int) + (kk : Int)))).drew) := Lib.hid (by
        have h1 := HL2.out.syn (s := sy + kk) HD.out (by rw [← HNB.out]; omega)
        rw [Int.natCast_add] at h1
        exact ⟨h1.keep (T := fun _ => False) (below_keep ((Below.refl _ _).drew)) fun _ _ => id, (HK2.out.setCell (p := ⟨gl, j * 3 + 2, none⟩) ((HS1.out gl HGS.out).elim .inr .inl) _).drew⟩)
      go_upto_region 9 with fail
      go_cut [] (fun wx => Lay wx g S1 rm { half m K j with fs := put1 (half m K j).fs ⟨d.nm, d.bs, sy + kk⟩ } (L1.set j ⟨d.nm, d.a, d.c, d.bs, sy + kk⟩) (some ⟨gl, 0, none⟩) F c cf ∧ Keep S w wx)
      case first =>
        refine wp_region_held_drew (S := fun w' => Hid (Keep (fun j => j = gl) W2 w')) (by kernel_rfl) (Lib.hid (Keep.refl _ _).drew) (fun hS => ?_)
        refine wpAnyH_take (i := 0) (v := ?_) rfl (by kernel_rfl) (by kernel_rfl) (by kernel_rfl) (fun _ _ _ h => h) (Or.inl ⟨by rfl, ?_⟩) hS ?_
        rotate_left
        · intro w hw
          go_simp
          try with_reducible rfl
        try simp only [Act.put, List.getElem_toArray, List.getElem_cons_succ, List.getElem_cons_zero, List.setIfInBounds_toArray, List.set_cons_zero, List.set_cons_succ]
        refine wpAnyH_take (i := 1) (v := ?_) rfl (by kernel_rfl) (by kernel_rfl) (by kernel_rfl) (fun _ _ _ h => h) (Or.inl ⟨by rfl, ?_⟩) hS ?_
        rotate_left
        · intro w hw
          go_simp
          try with_reducible rfl
        try simp only [Act.put, List.getElem_toArray, List.getElem_cons_succ, List.getElem_cons_zero, List.setIfInBounds_toArray, List.set_cons_zero, List.set_cons_succ]
        refine wpAnyH_take (i := 2) (v := ?_) rfl (by kernel_rfl) (by kernel_rfl) (by kernel_rfl) (fun _ _ _ h => h) (Or.inl ⟨by rfl, ?_⟩) hS ?_
        rotate_left
        · intro w hw
          go_simp
          try with_reducible rfl
        try simp only [Act.put, List.getElem_toArray, List.getElem_cons_succ, List.getElem_cons_zero, List.setIfInBounds_toArray, List.set_cons_zero, List.set_cons_succ]
        refine wpAnyH_take (i := 3) (v := ?_) rfl (by kernel_rfl) (by kernel_rfl) (by kernel_rfl) (fun _ _ _ h => h) (Or.inl ⟨by rfl, ?_⟩) hS ?_
        rotate_left
        · intro w hw
          have p1 : w.cell? ⟨g, 1, none⟩ = some (.slice (some ⟨gl, 0, none⟩) nn c) := (World.cell?_of_block (w := W2) (hw.out.block g HGW.out (fun e => HGL.out e.symm))).trans HP.out
          go_simp
          try with_reducible rfl
        try simp only [Act.put, List.getElem_toArray, List.getElem_cons_succ, List.getElem_cons_zero, List.setIfInBounds_toArray, List.set_cons_zero, List.set_cons_succ]
        refine wpAnyH_take (i := 4) (v := ?_) rfl (by kernel_rfl) (by kernel_rfl) (by kernel_rfl) (fun _ _ _ h => h) (Or.inl ⟨by rfl, ?_⟩) hS ?_
        rotate_left
        · intro w hw
          go_simp
          try with_reducible rfl
        try simp only [Act.put, List.getElem_toArray, List.getElem_cons_succ, List.getElem_cons_zero, List.setIfInBounds_toArray, List.set_cons_zero, List.set_cons_succ]
        refine wpAnyH_take (i := 5) (v := ?_) rfl (by kernel_rfl) (by kernel_rfl) (by kernel_rfl) (fun _ _ _ h => h) (Or.inl ⟨by rfl, ?_⟩) hS ?_
        rotate_left
        · intro w hw
          go_simp
          try with_reducible rfl
        try simp only [Act.put, List.getElem_toArray, List.getElem_cons_succ, List.getElem_cons_zero, List.setIfInBounds_toArray, List.set_cons_zero, List.set_cons_succ]
        refine wpAnyH_take (i := 6) (v := ?_) rfl (by kernel_rfl) (by kernel_rfl) (by kernel_rfl) (fun _ _ _ h => h) (Or.inl ⟨by rfl, ?_⟩) hS ?_
        rotate_left
        · intro w hw
          go_simp
          try with_reducible rfl
        try simp only [Act.put, List.getElem_toArray, List.getElem_cons_succ, List.getElem_cons_zero, List.setIfInBounds_toArray, List.set_cons_zero, List.set_cons_succ]
        refine wpAnyH_take (i := 7) (v := ?_) rfl (by kernel_rfl) (by kernel_rfl) (by kernel_rfl) (fun _ _ _ h => h) (Or.inl ⟨by rfl, ?_⟩) hS ?_
        rotate_left
        · intro w hw
          go_simp
          try with_reducible rfl
        try simp only [Act.put, List.getElem_toArray, List.getElem_cons_succ, List.getElem_cons_zero, List.setIfInBounds_toArray, List.set_cons_zero, List.set_cons_succ]
        refine wpAnyH_take (i := 8) (v := ?_) rfl (by kernel_rfl) (by kernel_rfl) (by kernel_rfl) (fun _ _ _ h => h) (Or.inl ⟨by rfl, ?_⟩) hS ?_
        rotate_left
        · intro w hw
          have p1 : w.cell? ⟨g, 1, none⟩ = some (.slice (some ⟨gl, 0, none⟩) nn c) := (World.cell?_of_block (w := W2) (hw.out.block g HGW.out (fun e => HGL.out e.symm))).trans HP.out
          go_simp
          try with_reducible rfl
        try simp only [Act.put, List.getElem_toArray, List.getElem_cons_succ, List.getElem_cons_zero, List.setIfInBounds_toArray, List.set_cons_zero, List.set_cons_succ]
        refine wpAnyH_take (i := 9) (v := ?_) rfl (by kernel_rfl) (by kernel_rfl) (by kernel_rfl) (fun _ _ _ h => h) (Or.inl ⟨by rfl, ?_⟩) hS ?_
        rotate_left
        · intro w hw
          go_simp
          try with_reducible rfl
        try simp only [Act.put, List.getElem_toArray, List.getElem_cons_succ, List.getElem_cons_zero, List.setIfInBounds_toArray, List.set_cons_zero, List.set_cons_succ]
        refine wpAnyH_take (i := 10) (v := ?_) rfl (by kernel_rfl) (by kernel_rfl) (by kernel_rfl) (fun _ _ _ h => h) (Or.inl ⟨by rfl, ?_⟩) hS ?_
        rotate_left
        · intro w hw
          go_simp
          try with_reducible rfl
        try simp only [Act.put, List.getElem_toArray, List.getElem_cons_succ, List.getElem_cons_zero, List.setIfInBounds_toArray, List.set_cons_zero, List.set_cons_succ]
        refine wpAnyH_take (i := 11) (v := ?_) rfl (by kernel_rfl) (by kernel_rfl) (by kernel_rfl) (fun _ _ _ h => h) (Or.inl ⟨by rfl, ?_⟩) hS ?_
        rotate_left
        · intro w hw
          go_simp
          try with_reducible rfl
        try simp only [Act.put, List.getElem_toArray, List.getElem_cons_succ, List.getElem_cons_zero, List.setIfInBounds_toArray, List.set_cons_zero, List.set_cons_succ]
        refine wpAnyH_take (i := 13) (v := ?_) rfl (by kernel_rfl) (by kernel_rfl) (by kernel_rfl) (fun _ _ _ h => h) (Or.inl ⟨by rfl, ?_⟩) hS ?_
        rotate_left
        · intro w hw
          go_simp
          try with_reducible rfl
        try simp only [Act.put, List.getElem_toArray, List.getElem_cons_succ, List.getElem_cons_zero, List.setIfInBounds_toArray, List.set_cons_zero, List.set_cons_succ]
        refine wpAnyH_ready (rs := [12]) (by kernel_rfl) (by simp) ?_
        refine AllReadyH.cons rfl (fun K hK => ?_) AllReadyH.nil
        have q1 : W2.cell? ⟨gl, j * 3 + 2, none⟩ = some (.int .i64 (sy : Int)) := Q2.out
        go_simp
        refine hK.out _ _ hS (fun hS => ?_)
        clear hK K q1
        try simp only [Act.put, List.getElem_toArray, List.getElem_cons_succ, List.getElem_cons_zero, List.setIfInBounds_toArray, List.set_cons_zero, List.set_cons_succ]
        refine wpAnyH_take (i := 14) (v := ?_) rfl (by kernel_rfl) (by kernel_rfl) (by kernel_rfl) (fun _ _ _ h => h) (Or.inl ⟨by rfl, ?_⟩) hS ?_
        rotate_left
        · intro w hw
          go_simp
          try with_reducible rfl
        try simp only [Act.put, List.getElem_toArray, List.getElem_cons_succ, List.getElem_cons_zero, List.setIfInBounds_toArray, List.set_cons_zero, List.set_cons_succ]
        refine wpAnyH_take (i := 15) (v := ?_) rfl (by kernel_rfl) (by kernel_rfl) (by kernel_rfl) (fun _ _ _ h => h) (Or.inl ⟨by rfl, ?_⟩) hS ?_
        rotate_left
        · intro w hw
          go_simp
          try with_reducible rfl
        try simp only [Act.put, List.getElem_toArray, List.getElem_cons_succ, List.getElem_cons_zero, List.setIfInBounds_toArray, List.set_cons_zero, List.set_cons_succ]
        refine wpAnyH_take (i := 16) (v := ?_) rfl (by kernel_rfl) (by kernel_rfl) (by kernel_rfl) (fun _ _ _ h => h) (Or.inl ⟨by rfl, ?_⟩) hS ?_
        rotate_left
        · intro w hw
          go_simp
          try with_reducible rfl
        try simp only [Act.put, List.getElem_toArray, List.getElem_cons_succ, List.getElem_cons_zero, List.setIfInBounds_toArray, List.set_cons_zero, List.set_cons_succ]
        refine wpAnyH_ready (rs := [17]) (by kernel_rfl) (by simp) ?_
        refine AllReadyH.cons rfl (fun K hK => ?_) AllReadyH.nil
        have q2 : W2.cell? ⟨gl, j * 3 + 2, none⟩ = some (.int .i64 (sy : Int)) := Q2.out
        have z2 := Z2.out
        go_simp
        refine hK.out _ _ (Lib.hid ((Keep.refl (fun j => j = gl) W2).setCell (p := ⟨gl, j * 3 + 2, none⟩) (.inr rfl) _).drew) (fun hS => ?_)
        clear hK K q2 z2
        try simp only [Act.put, List.getElem_toArray, List.getElem_cons_succ, List.getElem_cons_zero, List.setIfInBounds_toArray, List.set_cons_zero, List.set_cons_succ]
        refine wpAnyH_done (by kernel_rfl) ?_ _
        go_wp2_with fail
        go_meet
        exact FIN9.out
      case rest =>
      obtain ⟨hL3, hK3⟩ := hcut
      have hj1 : j < L1.length := by rw [HLN.out]; exact hlt
      have hd3 : (L1.set j ⟨d.nm, d.a, d.c, d.bs, sy + kk⟩)[j]? = some ⟨d.nm, d.a, d.c, d.bs, sy + kk⟩ := List.getElem?_set_self hj1
      have hln3 : (L1.set j (⟨d.nm, d.a, d.c, d.bs, sy + kk⟩ : D)).length = nn := by rw [List.length_set]; exact HLN.out
      obtain ⟨_, p1, _⟩ := hL3.facts
      rw [hln3] at p1
      obtain ⟨gl2, hA2, _, q1, q2, z1, _⟩ := hL3.place hd3
      cases hA2
      have hok := hL3.ok _ (List.mem_of_getElem? hd3)
      have hdc : d.bs.length ≤ d.c := hok.cap
      have hdm : d.c ≤ maxLen := hok.max
      have hlies : Lies wc wc.heap.size d.a (d.bs.map vb) := hok.lies.lies fun k hk => hL3.lt k hk.1
      have hxl : (d.bs.take (sy + kk)).length = sy + kk := by rw [List.length_take, ← HNB.out]; omega
      obtain ⟨A5, c5, W5, hr5, hown5, hb5⟩ := fresh_bytes d.a d.c _ (d.bs.take (sy + kk)) wc.drew ((hlies.front (by rw [List.map_take]; exact List.take_prefix _ _)).below ((Below.refl _ _).drew)) (by rw [hxl]; omega)
      have hb5' : Below wc.heap.size wc W5 := (Below.refl wc.heap.size wc).drew.trans hb5
      have hfin := hL3.wrote (xs := d.bs.take (sy + kk)) hd3 hb5' hown5 (fun x hx => hok.byte x (List.mem_of_mem_take hx)) (by rw [hxl]; omega) (by rw [hxl]; exact Nat.le_refl _)
      have hcu := fun W => Dk.upto_at d.a nb d.c (sy + kk) (by rw [← HNB.out] at hdc; omega) (by rw [← HNB.out] at hdc; exact hdc) hdm W
      have hcast : ((sy + kk : Nat) : Int) = (sy : Int) + (kk : Int) := by omega
      rw [hxl] at hr5 hfin
      have FIN10 : Hid (∃ (S' : Nat → Prop) (L' : List D), Lay (W5.setCell ⟨gl, j * 3 + 1, none⟩ (.slice A5 (sy + kk) c5)) g S' rm (half m K (j + 1)) L' (some ⟨gl, 0, none⟩) F c cf ∧ L'.length = nn ∧ Keep S w (W5.setCell ⟨gl, j * 3 + 1, none⟩ (.slice A5 (sy + kk) c5)) ∧ ∀ k, S' k → S k ∨ w.heap.size ≤ k) := Lib.hid (by
        refine ⟨Gr S1 wc W5, (L1.set j ⟨d.nm, d.a, d.c, d.bs, sy + kk⟩).set j ⟨d.nm, A5, c5, d.bs.take (sy + kk), sy + kk⟩, ?_, ?_, (hK3.trans (T := fun _ => False) (below_keep hb5') fun _ _ h => h.elim).setCell (p := ⟨gl, j * 3 + 1, none⟩) ((HS1.out gl HGS.out).elim .inr .inl) _, fun k hk => hk.elim (HS1.out k) fun h => .inr (Nat.le_trans hK3.size h.1)⟩
        rotate_left
        · rw [List.length_set]
          exact hln3
        · have ht := hfin.told
          have e1 : half m K (j + 1) = { half m K j with fs := put1 (put1 (half m K j).fs ⟨d.nm, d.bs, sy + kk⟩) ⟨d.nm, d.bs.take (sy + kk), sy + kk⟩ } := by
            show _ = ({ room := (half m K j).room, fs := _, armed := (half m K j).armed, failed := (half m K j).failed } : MS)
            dsimp only at ht
            rw [ht, List.set_set, set_map]
            have h1 := HL.out.told
            rw [← h1]
            have h2 := crash_step K HF.out
            have h3 : crm K d.m = (⟨d.nm, A5, c5, d.bs.take (sy + kk), sy + kk⟩ : D).m := crm_cut (f := d.m) (s := sy + kk) (by show d.syn ≤ d.bs.length; rw [← HNB.out, ← HSY.out]; exact hds) (by show sy + kk = min (d.syn + K) d.bs.length; rw [← HNB.out, ← HSY.out, HKK.out]; omega)
            rw [h3] at h2
            show _ = ({ room := m.room, fs := ((m.fs.take j).map (crm K) ++ m.fs.drop j).set j (⟨d.nm, A5, c5, d.bs.take (sy + kk), sy + kk⟩ : D).m, armed := m.armed, failed := m.failed } : MS)
            rw [h2]
            rfl
          rw [e1]
          exact hfin)
      have hL5 := hL3.keep (T := fun _ => False) (below_keep hb5') fun _ _ => id
      obtain ⟨gl5, hA5, _, q5, q5b, z5, _⟩ := hL5.place hd3
      clear q5b
      cases hA5
      obtain ⟨sn, hsn⟩ : ∃ sn, sn = sy + kk := ⟨_, rfl⟩
      rw [← hsn] at q2 hr5 FIN10 hcu
      simp only at q1 q5
      rw [← HNB.out] at q1 q5 hdc
      have hsn2 : sn ≤ nb := by omega
      have hdm' := hdm
      unfold maxLen at hdm'
      have HP3 := Lib.hid p1
      have Q3 := Lib.hid q2
      have Q4 := Lib.hid q1
      have Q5 := Lib.hid q5
      have Z5 := Lib.hid z5
      have HR5 := Lib.hid hr5
      have HB5 := Lib.hid hb5'
      have HGW3 := Lib.hid (hL3.lt g hL3.sg)
      have HGLW := Lib.hid (hL3.lt gl (hL3.so gl rfl))
      clear hL3 hK3 hd3 hln3 hok hlies hxl hown5 hb5 hb5' hfin hL5 q5 z5 hsn hr5 FIN9 Q2 Z2 HP q1 q2 z1 p1 hdm hj1 hsw hcast
      go_upto_region 10 with fail
      refine wp_region_held_drew (S := fun w' => Hid (Keep (fun j => j = gl) wc w' ∧ w'.cell? ⟨gl, j * 3 + 2, none⟩ = some (.int .i64 (sn : Int)))) (by kernel_rfl) (Lib.hid ⟨(Keep.refl _ _).drew, Q3.out⟩) (fun hS => ?_)
      refine wpAnyH_take (i := 0) (v := ?_) rfl (by kernel_rfl) (by kernel_rfl) (by kernel_rfl) (fun _ _ _ h => h) (Or.inl ⟨by rfl, ?_⟩) hS ?_
      rotate_left
      · intro w hw
        go_simp
        try with_reducible rfl
      try simp only [Act.put, List.getElem_toArray, List.getElem_cons_succ, List.getElem_cons_zero, List.setIfInBounds_toArray, List.set_cons_zero, List.set_cons_succ]
      refine wpAnyH_take (i := 1) (v := ?_) rfl (by kernel_rfl) (by kernel_rfl) (by kernel_rfl) (fun _ _ _ h => h) (Or.inl ⟨by rfl, ?_⟩) hS ?_
      rotate_left
      · intro w hw
        go_simp
        try with_reducible rfl
      try simp only [Act.put, List.getElem_toArray, List.getElem_cons_succ, List.getElem_cons_zero, List.setIfInBounds_toArray, List.set_cons_zero, List.set_cons_succ]
      refine wpAnyH_take (i := 2) (v := ?_) rfl (by kernel_rfl) (by kernel_rfl) (by kernel_rfl) (fun _ _ _ h => h) (Or.inl ⟨by rfl, ?_⟩) hS ?_
      rotate_left
      · intro w hw
        go_simp
        try with_reducible rfl
      try simp only [Act.put, List.getElem_toArray, List.getElem_cons_succ, List.getElem_cons_zero, List.setIfInBounds_toArray, List.set_cons_zero, List.set_cons_succ]
      refine wpAnyH_take (i := 3) (v := ?_) rfl (by kernel_rfl) (by kernel_rfl) (by kernel_rfl) (fun _ _ _ h => h) (Or.inl ⟨by rfl, ?_⟩) hS ?_
      rotate_left
      · intro w hw
        have p1 : w.cell? ⟨g, 1, none⟩ = some (.slice (some ⟨gl, 0, none⟩) nn c) := (World.cell?_of_block (w := wc) (hw.out.1.block g HGW3.out (fun e => HGL.out e.symm))).trans HP3.out
        go_simp
        try with_reducible rfl
      try simp only [Act.put, List.getElem_toArray, List.getElem_cons_succ, List.getElem_cons_zero, List.setIfInBounds_toArray, List.set_cons_zero, List.set_cons_succ]
      refine wpAnyH_take (i := 4) (v := ?_) rfl (by kernel_rfl) (by kernel_rfl) (by kernel_rfl) (fun _ _ _ h => h) (Or.inl ⟨by rfl, ?_⟩) hS ?_
      rotate_left
      · intro w hw
        go_simp
        try with_reducible rfl
      try simp only [Act.put, List.getElem_toArray, List.getElem_cons_succ, List.getElem_cons_zero, List.setIfInBounds_toArray, List.set_cons_zero, List.set_cons_succ]
      refine wpAnyH_take (i := 5) (v := ?_) rfl (by kernel_rfl) (by kernel_rfl) (by kernel_rfl) (fun _ _ _ h => h) (Or.inl ⟨by rfl, ?_⟩) hS ?_
      rotate_left
      · intro w hw
        go_simp
        try with_reducible rfl
      try simp only [Act.put, List.getElem_toArray, List.getElem_cons_succ, List.getElem_cons_zero, List.setIfInBounds_toArray, List.set_cons_zero, List.set_cons_succ]
      refine wpAnyH_take (i := 6) (v := ?_) rfl (by kernel_rfl) (by kernel_rfl) (by kernel_rfl) (fun _ _ _ h => h) (Or.inl ⟨by rfl, ?_⟩) hS ?_
      rotate_left
      · intro w hw
        go_simp
        try with_reducible rfl
      try simp only [Act.put, List.getElem_toArray, List.getElem_cons_succ, List.getElem_cons_zero, List.setIfInBounds_toArray, List.set_cons_zero, List.set_cons_succ]
      refine wpAnyH_take (i := 7) (v := ?_) rfl (by kernel_rfl) (by kernel_rfl) (by kernel_rfl) (fun _ _ _ h => h) (Or.inl ⟨by rfl, ?_⟩) hS ?_
      rotate_left
      · intro w hw
        go_simp
        try with_reducible rfl
      try simp only [Act.put, List.getElem_toArray, List.getElem_cons_succ, List.getElem_cons_zero, List.setIfInBounds_toArray, List.set_cons_zero, List.set_cons_succ]
      refine wpAnyH_take (i := 8) (v := ?_) rfl (by kernel_rfl) (by kernel_rfl) (by kernel_rfl) (fun _ _ _ h => h) (Or.inl ⟨by rfl, ?_⟩) hS ?_
      rotate_left
      · intro w hw
        have p1 : w.cell? ⟨g, 1, none⟩ = some (.slice (some ⟨gl, 0, none⟩) nn c) := (World.cell?_of_block (w := wc) (hw.out.1.block g HGW3.out (fun e => HGL.out e.symm))).trans HP3.out
        go_simp
        try with_reducible rfl
      try simp only [Act.put, List.getElem_toArray, List.getElem_cons_succ, List.getElem_cons_zero, List.setIfInBounds_toArray, List.set_cons_zero, List.set_cons_succ]
      refine wpAnyH_take (i := 9) (v := ?_) rfl (by kernel_rfl) (by kernel_rfl) (by kernel_rfl) (fun _ _ _ h => h) (Or.inl ⟨by rfl, ?_⟩) hS ?_
      rotate_left
      · intro w hw
        go_simp
        try with_reducible rfl
      try simp only [Act.put, List.getElem_toArray, List.getElem_cons_succ, List.getElem_cons_zero, List.setIfInBounds_toArray, List.set_cons_zero, List.set_cons_succ]
      refine wpAnyH_take (i := 10) (v := ?_) rfl (by kernel_rfl) (by kernel_rfl) (by kernel_rfl) (fun _ _ _ h => h) (Or.inl ⟨by rfl, ?_⟩) hS ?_
      rotate_left
      · intro w hw
        go_simp
        try with_reducible rfl
      try simp only [Act.put, List.getElem_toArray, List.getElem_cons_succ, List.getElem_cons_zero, List.setIfInBounds_toArray, List.set_cons_zero, List.set_cons_succ]
      refine wpAnyH_take (i := 11) (v := ?_) rfl (by kernel_rfl) (by kernel_rfl) (by kernel_rfl) (fun _ _ _ h => h) (Or.inl ⟨by rfl, ?_⟩) hS ?_
      rotate_left
      · intro w hw
        go_simp
        try with_reducible rfl
      try simp only [Act.put, List.getElem_toArray, List.getElem_cons_succ, List.getElem_cons_zero, List.setIfInBounds_toArray, List.set_cons_zero, List.set_cons_succ]
      refine wpAnyH_take (i := 13) (v := ?_) rfl (by kernel_rfl) (by kernel_rfl) (by kernel_rfl) (fun _ _ _ h => h) (Or.inl ⟨by rfl, ?_⟩) hS ?_
      rotate_left
      · intro w hw
        go_simp
        try with_reducible rfl
      try simp only [Act.put, List.getElem_toArray, List.getElem_cons_succ, List.getElem_cons_zero, List.setIfInBounds_toArray, List.set_cons_zero, List.set_cons_succ]
      refine wpAnyH_take (i := 14) (v := ?_) rfl (by kernel_rfl) (by kernel_rfl) (by kernel_rfl) (fun _ _ _ h => h) (Or.inl ⟨by rfl, ?_⟩) hS ?_
      rotate_left
      · intro w hw
        go_simp
        try with_reducible rfl
      try simp only [Act.put, List.getElem_toArray, List.getElem_cons_succ, List.getElem_cons_zero, List.setIfInBounds_toArray, List.set_cons_zero, List.set_cons_succ]
      refine wpAnyH_take (i := 15) (v := ?_) rfl (by kernel_rfl) (by kernel_rfl) (by kernel_rfl) (fun _ _ _ h => h) (Or.inl ⟨by rfl, ?_⟩) hS ?_
      rotate_left
      · intro w hw
        go_simp
        try with_reducible rfl
      try simp only [Act.put, List.getElem_toArray, List.getElem_cons_succ, List.getElem_cons_zero, List.setIfInBounds_toArray, List.set_cons_zero, List.set_cons_succ]
      refine wpAnyH_take (i := 16) (v := ?_) rfl (by kernel_rfl) (by kernel_rfl) (by kernel_rfl) (fun _ _ _ h => h) (Or.inl ⟨by rfl, ?_⟩) hS ?_
      rotate_left
      · intro w hw
        have p1 : w.cell? ⟨g, 1, none⟩ = some (.slice (some ⟨gl, 0, none⟩) nn c) := (World.cell?_of_block (w := wc) (hw.out.1.block g HGW3.out (fun e => HGL.out e.symm))).trans HP3.out
        go_simp
        try with_reducible rfl
      try simp only [Act.put, List.getElem_toArray, List.getElem_cons_succ, List.getElem_cons_zero, List.setIfInBounds_toArray, List.set_cons_zero, List.set_cons_succ]
      refine wpAnyH_take (i := 17) (v := ?_) rfl (by kernel_rfl) (by kernel_rfl) (by kernel_rfl) (fun _ _ _ h => h) (Or.inl ⟨by rfl, ?_⟩) hS ?_
      rotate_left
      · intro w hw
        go_simp
        try with_reducible rfl
      try simp only [Act.put, List.getElem_toArray, List.getElem_cons_succ, List.getElem_cons_zero, List.setIfInBounds_toArray, List.set_cons_zero, List.set_cons_succ]
      refine wpAnyH_take (i := 18) (v := ?_) rfl (by kernel_rfl) (by kernel_rfl) (by kernel_rfl) (fun _ _ _ h => h) (Or.inl ⟨by rfl, ?_⟩) hS ?_
      rotate_left
      · intro w hw
        go_simp
        try with_reducible rfl
      try simp only [Act.put, List.getElem_toArray, List.getElem_cons_succ, List.getElem_cons_zero, List.setIfInBounds_toArray, List.set_cons_zero, List.set_cons_succ]
      refine wpAnyH_take (i := 19) (v := ?_) rfl (by kernel_rfl) (by kernel_rfl) (by kernel_rfl) (fun _ _ _ h => h) (Or.inl ⟨by rfl, ?_⟩) hS ?_
      rotate_left
      · intro w hw
        go_simp
        try with_reducible rfl
      try simp only [Act.put, List.getElem_toArray, List.getElem_cons_succ, List.getElem_cons_zero, List.setIfInBounds_toArray, List.set_cons_zero, List.set_cons_succ]
      refine wpAnyH_take (i := 20) (v := ?_) rfl (by kernel_rfl) (by kernel_rfl) (by kernel_rfl) (fun _ _ _ h => h) (Or.inl ⟨by rfl, ?_⟩) hS ?_
      rotate_left
      · intro w hw
        have q3 := hw.out.2
        go_simp
        try with_reducible rfl
      try simp only [Act.put, List.getElem_toArray, List.getElem_cons_succ, List.getElem_cons_zero, List.setIfInBounds_toArray, List.set_cons_zero, List.set_cons_succ]
      refine wpAnyH_ready (rs := [12]) (by kernel_rfl) (by simp) ?_
      refine AllReadyH.cons rfl (fun K hK => ?_) AllReadyH.nil
      have q1 : wc.cell? ⟨gl, j * 3 + 1, none⟩ = some (.slice d.a nb d.c) := Q4.out
      go_simp
      refine hK.out _ _ hS (fun hS => ?_)
      clear hK K q1
      try simp only [Act.put, List.getElem_toArray, List.getElem_cons_succ, List.getElem_cons_zero, List.setIfInBounds_toArray, List.set_cons_zero, List.set_cons_succ]
      refine wpAnyH_take (i := 21) (v := ?_) rfl (by kernel_rfl) (by kernel_rfl) (by kernel_rfl) (fun _ _ _ h => h) (Or.inl ⟨by rfl, ?_⟩) hS ?_
      rotate_left
      · intro w hw
        go_simp
        try with_reducible rfl
      try simp only [Act.put, List.getElem_toArray, List.getElem_cons_succ, List.getElem_cons_zero, List.setIfInBounds_toArray, List.set_cons_zero, List.set_cons_succ]
      refine wpAnyH_ready (rs := [22]) (by kernel_rfl) (by simp) ?_
      refine AllReadyH.cons rfl (fun K hK => ?_) AllReadyH.nil
      refine held_append rfl _ _ 24 rfl rfl rfl HR5.out ?_
      refine hK.out _ _ (Lib.hid ⟨below_keep (S := fun j => j = gl) HB5.out, (HB5.out.cell (show gl < wc.heap.size from HGLW.out)).trans Q3.out⟩) (fun hS => ?_)
      clear hK K
      try simp only [Act.put, List.getElem_toArray, List.getElem_cons_succ, List.getElem_cons_zero, List.setIfInBounds_toArray, List.set_cons_zero, List.set_cons_succ]
      refine wpAnyH_take (i := 23) (v := ?_) rfl (by kernel_rfl) (by kernel_rfl) (by kernel_rfl) (fun _ _ _ h => h) (Or.inl ⟨by rfl, ?_⟩) hS ?_
      rotate_left
      · intro w hw
        go_simp
        try with_reducible rfl
      try simp only [Act.put, List.getElem_toArray, List.getElem_cons_succ, List.getElem_cons_zero, List.setIfInBounds_toArray, List.set_cons_zero, List.set_cons_succ]
      refine wpAnyH_take (i := 24) (v := ?_) rfl (by kernel_rfl) (by kernel_rfl) (by kernel_rfl) (fun _ _ _ h => h) (Or.inl ⟨by rfl, ?_⟩) hS ?_
      rotate_left
      · intro w hw
        go_simp
        try with_reducible rfl
      try simp only [Act.put, List.getElem_toArray, List.getElem_cons_succ, List.getElem_cons_zero, List.setIfInBounds_toArray, List.set_cons_zero, List.set_cons_succ]
      refine wpAnyH_ready (rs := [25]) (by kernel_rfl) (by simp) ?_
      refine AllReadyH.cons rfl (fun K hK => ?_) AllReadyH.nil
      have q2 := Q5.out
      have z2 := Z5.out
      go_simp
      refine hK.out _ _ (Lib.hid ⟨(below_keep (S := fun j => j = gl) HB5.out).setCell (p := ⟨gl, j * 3 + 1, none⟩) (.inr rfl) _, ?_⟩) (fun hS => ?_)
      · have h := (HB5.out.cell (p := ⟨gl, j * 3 + 2, none⟩) (show gl < wc.heap.size from HGLW.out)).trans Q3.out
        go_simp
      clear hK K q2 z2
      try simp only [Act.put, List.getElem_toArray, List.getElem_cons_succ, List.getElem_cons_zero, List.setIfInBounds_toArray, List.set_cons_zero, List.set_cons_succ]
      refine wpAnyH_done (by kernel_rfl) ?_ _
      obtain ⟨S', L', hL4, hn4, hK4, hS4⟩ := FIN10.out
      have HL4 := Lib.hid hL4
      have HN4 := Lib.hid hn4
      have HK4 := Lib.hid hK4
      have HS4 := Lib.hid hS4
      clear hL4 hn4 hK4 hS4 FIN10
      go_wp2_with fail
      go_roundw
      case rel => exact ⟨j + 1, S', L', by go_num, by omega, HL4, HN4, HK4, HS4⟩
      case measure => simp [intOf]; omega
    · obtain rfl : j = nn := by omega
      have dl : decide (j < j) = false := decide_eq_false (by omega)
      go_wp2_with fail
      go_end0
      refine ⟨S1, rfl, ?_, HK.out, HS1.out⟩
      have h1 := HL.out.toAt
      have e : half m K j = crashM m keep := by
        unfold half crashM
        rw [HNN.out, ← HML.out, List.take_length, List.drop_length, List.append_nil, HKE.out]
      rw [e] at h1
      exact h1
end
end Go.Proofs.YtnbknihaefkllaaGreatDoor.Rk
/- What the document's own log answers: AppendLog and RecoverLog. -/
namespace Go.Proofs.YtnbknihaefkllaaGreatDoor.Wl
set_option linter.unusedVariables false
set_option linter.unusedSimpArgs false
open Go.RowKit Go.Maps Lift Ik
open Bt (O D Ops OpsP opsO bytesE bytesB encB rbytes_any readB rread_allP)
open Dk (MS FM hit hit_fs hit_failed sizeM readM syncM appendM)
open Rk (RTold rsize_any rsync_any rread_any RGave rappend_old rappend_new isAt)

section
variable {w w' : World} {g : Nat} {S S' : Nat → Prop} {m : MS} {rm : Int}
theorem rtold_mono {r : Nat × MS} {w0 : World} {e : Ending} (h : RTold w g S' rm r e w') (hk : Keep S w0 w) (hS : ∀ k, S' k → S k ∨ w0.heap.size ≤ k) : RTold w0 g S rm r e w' := by
  obtain ⟨S2, he, hA, hK, hS2⟩ := h
  exact ⟨S2, he, hA, hk.trans hK fun i hi hi2 => (hS i hi2).elim id fun h => absurd hi (Nat.not_lt_of_le h), fun k hk2 => (hS2 k hk2).elim (hS k) fun h => .inr (Nat.le_trans hk.size h)⟩
theorem rtold_back {r : Nat × MS} (h : Rk.At w' g S rm r.2) (hk : Keep S w w') : RTold w g S rm r (.returned (.int .i64 (r.1 : Int))) w' := ⟨S, rfl, h, hk, fun k hk => .inl hk⟩
theorem rappend_any (nm : ByteArray) (Ab : Option Addr) (cb : Nat) (bs : List Nat) (hn : nm.size ≤ 1000) (h : Rk.At w g S rm m) (hf : m.failed ≤ 1000000) (hb : LiesP w (fun k => ¬ S k ∧ k < w.heap.size) Ab (bs.map vb)) (hbl : bs.length ≤ 1099511627776) (hb8 : ∀ x, x ∈ bs → x < 256) :
    Calls Tryz.prog (8) #[.pointer (some ⟨g, 0, none⟩), .string nm, .slice Ab bs.length cb] w (RTold w g S rm (appendM m nm bs)) := by
  cases hi : isAt m.fs nm
  · exact rappend_new nm Ab cb bs hn h hf hi hb hbl hb8
  · exact rappend_old nm Ab cb bs hn h hf hi hb hbl hb8
theorem rsize_len (nm : ByteArray) (h : Rk.At w g S rm m) : (sizeM m nm).2 ≤ 16777216 := by
  obtain ⟨L, A, F, c, cf, h⟩ := h
  unfold sizeM Dk.onFile
  split
  · exact Nat.zero_le _
  · split
    · exact Nat.zero_le _
    · rename_i f hf
      have hm := get_mem hf
      rw [h.told] at hm
      obtain ⟨d, hd, rfl⟩ := List.mem_map.1 hm
      exact (h.ok d hd).len
theorem rcont_bytes (nm : ByteArray) (h : Rk.At w g S rm m) : (contM m nm).2.1.length ≤ 16777216 ∧ ∀ x, x ∈ (contM m nm).2.1 → x < 256 := by
  obtain ⟨L, A, F, c, cf, h⟩ := h
  have key : ∀ (m' : MS) (n : Int), m'.fs = m.fs → (readM m' nm 0 n).2.length ≤ 16777216 ∧ ∀ x, x ∈ (readM m' nm 0 n).2 → x < 256 := by
    intro m' n hm'
    unfold readM Dk.onFile
    split
    · exact ⟨Nat.zero_le _, fun x hx => by simp at hx⟩
    · split
      · exact ⟨Nat.zero_le _, fun x hx => by simp at hx⟩
      · rename_i f hf
        have hm := get_mem hf
        rw [hm', h.told] at hm
        obtain ⟨d, hd, rfl⟩ := List.mem_map.1 hm
        have hl := (h.ok d hd).len
        have h8 := (h.ok d hd).byte
        dsimp only
        split
        · exact ⟨Nat.zero_le _, fun x hx => by simp at hx⟩
        · refine ⟨?_, fun x hx => h8 x (List.mem_of_mem_drop (List.mem_of_mem_take hx))⟩
          rw [List.length_take, List.length_drop]
          show min _ (d.bs.length - _) ≤ _
          omega
  unfold contM
  split
  · exact ⟨Nat.zero_le _, fun x hx => by simp at hx⟩
  · exact key _ _ (hit_fs m).1
theorem rsync_told (nm : ByteArray) (hn : nm.size ≤ 1000) (h : Rk.At w g S rm m) (hf : m.failed ≤ 1000000) : Calls Tryz.prog (37) #[.pointer (some ⟨g, 0, none⟩), .string nm] w (RTold w g S rm (syncM m nm)) :=
  (rsync_any nm hn h hf).mono fun e w' ⟨h1, h2, h3⟩ => ⟨S, h1, h2, h3, fun k hk => .inl hk⟩
set_option maxRecDepth 100000 in
set_option maxHeartbeats 1600000 in
/-- AppendLog. -/
theorem rapp_any (nm : ByteArray) (s : Nat) (A : Option Addr) (c : Nat) (L : List D) (sync : Bool) (hn0 : nm.size ≤ 1000) (h : Rk.At w g S rm m) (hf : m.failed ≤ 900000) (hs : s < 18446744073709551616) (hO : Ops w w.heap.size A c L) :
    Calls Tryz.prog 14 #[.pointer (some ⟨g, 0, none⟩), .string nm, .agg #[.int .u64 (s : Int), .slice A L.length c], .bool sync] w (RTold w g S rm (walM m nm s (opsO L) sync)) := by
  have hb0 := Joins.below_alloc1 w (.cells #[.int .u64 (s : Int), .slice A L.length c] 38)
  have b0 := Box.new w 38 [.int .u64 (s : Int), .slice A L.length c]
  obtain ⟨p0, p1, _, _⟩ := b0.facts2
  have hby := rbytes_any s A c L _ hs (hO.next hb0)
  have HBY := Lib.hid hby
  have hsg : S g := by obtain ⟨L', A', F', c', cf', hL⟩ := h; exact hL.sg
  have HSG := Lib.hid hsg
  have HGL := Lib.hid (show g < (w.alloc (.cells #[.int .u64 (s : Int), .slice A L.length c] 38)).heap.size from Nat.lt_of_lt_of_le (h.lt g hsg) hb0.size)
  have H0 := Lib.hid (h.below hb0)
  have HB0 := Lib.hid hb0
  have E := Lib.hid (show walM m nm s (opsO L) sync = if bytesE s (opsO L) ≠ 0 then (bytesE s (opsO L), m) else logM m nm (encB s (opsO L)) sync from rfl)
  have HOB := Lib.hid (ops_byte hO)
  have hth := bytesE_small s (opsO L)
  clear h hO hby hb0 b0 hsg
  go_enter Tryz.func14, Tryz.ntmps14
  go_wp2_with fail
  refine HBY.out.mono ?_
  rintro e W1 ⟨v1, rfl, hown1, hb1⟩
  have H1 := Lib.hid (H0.out.below hb1)
  have HB1 := Lib.hid (HB0.out.trans (hb1.mono HB0.out.size))
  have HOW := Lib.hid hown1
  clear hown1 hb1 HBY p0 p1 HB0 H0
  by_cases h0 : bytesE s (opsO L) = 0
  · have E1 := Lib.hid (show walM m nm s (opsO L) sync = logM m nm (encB s (opsO L)) sync by rw [E.out, if_neg (by omega)])
    have E2 := Lib.hid (show bytesB s (opsO L) = encB s (opsO L) by unfold bytesB; rw [if_pos h0])
    have H8 := Lib.hid (encP_byte (b := (s, opsO L)) h0 HOB.out)
    have hlen := encP_len (b := (s, opsO L)) h0
    rw [h0]
    rw [E2.out] at HOW
    rw [show encP (s, opsO L) = encB s (opsO L) from rfl] at H8 hlen
    clear h0 E HOB E2 hth
    generalize encB s (opsO L) = b at *
    have hsz := rsize_any nm hn0 H1.out (by omega)
    have hz3 := size_three m nm
    have EO := Lib.hid (fun h1 h2 => logM_out (m := m) (nm := nm) (b := b) (sync := sync) h1 h2)
    have EI := Lib.hid (fun h1 => logM_in (m := m) (nm := nm) (b := b) (sync := sync) h1)
    have hn := rsize_len nm H1.out
    have HSZ := Lib.hid hsz
    have hf1 := hit_failed m
    clear hsz
    generalize (sizeM m nm).1 = er at *
    generalize (sizeM m nm).2 = n at *
    go_wp2_with fail
    refine HSZ.out.mono ?_
    rintro e W2 ⟨rfl, h2, hk2⟩
    have HK2 := Lib.hid ((below_keep (S := S) HB1.out).trans hk2 fun i hi he => by rw [he]; exact HSG.out)
    have hown2 := own_kept HOW.out hk2 fun k hk e => by
      subst e
      have h1 := (HOW.out.lt _ hk).1
      have h3 := HGL.out
      omega
    obtain ⟨A1, c1, hv, hc1, hm1, hl1⟩ := own_parts hown2
    subst hv
    have H2 := Lib.hid h2
    have HC1 := Lib.hid hc1
    have HM1 := Lib.hid hm1
    have HL1 := Lib.hid hl1
    clear h2 hk2 hown2 hc1 hm1 hl1 HSZ HOW
    by_cases k1 : er ≠ 0 ∧ er ≠ 8
    · have d1 : ((er : Int) != 0) = true := by rw [bne_iff_ne]; omega
      have d2 : ((er : Int) != 8) = true := by rw [bne_iff_ne]; omega
      have E2 := Lib.hid (EO.out k1.1 k1.2)
      clear k1 hz3
      go_wp2_with fail
      go_ret
      rw [E1.out, E2.out]
      exact rtold_back H2.out HK2.out
    · have E2 := Lib.hid (EI.out (by omega))
      have HP := Lib.hid (Fr.rput_any (n : Int) A1 c1 b W2 (by omega) HL1.out HC1.out HM1.out (by omega) H8.out)
      rw [Int.toNat_natCast] at HP
      have hpl := Fr.put_len n b
      have H9 := Lib.hid (Fr.put_byte (a := n) H8.out)
      have hfr : ∀ (P : Prop), P → P := fun _ h => h
      clear hfr EO EI
      generalize Fr.put n b = pb at *
      have hcase : er = 0 ∨ er = 8 := by omega
      clear k1 hz3
      rcases hcase with rfl | rfl
      all_goals
        go_wp2_with fail
        refine HP.out.mono ?_
        rintro e W3 ⟨v3, rfl, hown3, hb3⟩
        obtain ⟨A3, c3, rfl, hc3, hm3, _⟩ := own_parts hown3
        have hl3 : LiesP W3 (fun k => ¬ S k ∧ k < W3.heap.size) A3 (pb.map vb) := (LiesP.of_own hown3).later (fun _ _ => rfl) fun k hk => ⟨fun hs => by have := H2.out.lt k hs; omega, hk.2.1⟩
        have h3 := H2.out.below hb3
        have hap := rappend_any nm A3 c3 pb hn0 h3 (by omega) hl3 (by omega) H9.out
        have HK3 := Lib.hid (HK2.out.trans (below_keep (S := S) hb3) fun _ _ h => h)
        have HAP := Lib.hid hap
        have hf2 := append_failed (hit m).2 nm pb
        clear hown3 hb3 hc3 hm3 hl3 h3 hap
        generalize appendM (hit m).2 nm pb = r at *
        go_wp2_with fail
        refine HAP.out.mono ?_
        rintro e W4 ⟨S4, rfl, h4, hk4, hs4⟩
        have H4 := Lib.hid h4
        have HK4 := Lib.hid (HK3.out.trans hk4 fun _ _ h => h)
        have HS4 := Lib.hid (fun k hk => (hs4 k hk).imp id fun h => Nat.le_trans HK3.out.size h)
        clear h4 hk4 hs4 HAP HP
        by_cases k2 : r.1 = 0
        · cases sync with
          | false =>
            have E3 := Lib.hid (E2.out.trans (if_pos (.inr rfl)))
            rw [k2]
            have HR := Lib.hid k2
            clear k2
            go_wp2_with fail
            go_ret
            rw [E1.out, E3.out]
            exact ⟨S4, by rw [HR.out]; rfl, H4.out, HK4.out, HS4.out⟩
          | true =>
            have E3 := Lib.hid (E2.out.trans (if_neg (by rw [k2]; simp)))
            have HSY := Lib.hid (rsync_told nm hn0 H4.out (by omega))
            rw [k2]
            clear k2
            go_wp2_with fail
            refine HSY.out.mono ?_
            intro e W5 ht
            have ht2 := rtold_mono ht HK4.out HS4.out
            obtain ⟨S5, rfl, h5, hk5, hs5⟩ := ht2
            have H5 := Lib.hid h5
            have HK5 := Lib.hid hk5
            have HS5 := Lib.hid hs5
            clear ht h5 hk5 hs5
            go_wp2_with fail
            go_ret
            rw [E1.out, E3.out]
            exact ⟨S5, rfl, H5.out, HK5.out, HS5.out⟩
        · have E3 := Lib.hid (E2.out.trans (if_pos (.inl k2)))
          have d1 : ((r.1 : Int) != 0) = true := by rw [bne_iff_ne]; omega
          clear k2
          go_wp2_with fail
          go_ret
          rw [E1.out, E3.out]
          exact ⟨S4, rfl, H4.out, HK4.out, HS4.out⟩
  · have E1 := Lib.hid (show walM m nm s (opsO L) sync = (bytesE s (opsO L), m) by rw [E.out, if_pos h0])
    have d1 : ((bytesE s (opsO L) : Int) != 0) = true := by rw [bne_iff_ne]; omega
    clear h0 hth E
    go_wp2_with fail
    go_ret
    rw [E1.out]
    exact rtold_back H1.out (below_keep HB1.out)
/-- What RecoverLog tells of a log. -/
def RRecov (w : World) (g : Nat) (S : Nat → Prop) (rm : Int) (r : Nat × List Nat × MS) (e : Ending) (w' : World) : Prop :=
  ∃ (A : Option Addr) (c : Nat) (X : List G) (cl : Nat), e = .returned (.tuple #[.slice A X.length c, .int .i64 (cl : Int), .int .i64 (r.1 : Int)]) ∧ BatsP w' (fun k => w.heap.size ≤ k ∧ k < w'.heap.size) A c X ∧ Rk.At w' g S rm r.2.2 ∧ Keep S w w' ∧
    (r.1 ≠ 0 → X = [] ∧ cl = 0) ∧ (r.1 = 0 → recR r.2.1 (X.map G.o) cl)
set_option maxRecDepth 100000 in
set_option maxHeartbeats 3200000 in
theorem rrec_any (nm : ByteArray) (hn0 : nm.size ≤ 1000) (h : Rk.At w g S rm m) (hf : m.failed ≤ 900000) :
    Calls Tryz.prog 22 #[.pointer (some ⟨g, 0, none⟩), .string nm] w (RRecov w g S rm (contM m nm)) := by
  have HSG := Lib.hid (show S g by obtain ⟨L', A', F', c', cf', hL⟩ := h; exact hL.sg)
  have E0 := Lib.hid (fun h1 : (sizeM m nm).1 ≠ 0 => (show contM m nm = ((sizeM m nm).1, [], (hit m).2) by unfold contM; rw [if_pos h1]))
  have E1 := Lib.hid (fun h1 : (sizeM m nm).1 = 0 => (show contM m nm = ((readM (hit m).2 nm 0 ((sizeM m nm).2 : Int)).1, (readM (hit m).2 nm 0 ((sizeM m nm).2 : Int)).2, (hit (hit m).2).2) by unfold contM; rw [if_neg (by omega)]))
  have hn := rsize_len nm h
  have HSZ := Lib.hid (rsize_any nm hn0 h (by omega))
  have hz3 := size_three m nm
  have hf1 := hit_failed m
  have hcs := rcont_bytes nm h
  clear h
  generalize contM m nm = r at *
  generalize (sizeM m nm).1 = ez at *
  generalize (sizeM m nm).2 = n at *
  go_enter Tryz.func22, Tryz.ntmps22
  go_wp2_with fail
  refine HSZ.out.mono ?_
  rintro e W0 ⟨rfl, h0, hk0⟩
  have HK0 := Lib.hid (hk0.mono (T := S) fun k hk => by rw [hk]; exact HSG.out)
  have H0 := Lib.hid h0
  clear h0 hk0 HSZ
  by_cases kz : ez = 0
  · have hr := rread_any nm 0 (n : Int) hn0 (by decide) (by rw [Lit.wf_int_iff, show IntKind.i64.min = -9223372036854775808 by decide +kernel, show IntKind.i64.max = 9223372036854775807 by decide +kernel]; omega) H0.out (by omega)
    have HR := Lib.hid hr
    have E2 := E1.out kz
    generalize (readM (hit m).2 nm 0 (n : Int)) = rr at *
    obtain ⟨er, bs⟩ := rr
    generalize (hit (hit m).2).2 = m' at *
    subst E2
    obtain ⟨hbl, hb8⟩ := hcs
    simp only at hbl hb8
    have H8 := Lib.hid hb8
    rw [kz]
    clear kz hr E0 E1 hz3 hb8
    go_wp2_with fail
    refine HR.out.mono ?_
    rintro e W1 ⟨A1, c1, rfl, hl1, hc1, hm1, h1, hk1⟩
    have H1 := Lib.hid h1
    have HK1 := Lib.hid (HK0.out.trans hk1 fun i _ hi => by rw [hi]; exact HSG.out)
    by_cases k1 : er = 0
    · subst k1
      have hal := Fr.rall_any A1 c1 bs W1 (hl1.lies fun k hk => hk.2) hc1 hm1 (by omega) H8.out
      have HAL := Lib.hid hal
      clear hl1 hc1 hm1 h1 hk1 hal HR
      go_wp2_with fail
      refine HAL.out.mono ?_
      rintro e W2 ⟨A2, c2, L, n, cl, rfl, hq2, hrd, hb2⟩
      have HQ := Lib.hid hq2
      have HRD := Lib.hid hrd
      have HB2 := Lib.hid hb2
      have HSM := Lib.hid (rd_small hrd (Nat.zero_le _) (Nat.le_refl _) (fun r hr => by simp at hr))
      have hLn : L.length ≤ c2 := hq2.len
      have hLm : c2 ≤ maxLen := hq2.cap
      have hcount := rd_count hrd (Nat.zero_le _) (Nat.zero_le _)
      rw [List.length_map] at hcount
      clear hq2 hrd hb2 HAL
      go_wp2_with fail
      go_loopw [14, 15, 16] (fun bt la i wr => ∃ (j last : Nat) (X : List G), i = .int .i64 (j : Int) ∧ la = .int .u64 (last : Int) ∧ j ≤ L.length ∧ last ≤ 72057594037927936 ∧ X.length ≤ j ∧ Hid (Acc W2.heap.size wr bt X) ∧ Hid (Below W2.heap.size W2 wr) ∧
          Hid (recL (L.map (·.bs)) 0 = (X.map G.o ++ (recL ((L.drop j).map (·.bs)) last).1, (recL ((L.drop j).map (·.bs)) last).2))) (fun _ _ i _ => L.length + 1 - (intOf i).toNat)
      case atStart => exact ⟨0, 0, [], rfl, rfl, Nat.zero_le _, Nat.zero_le _, Nat.le_refl _, Lib.hid (Acc.nil _ _), Lib.hid (Below.refl _ _), Lib.hid (by simp)⟩
      case round =>
        obtain ⟨j, last, X, rfl, rfl, hj, hlast, hXj, hacc, hbw, hrec⟩ := hrel
        by_cases hlt : j < L.length
        · obtain ⟨d, hd⟩ : ∃ d, L[j]? = some d := ⟨_, List.getElem?_eq_getElem hlt⟩
          have hq := HQ.out.below hbw.out
          obtain ⟨ad, hA, hz, hcell⟩ := hq.place hd
          subst hA
          have hdo := hq.ok d (List.mem_of_getElem? hd)
          have hds := HSM.out d.bs (List.mem_map.2 ⟨d, List.mem_of_getElem? hd, rfl⟩)
          have HR := Lib.hid (rread_allP d.a d.c d.bs wr (hdo.lies.up hbw.out.size) hdo.cap hdo.max hdo.byte (by omega))
          have hdrop : L.drop j = d :: L.drop (j + 1) := by
            rw [List.drop_eq_getElem_cons hlt]
            congr 1
            exact Option.some.inj ((List.getElem?_eq_getElem hlt).symm.trans hd)
          have HREC := Lib.hid (show recL (L.map (·.bs)) 0 = (X.map G.o ++ (recL (d.bs :: (L.drop (j + 1)).map (·.bs)) last).1, (recL (d.bs :: (L.drop (j + 1)).map (·.bs)) last).2) by rw [hrec.out, hdrop]; rfl)
          have HAC := Lib.hid hacc.out
          have hd8 := Lib.hid hdo.byte
          clear hd hq hdo hds hdrop hrec hacc hz
          go_wp2_with fail
          refine HR.out.mono ?_
          rintro e W3 ⟨A3, c3, M, rfl, hM, hO3, hb3⟩
          have hfit : (readB d.bs).1 = 0 → 1 ≤ (readB d.bs).2.1 ∧ (readB d.bs).2.1 + (readB d.bs).2.2.length ≤ 72057594037927936 ∧ 1 ≤ (readB d.bs).2.2.length := fun h0 => by
            have hb := (Bt.read_back hd8.out h0).1
            exact ⟨(fits_of hb).1, (fits_of hb).2, (Bt.chk_parts (chk_of hb)).1⟩
          have hML : (readB d.bs).2.2.length = M.length := by rw [← hM]; simp [opsO]
          have RB := Lib.hid fun h => recL_bad (rs := (L.drop (j + 1)).map (·.bs)) (r := d.bs) (last := last) h
          have RM := Lib.hid fun h => recL_more (rs := (L.drop (j + 1)).map (·.bs)) (r := d.bs) (last := last) h
          have hth := readB_three d.bs
          have hslt := read_lt hd8.out
          generalize (readB d.bs).1 = er3 at *
          generalize (readB d.bs).2.1 = s3 at *
          generalize (readB d.bs).2.2 = l3 at *
          rw [hML] at hfit RM
          have hb4 := Joins.below_alloc1 W3 (.cells #[.int .u64 (s3 : Int), .slice A3 M.length c3] 38)
          have b4 := Box.new W3 38 [.int .u64 (s3 : Int), .slice A3 M.length c3]
          have hz4 : (W3.alloc (.cells #[.int .u64 (s3 : Int), .slice A3 M.length c3] 38)).heap.size = W3.heap.size + 1 := by simp
          obtain ⟨q0, q1, q2, q3⟩ := b4.facts2
          have hld : Sem.run Tryz.prog (loadVar 38 ⟨W3.heap.size, 0, none⟩) (W3.alloc (.cells #[.int .u64 (s3 : Int), .slice A3 M.length c3] 38)) = .ok (.agg #[.int .u64 (s3 : Int), .slice A3 M.length c3]) _ := load_bat (d := ⟨s3, A3, c3, M⟩) q0 q1
          have hb34 := hb3.trans (hb4.mono hb3.size)
          have HA4 := Lib.hid (HAC.out.fresh hb34)
          have HB4 := Lib.hid (hbw.out.trans (hb34.mono hbw.out.size))
          have OK4 := Lib.hid (show G.Ok (W3.alloc (.cells #[.int .u64 (s3 : Int), .slice A3 M.length c3] 38)) (fun k => wr.heap.size ≤ k ∧ k < W3.heap.size) ⟨s3, A3, c3, M⟩ from ⟨hslt, hO3.later (fun k hk => hb4.block k hk.2) fun _ h => h⟩)
          have BX4 := Lib.hid b4
          have HM := Lib.hid hM
          have HF := Lib.hid hfit
          have HLT := Lib.hid fun k hk => (HAC.out.own.lt k hk)
          have HSZ3 := Lib.hid hb3.size
          have HSZW := Lib.hid hbw.out.size
          clear hM hO3 hb3 hb4 b4 hb34 hfit HR hd8 hslt
          by_cases k3 : er3 = 0
          · by_cases k4 : s3 ≤ last
            · have d2 : decide (s3 ≤ last) = true := decide_eq_true k4
              have E3 := Lib.hid (show recL (L.map (·.bs)) 0 = (X.map G.o, true) by rw [HREC.out, RB.out (.inr k4)]; simp)
              obtain ⟨Ax, cx, rfl, hbx⟩ := HA4.out.bats
              have HBX := Lib.hid hbx
              rw [k3]
              clear k3 k4 hbx HREC RB RM hz4
              go_wp2_with fail
              go_returns
              exact ⟨Ax, cx, X, 2, rfl, HBX.out.later (fun _ _ => rfl) fun k hk => ⟨Nat.le_trans (Nat.le_trans HK1.out.size HB2.out.size) hk.1, hk.2⟩, (H1.out.below HB2.out).below HB4.out, (HK1.out.trans (below_keep (S := S) HB2.out) fun _ _ h => h).trans (below_keep (S := S) HB4.out) (fun _ _ h => h),
                fun h0 => absurd rfl h0, fun _ => ⟨_, n, cl, HRD.out, by rw [E3.out], by rw [E3.out]; rfl⟩⟩
            · have d2 : decide (s3 ≤ last) = false := decide_eq_false k4
              obtain ⟨f1, f2, f3⟩ := HF.out k3
              obtain ⟨v5, W5, hr5, ha5, ho5⟩ := HA4.out.more OK4.out (fun k hk => ⟨Nat.le_trans HSZW.out hk.1, by rw [hz4]; omega, fun e => by have := (HLT.out k e).2; omega⟩) HB4.out.size (by omega)
              rw [hz4] at hr5
              have b5 : Box W5 W3.heap.size 38 [.int .u64 (s3 : Int), .slice A3 M.length c3] := BX4.out.keep ho5.keep fun e => by have := (HLT.out _ e).2; have := HSZ3.out; omega
              have HB5 := Lib.hid (HB4.out.trans (ho5.below HA4.out.own HB4.out.size))
              have HA5 := Lib.hid ha5
              have HR5 := Lib.hid hr5
              obtain ⟨t0, t1, _, _⟩ := b5.facts2
              have HREC2 := Lib.hid (show recL (L.map (·.bs)) 0 = ((X ++ [(⟨s3, A3, c3, M⟩ : G)]).map G.o ++ (recL ((L.drop (j + 1)).map (·.bs)) (s3 + M.length - 1)).1, (recL ((L.drop (j + 1)).map (·.bs)) (s3 + M.length - 1)).2) by
                rw [HREC.out, RM.out (by omega), List.map_append, List.append_assoc]
                simp [G.o, HM.out])
              rw [k3]
              clear k3 k4 ho5 ha5 hr5 b5 HREC RB RM hz4
              go_wp2_with (at_builtin; refine wpList_append_run rfl _ _ 22 rfl rfl rfl HR5.out ?_)
              go_roundw
              case rel => exact ⟨j + 1, s3 + M.length - 1, X ++ [⟨s3, A3, c3, M⟩], by go_num, by go_num, by omega, by omega, by rw [List.length_append, List.length_singleton]; omega, HA5, HB5, HREC2⟩
              case measure => simp [intOf]; omega
          · have d1 : ((er3 : Int) != 0) = true := by rw [bne_iff_ne]; omega
            have E3 := Lib.hid (show recL (L.map (·.bs)) 0 = (X.map G.o, true) by rw [HREC.out, RB.out (.inl k3)]; simp)
            obtain ⟨Ax, cx, rfl, hbx⟩ := HA4.out.bats
            have HBX := Lib.hid hbx
            clear k3 hbx HREC RB RM hz4 hth
            go_wp2_with fail
            go_returns
            exact ⟨Ax, cx, X, 2, rfl, HBX.out.later (fun _ _ => rfl) fun k hk => ⟨Nat.le_trans (Nat.le_trans HK1.out.size HB2.out.size) hk.1, hk.2⟩, (H1.out.below HB2.out).below HB4.out, (HK1.out.trans (below_keep (S := S) HB2.out) fun _ _ h => h).trans (below_keep (S := S) HB4.out) (fun _ _ h => h),
              fun h0 => absurd rfl h0, fun _ => ⟨_, n, cl, HRD.out, by rw [E3.out], by rw [E3.out]; rfl⟩⟩
        · obtain rfl : j = L.length := by omega
          have HREC := Lib.hid (show recL (L.map (·.bs)) 0 = (X.map G.o, false) by rw [hrec.out, List.drop_length]; simp [recL])
          obtain ⟨Ax, cx, rfl, hbx⟩ := hacc.out.bats
          have HBX := Lib.hid hbx
          clear hbx hrec hacc
          go_wp2_with fail
          go_returns
          exact ⟨Ax, cx, X, cl, rfl, HBX.out.later (fun _ _ => rfl) fun k hk => ⟨Nat.le_trans (Nat.le_trans HK1.out.size HB2.out.size) hk.1, hk.2⟩, (H1.out.below HB2.out).below hbw.out, (HK1.out.trans (below_keep (S := S) HB2.out) fun _ _ h => h).trans (below_keep (S := S) hbw.out) (fun _ _ h => h),
            fun h0 => absurd rfl h0, fun _ => ⟨_, n, cl, HRD.out, by rw [HREC.out], by rw [HREC.out]; rfl⟩⟩
    · have d1 : ((er : Int) != 0) = true := by rw [bne_iff_ne]; omega
      have HE := Lib.hid k1
      clear k1 hl1 hc1 hm1 h1 hk1 HR
      go_wp2_with fail
      go_returns
      exact ⟨none, 0, [], 0, rfl, BatsP.zero _ _, H1.out, HK1.out, fun _ => ⟨rfl, rfl⟩, fun h0 => absurd h0 HE.out⟩
  · have E2 := E0.out kz
    subst E2
    have d1 : ((ez : Int) != 0) = true := by rw [bne_iff_ne]; omega
    have HE := Lib.hid kz
    clear kz E0 E1 hz3 hcs
    go_wp2_with fail
    go_returns
    exact ⟨none, 0, [], 0, rfl, BatsP.zero _ _, H0.out, HK0.out, fun _ => ⟨rfl, rfl⟩, fun h0 => absurd h0 HE.out⟩
end
end Go.Proofs.YtnbknihaefkllaaGreatDoor.Wl
/- SameBatches, the document's own: true of equal lists of batches, whatever memory they lie in. -/
namespace Go.Proofs.YtnbknihaefkllaaGreatDoor.Wl
set_option linter.unusedVariables false
set_option linter.unusedSimpArgs false
open Go.RowKit Lift Ik
open Bt (O D Ops opsO same_batch)
theorem Bats.load {w w' : World} {B : Nat} {A : Option Addr} {c : Nat} {L : List G} (h : Bats w B A c L) {i : Nat} {d : G} (hd : L[i]? = some d) :
    ∃ ad p : Addr, A = some ad ∧ ad.add (i * 2) = p ∧ ∀ w', Below B w w' → Sem.run Tryz.prog (loadVar 38 p) w' = .ok d.v w' ∧ w'.cell? p = some (.int .u64 (d.s : Int)) ∧ w'.cell? ⟨p.block, p.off + 1, none⟩ = some (.slice d.a d.l.length d.c) := by
  obtain ⟨ad, p, h1, h2, h3, h4, h5, h6⟩ := h.place hd
  refine ⟨ad, p, h1, h3, fun w' hb => ?_⟩
  have k5 := (hb.cell (p := p) (by rw [h4]; exact h2)).trans h5
  have k6 := (hb.cell (p := ⟨p.block, p.off + 1, none⟩) (by show p.block < B; rw [h4]; exact h2)).trans h6
  exact ⟨load_bat k5 k6, k5, k6⟩
set_option maxRecDepth 100000 in
set_option maxHeartbeats 1600000 in
theorem same_bats' (A1 A2 : Option Addr) (c1 c2 : Nat) (L M : List G) (w : World) (h1 : Bats w w.heap.size A1 c1 L) (h2 : Bats w w.heap.size A2 c2 M) (he : L.map G.o = M.map G.o) :
    Calls Tryz.prog 23 #[.slice A1 L.length c1, .slice A2 M.length c2] w fun e w' => e = .returned (.bool true) ∧ Below w.heap.size w w' := by
  have hML : M.length = L.length := by have := congrArg List.length he; simpa using this.symm
  rw [hML]
  have HML := Lib.hid hML
  have H1 := Lib.hid h1
  have H2 := Lib.hid h2
  have HE := Lib.hid he
  have hc1 := h1.len
  have hm1 := h1.cap
  have hc2 : L.length ≤ c2 := by have := h2.len; omega
  have hm2 := h2.cap
  unfold maxLen at hm1 hm2
  clear h1 h2 he hML
  have hnn : ((L.length : Int) != (L.length : Int)) = false := by simp
  go_enter Tryz.func23, Tryz.ntmps23
  go_wp2_with fail
  go_loopw [5] (fun i wr => ∃ j : Nat, i = .int .i64 (j : Int) ∧ j ≤ L.length ∧ Hid (Below w.heap.size w wr)) (fun i _ => L.length + 1 - (intOf i).toNat)
  case atStart => exact ⟨0, rfl, Nat.zero_le _, Lib.hid (Below.refl _ _)⟩
  case round =>
    obtain ⟨j, rfl, hj, hb⟩ := hrel
    by_cases hlt : j < L.length
    · obtain ⟨d, hd⟩ : ∃ d, L[j]? = some d := ⟨_, List.getElem?_eq_getElem hlt⟩
      obtain ⟨x, hx⟩ : ∃ x, M[j]? = some x := ⟨_, List.getElem?_eq_getElem (by rw [HML.out]; exact hlt)⟩
      have hdx : d.o = x.o := by
        have h := congrArg (fun l => l[j]?) HE.out
        simp only [List.getElem?_map, hd, hx, Option.map_some] at h
        exact Option.some.inj h
      have hs : x.s = d.s := (congrArg Prod.fst hdx).symm
      have ho : opsO d.l = opsO x.l := congrArg Prod.snd hdx
      obtain ⟨ad1, p1, hA1, hz1, hl1⟩ := (H1.out.below hb.out).load (w' := wr) hd
      obtain ⟨ad2, p2, hA2, hz2, hl2⟩ := (H2.out.below hb.out).load (w' := wr) hx
      have HO1 := Lib.hid ((H1.out.below hb.out).ops hd)
      have HO2 := Lib.hid ((H2.out.below hb.out).ops hx)
      have HL1 := Lib.hid hl1
      have HL2 := Lib.hid hl2
      have HO := Lib.hid ho
      rw [hs] at HL2
      have HSZ := Lib.hid hb.out.size
      subst hA1
      subst hA2
      clear hd hx hdx hs ho hl1 hl2
      go_wp2_with fail
      refine wp_region_held_drew (S := fun w' => Hid (Below wr.heap.size wr w')) (by kernel_rfl) (Lib.hid (Below.refl _ _).drew) (fun hS => ?_)
      refine wpAnyH_take (i := 0) (v := ?_) rfl (by kernel_rfl) (by kernel_rfl) (by kernel_rfl) (fun _ _ _ h => h) (Or.inl ⟨by rfl, ?_⟩) hS ?_
      rotate_left
      · intro w hw
        go_simp
        try with_reducible rfl
      try simp only [Act.put, List.getElem_toArray, List.getElem_cons_succ, List.getElem_cons_zero, List.setIfInBounds_toArray, List.set_cons_zero, List.set_cons_succ]
      refine wpAnyH_take (i := 1) (v := ?_) rfl (by kernel_rfl) (by kernel_rfl) (by kernel_rfl) (fun _ _ _ h => h) (Or.inl ⟨by rfl, ?_⟩) hS ?_
      rotate_left
      · intro w hw
        go_simp
        try with_reducible rfl
      try simp only [Act.put, List.getElem_toArray, List.getElem_cons_succ, List.getElem_cons_zero, List.setIfInBounds_toArray, List.set_cons_zero, List.set_cons_succ]
      refine wpAnyH_take (i := 2) (v := ?_) rfl (by kernel_rfl) (by kernel_rfl) (by kernel_rfl) (fun _ _ _ h => h) (Or.inl ⟨by rfl, ?_⟩) hS ?_
      rotate_left
      · intro w hw
        go_simp
        try with_reducible rfl
      try simp only [Act.put, List.getElem_toArray, List.getElem_cons_succ, List.getElem_cons_zero, List.setIfInBounds_toArray, List.set_cons_zero, List.set_cons_succ]
      refine wpAnyH_take (i := 3) (v := ?_) rfl (by kernel_rfl) (by kernel_rfl) (by kernel_rfl) (fun _ _ _ h => h) (Or.inl ⟨by rfl, ?_⟩) hS ?_
      rotate_left
      · intro w hw
        have hu := hw.out.mono HSZ.out
        have hl := (HL1.out w hu).1
        have hl0 := (HL1.out w hu).2.1
        have hl1 := (HL1.out w hu).2.2
        go_simp
        try with_reducible rfl
      try simp only [Act.put, List.getElem_toArray, List.getElem_cons_succ, List.getElem_cons_zero, List.setIfInBounds_toArray, List.set_cons_zero, List.set_cons_succ]
      refine wpAnyH_take (i := 4) (v := ?_) rfl (by kernel_rfl) (by kernel_rfl) (by kernel_rfl) (fun _ _ _ h => h) (Or.inl ⟨by rfl, ?_⟩) hS ?_
      rotate_left
      · intro w hw
        go_simp
        try with_reducible rfl
      try simp only [Act.put, List.getElem_toArray, List.getElem_cons_succ, List.getElem_cons_zero, List.setIfInBounds_toArray, List.set_cons_zero, List.set_cons_succ]
      refine wpAnyH_take (i := 5) (v := ?_) rfl (by kernel_rfl) (by kernel_rfl) (by kernel_rfl) (fun _ _ _ h => h) (Or.inl ⟨by rfl, ?_⟩) hS ?_
      rotate_left
      · intro w hw
        go_simp
        try with_reducible rfl
      try simp only [Act.put, List.getElem_toArray, List.getElem_cons_succ, List.getElem_cons_zero, List.setIfInBounds_toArray, List.set_cons_zero, List.set_cons_succ]
      refine wpAnyH_take (i := 6) (v := ?_) rfl (by kernel_rfl) (by kernel_rfl) (by kernel_rfl) (fun _ _ _ h => h) (Or.inl ⟨by rfl, ?_⟩) hS ?_
      rotate_left
      · intro w hw
        go_simp
        try with_reducible rfl
      try simp only [Act.put, List.getElem_toArray, List.getElem_cons_succ, List.getElem_cons_zero, List.setIfInBounds_toArray, List.set_cons_zero, List.set_cons_succ]
      refine wpAnyH_take (i := 7) (v := ?_) rfl (by kernel_rfl) (by kernel_rfl) (by kernel_rfl) (fun _ _ _ h => h) (Or.inl ⟨by rfl, ?_⟩) hS ?_
      rotate_left
      · intro w hw
        have hu := hw.out.mono HSZ.out
        have hl := (HL2.out w hu).1
        have hl0 := (HL2.out w hu).2.1
        have hl1 := (HL2.out w hu).2.2
        go_simp
        try with_reducible rfl
      try simp only [Act.put, List.getElem_toArray, List.getElem_cons_succ, List.getElem_cons_zero, List.setIfInBounds_toArray, List.set_cons_zero, List.set_cons_succ]
      refine wpAnyH_ready (rs := [8]) (by kernel_rfl) (by simp) ?_
      refine AllReadyH.cons rfl (fun K hK => ?_) AllReadyH.nil
      go_simp
      have hu := hS.out.mono HSZ.out
      refine (same_batch d.s d.a x.a d.c x.c d.l x.l _ ((HO1.out.below hu).up (Nat.le_trans HSZ.out hS.out.size)) ((HO2.out.below hu).up (Nat.le_trans HSZ.out hS.out.size)) HO.out).mono ?_
      rintro e W2 ⟨rfl, hb2⟩
      have H3 := Lib.hid (hS.out.trans (hb2.mono hS.out.size))
      clear hb2 hu
      go_wp2_with fail
      refine hK.out _ _ H3 (fun _ => ?_)
      clear hK K hS
      refine wpAnyH_other (S' := fun w' => Hid (Below W2.heap.size W2 w')) (fun w hw => Lib.hid (H3.out.trans (hw.out.mono H3.out.size))) _ _ _ _ ?_
      have hS : Hid (Below W2.heap.size W2 W2) := Lib.hid (Below.refl _ _)
      try simp only [Act.put, List.getElem_toArray, List.getElem_cons_succ, List.getElem_cons_zero, List.setIfInBounds_toArray, List.set_cons_zero, List.set_cons_succ]
      refine wpAnyH_take (i := 9) (v := ?_) rfl (by kernel_rfl) (by kernel_rfl) (by kernel_rfl) (fun _ _ _ h => h) (Or.inl ⟨by rfl, ?_⟩) hS ?_
      rotate_left
      · intro w hw
        go_simp
        try with_reducible rfl
      try simp only [Act.put, List.getElem_toArray, List.getElem_cons_succ, List.getElem_cons_zero, List.setIfInBounds_toArray, List.set_cons_zero, List.set_cons_succ]
      refine wpAnyH_done (by kernel_rfl) ?_ _
      have HB3 := Lib.hid (hb.out.trans ((H3.out.trans (hS.out.mono H3.out.size)).mono hb.out.size))
      go_wp2_with fail
      go_roundw
      case rel => exact ⟨j + 1, by go_num, by omega, HB3⟩
      case measure => simp [intOf]; omega
    · obtain rfl : j = L.length := by omega
      go_wp2_with fail
      go_ret
      exact ⟨rfl, hb.out⟩
theorem same_bats (A1 A2 : Option Addr) (c1 c2 : Nat) (L M : List G) (w : World) (h1 : Bats w w.heap.size A1 c1 L) (h2 : Bats w w.heap.size A2 c2 M) (he : L.map G.o = M.map G.o) (hn : L.length ≤ 40000000) :
    Calls Tryz.prog 23 #[.slice A1 L.length c1, .slice A2 M.length c2] w fun e w' => e = .returned (.bool true) ∧ Below w.heap.size w w' := same_bats' A1 A2 c1 c2 L M w h1 h2 he
end Go.Proofs.YtnbknihaefkllaaGreatDoor.Wl
/- A disk with one log on it, as it is told; what the laws on package wal share. -/
namespace Go.Proofs.YtnbknihaefkllaaGreatDoor.Wl
set_option linter.unusedVariables false
set_option linter.unusedSimpArgs false
open Go.RowKit Go.Maps Lift Ik Dk
open Bt (O D Ops OpsP opsO readB bytesE)

abbrev one (room : Nat) (bs : List Nat) (n : Nat) : MS := ⟨room, [⟨lN, bs, n⟩], [], 0⟩
abbrev bare (room : Nat) : MS := ⟨room, [], [], 0⟩
theorem size_bare (room : Nat) : sizeM (bare room) lN = (8, 0) := by
  unfold sizeM onFile
  rw [bad_ok rfl (by simp [nm_l]), if_neg (by simp)]
  rfl
theorem size_one (room : Nat) (bs : List Nat) (n : Nat) : sizeM (one room bs n) lN = (0, bs.length) := file_ok (f := ⟨lN, bs, n⟩) rfl nm_l (get_head rfl)
theorem sync_one (room : Nat) (bs : List Nat) (n : Nat) : syncM (one room bs n) lN = (0, one room bs bs.length) := by
  rw [sync_ok (f := ⟨lN, bs, n⟩) rfl nm_l (get_head rfl)]
  exact congrArg (fun l => (0, ({ room := room, fs := l, armed := [], failed := 0 } : MS))) (put_head (f := ⟨lN, bs, n⟩) (f' := ⟨lN, bs, bs.length⟩) (l := []) rfl)
theorem app_bare (room : Nat) (b : List Nat) (h : b.length ≤ room) (h2 : b.length ≤ 16777216) : appendM (bare room) lN b = (0, one room b 0) := by
  rw [append_new rfl nm_l rfl h2 (by simp) (by simp [used]; omega)]
  rfl
theorem app_one (room : Nat) (bs b : List Nat) (n : Nat) (h : bs.length + b.length ≤ room) (h2 : bs.length + b.length ≤ 16777216) : appendM (one room bs n) lN b = (0, one room (bs ++ b) n) := by
  rw [append_old (f := ⟨lN, bs, n⟩) rfl nm_l (get_head rfl) h2 (by simp [used]; omega)]
  exact congrArg (fun l => (0, ({ room := room, fs := l, armed := [], failed := 0 } : MS))) (put_head (f := ⟨lN, bs, n⟩) (f' := ⟨lN, bs ++ b, n⟩) (l := []) rfl)
theorem log_bare (room : Nat) (b : List Nat) (sync : Bool) (h : (Fr.put 0 b).length ≤ room) (h2 : (Fr.put 0 b).length ≤ 16777216) : logM (bare room) lN b sync = (0, one room (Fr.put 0 b) (if sync then (Fr.put 0 b).length else 0)) := by
  rw [logM_in (.inr (by rw [size_bare])), size_bare, show (hit (bare room)).2 = bare room from rfl, app_bare room _ h h2]
  cases sync
  · rfl
  · rw [if_neg (by simp), sync_one]
    rfl
theorem log_one (room : Nat) (bs b : List Nat) (n : Nat) (sync : Bool) (h : bs.length + (Fr.put bs.length b).length ≤ room) (h2 : bs.length + (Fr.put bs.length b).length ≤ 16777216) :
    logM (one room bs n) lN b sync = (0, one room (bs ++ Fr.put bs.length b) (if sync then (bs ++ Fr.put bs.length b).length else n)) := by
  rw [logM_in (.inl (by rw [size_one])), size_one, show (hit (one room bs n)).2 = one room bs n from rfl, app_one room _ _ _ h h2]
  cases sync
  · rfl
  · rw [if_neg (by simp), sync_one]
    rfl
/-- The disk behind appends of the batches L, of whose log k bytes are synced. -/
def st (room : Nat) (L : List BO) (k : Nat) : MS := if L = [] then bare room else one room (logB L) k
theorem st_nil (room k : Nat) : st room [] k = bare room := rfl
theorem st_some {room k : Nat} {L : List BO} (h : L ≠ []) : st room L k = one room (logB L) k := if_neg h
theorem st_failed (room k : Nat) (L : List BO) : (st room L k).failed = 0 := by unfold st; split <;> rfl
theorem wal_step (room : Nat) (L : List BO) (k : Nat) (b : BO) (sync : Bool) (hb : bytesE b.1 b.2 = 0) (hk : L = [] → k = 0) (h : (logB (L ++ [b])).length ≤ room) (h2 : (logB (L ++ [b])).length ≤ 16777216) :
    walM (st room L k) lN b.1 b.2 sync = (0, st room (L ++ [b]) (if sync then (logB (L ++ [b])).length else k)) := by
  unfold walM
  rw [if_neg (by omega), st_some (L := L ++ [b]) (by simp)]
  rw [logB_snoc] at h h2 ⊢
  rw [List.length_append] at h h2
  by_cases hL : L = []
  · subst hL
    obtain rfl := hk rfl
    rw [st_nil, show logB [] = [] from rfl] at *
    rw [show Bt.encB b.1 b.2 = encP b from rfl, log_bare room _ sync (by simpa using h) (by simpa using h2)]
    rfl
  · rw [st_some hL, show Bt.encB b.1 b.2 = encP b from rfl, log_one room _ _ _ sync h h2]
theorem cont_bare (room : Nat) : contM (bare room) lN = (8, [], bare room) := by
  unfold contM
  rw [size_bare, if_pos (by simp)]
  rfl
theorem cont_one (room : Nat) (bs : List Nat) (n : Nat) : contM (one room bs n) lN = (0, bs, one room bs n) := by
  unfold contM
  rw [size_one, if_neg (by simp), show (hit (one room bs n)).2 = one room bs n from rfl, read_all (f := ⟨lN, bs, n⟩) rfl nm_l (get_head rfl) (Int.le_refl _)]
  rfl
theorem crash_one (room : Nat) (bs : List Nat) (n : Nat) (keep : Int) : crashM (one room bs n) keep = one room (bs.take (n + keep.toNat)) (bs.take (n + keep.toNat)).length := rfl
theorem crash_bare (room : Nat) (keep : Int) : crashM (bare room) keep = bare room := rfl
/-- A log that was recovered. -/
theorem recR_good {L : List BO} (h : rises L 0) {bs : List Nat} {n c : Nat} (hR : Fr.Rd bs 0 false [] 0 [] (recs L, n, c)) : recR bs L c := by
  have hg := recL_good L 0 h
  exact ⟨recs L, n, c, hR, by rw [show recs L = L.map encP from rfl, hg], by rw [show recs L = L.map encP from rfl, hg]; rfl⟩

theorem num_any (n : Int) (w : World) : Calls Tryz.prog 12 #[.int .i64 n] w fun e w' => e = .returned (.int .i64 n) ∧ w = w' := by
  go_enter Tryz.func12, Tryz.ntmps12
  go_wp2
  go_ret
  exact ⟨rfl, rfl⟩
/-- true, and all old memory as it was. -/
def Yes (w : World) (e : Ending) (w' : World) : Prop := e = .returned (.bool true) ∧ Below w.heap.size w w'
/-- What Recover tells of a disk of the call's own. -/
theorem own_rec {B g : Nat} {w0 w w' : World} {S : Nat → Prop} {m : MS} {r : Nat × List Nat × MS} {e : Ending} (h : Own B w0 w g S m) (hB : B ≤ w.heap.size) (ht : Recov w g S r e w') :
    ∃ (A : Option Addr) (c : Nat) (X : List G) (cl : Nat), e = .returned (.tuple #[.slice A X.length c, .int .i64 (cl : Int), .int .i64 (r.1 : Int)]) ∧ BatsP w' (fun k => ¬ S k ∧ B ≤ k ∧ k < w'.heap.size) A c X ∧ Own B w0 w' g S r.2.2 ∧ Keep S w w' ∧
      (r.1 ≠ 0 → X = [] ∧ cl = 0) ∧ (r.1 = 0 → recR r.2.1 (X.map G.o) cl) := by
  obtain ⟨A, c, X, cl, he, hX, hA, hK, h1, h2⟩ := ht
  exact ⟨A, c, X, cl, he, hX.later (fun _ _ => rfl) fun k hk => ⟨fun hs => by have := h.1.lt k hs; omega, Nat.le_trans hB hk.1, hk.2⟩, ⟨hA, h.2.1, h.2.2.trans (hK.below hB h.2.1)⟩, hK, h1, h2⟩
theorem own_later' {B g : Nat} {w0 w w' : World} {S : Nat → Prop} {m : MS} (h : Own B w0 w g S m) (hB : B ≤ w.heap.size) (hb : Below w.heap.size w w') : Own B w0 w' g S m := ⟨h.1.below hb, h.2.1, h.2.2.trans (hb.mono hB)⟩

def exB : BO := (1, [⟨0, [97], []⟩])
theorem ex_ok : bytesE exB.1 exB.2 = 0 := by decide
theorem ex_up : rises [exB] 0 := ⟨ex_ok, by decide, trivial⟩
set_option maxRecDepth 100000 in
set_option maxHeartbeats 1600000 in
theorem alive_any (w : World) : Calls Tryz.prog 4 #[] w (Yes w) := by
  have kc := fun (W : World) (C : Array Value) (n c : Nat) => Lib.run_convert_bytes_const (P := Tryz.prog) W 24 5 C n c Tryz.underlying24 Tryz.underlying5
  go_enter Tryz.func4, Tryz.ntmps4
  go_wp2_with fail
  refine (new_own 1000 (by decide) w (Nat.le_refl _) (Below.refl _ _)).mono ?_
  rintro e W1 ⟨g, S1, rfl, hO1, _, _, _⟩
  have O1 := Lib.hid (show Own w.heap.size w W1 g S1 (st 1000 [] 0) from hO1)
  clear hO1
  go_wp2_with fail
  refine (rec_any lN O1.out.1 (by rw [st_failed]; decide)).mono ?_
  intro e W2 ht
  obtain ⟨A2, c2, X2, cl2, rfl, _, hO2, _, hbad, _⟩ := own_rec O1.out (O1.out.size (Nat.le_refl _)) ht
  rw [st_nil, cont_bare] at hO2 hbad ⊢
  obtain ⟨rfl, rfl⟩ := hbad (by decide)
  have O2 := Lib.hid (show Own w.heap.size w W2 g S1 (st 1000 [] 0) from hO2)
  clear ht hO2 hbad
  go_wp2_with fail
  have hb3 := Joins.below_alloc2 W2 (.cells #[.int .u8 97] 5 (1, 2)) (.cells #[.int .i64 0, .slice (some ⟨W2.heap.size, 0, none⟩) 1 1, .slice none 0 0] 51)
  have e1 : ((W2.alloc (.cells #[.int .u8 97] 5 (1, 2))).alloc (.cells #[.int .i64 0, .slice (some ⟨W2.heap.size, 0, none⟩) 1 1, .slice none 0 0] 51)).heap[W2.heap.size]? = some (.cells #[.int .u8 97] 5 (1, 2)) :=
    (Below.heap_alloc _ _ _ (by simp)).trans (heap_alloc_new W2 _)
  have e2 : ((W2.alloc (.cells #[.int .u8 97] 5 (1, 2))).alloc (.cells #[.int .i64 0, .slice (some ⟨W2.heap.size, 0, none⟩) 1 1, .slice none 0 0] 51)).heap[W2.heap.size + 1]? = some (.cells #[.int .i64 0, .slice (some ⟨W2.heap.size, 0, none⟩) 1 1, .slice none 0 0] 51) := by
    have := heap_alloc_new (W2.alloc (.cells #[.int .u8 97] 5 (1, 2))) (.cells #[.int .i64 0, .slice (some ⟨W2.heap.size, 0, none⟩) 1 1, .slice none 0 0] 51)
    rw [show (W2.alloc (.cells #[.int .u8 97] 5 (1, 2))).heap.size = W2.heap.size + 1 by simp] at this
    exact this
  have hz : ((W2.alloc (.cells #[.int .u8 97] 5 (1, 2))).alloc (.cells #[.int .i64 0, .slice (some ⟨W2.heap.size, 0, none⟩) 1 1, .slice none 0 0] 51)).heap.size = W2.heap.size + 2 := by simp
  generalize ((W2.alloc (.cells #[.int .u8 97] 5 (1, 2))).alloc (.cells #[.int .i64 0, .slice (some ⟨W2.heap.size, 0, none⟩) 1 1, .slice none 0 0] 51)) = W3 at hb3 e1 e2 hz ⊢
  have hO : Ops W3 W3.heap.size (some ⟨W2.heap.size + 1, 0, none⟩) 1 [⟨0, some ⟨W2.heap.size, 0, none⟩, 1, [97], none, 0, []⟩] := by
    refine ⟨lies_block e2 (by omega), Nat.le_refl _, by decide, fun d hd => ?_⟩
    simp at hd
    subst hd
    exact ⟨(lies_block e1 (show W2.heap.size < W3.heap.size by omega)).p fun _ h => h, Nat.le_refl _, (show 1 ≤ maxLen by decide), by simp, .inl rfl, Nat.le_refl _, (show 0 ≤ maxLen by decide), by simp, by simp, by simp⟩
  have O3 := Lib.hid (own_later' O2.out (O2.out.size (Nat.le_refl _)) hb3)
  have HA := Lib.hid (wapp_any lN 1 (some ⟨W2.heap.size + 1, 0, none⟩) 1 [⟨0, some ⟨W2.heap.size, 0, none⟩, 1, [97], none, 0, []⟩] true O3.out.1 (by rw [st_failed]; decide) (by decide) hO)
  clear hb3 e1 e2 hz hO kc
  have ew : walM (st 1000 [] 0) lN 1 (opsO [⟨0, some ⟨W2.heap.size, 0, none⟩, 1, [97], none, 0, []⟩]) true = (0, st 1000 [exB] (logB [exB]).length) := wal_step 1000 [] 0 exB true ex_ok (fun _ => rfl) (by decide) (by decide)
  rw [ew] at HA
  refine (show Calls Tryz.prog 13 #[.pointer (some ⟨g, 0, none⟩), .string ⟨#[108]⟩, .agg #[.int .u64 1, .slice (some ⟨W2.heap.size + 1, 0, none⟩) 1 1], .bool true] W3 _ from HA.out).mono ?_
  intro e W4 ht
  obtain ⟨S4, rfl, hO4, _, _⟩ := O3.out.told (O3.out.size (Nat.le_refl _)) ht
  have O4 : Hid (Own w.heap.size w W4 g S4 (st 1000 [exB] (logB [exB]).length)) := Lib.hid hO4
  clear ht hO4 HA ew
  go_wp2_with fail
  refine (rec_any lN O4.out.1 (by rw [st_failed]; decide)).mono ?_
  intro e W5 ht
  obtain ⟨A5, c5, X5, cl5, rfl, hX5, hO5, _, _, hgood⟩ := own_rec O4.out (O4.out.size (Nat.le_refl _)) ht
  have hlen5 : X5.length ≤ c5 := hX5.len
  have hcap5 : c5 ≤ maxLen := hX5.cap
  rw [st_some (by simp), cont_one] at hO5 hgood ⊢
  obtain ⟨hXe, _⟩ := recR_det (hgood rfl) (recR_good ex_up (n := (logB [exB]).length) (c := 0) (by
    have h := Fr.rd_log (recs [exB]) [] (recs [exB], (logB [exB]).length, 0) (by rw [List.append_nil]; exact Fr.rd_end)
    rw [List.append_nil] at h
    exact h))
  have hn5 : X5.length = 1 := by have := congrArg List.length hXe; simpa using this
  have O5 := Lib.hid hO5
  rw [hn5]
  clear ht hO5 hX5 hgood hXe hn5 hlen5 hcap5
  go_wp2_with (go_at_call 12; refine (num_any _ _).mono ?_; rintro e w' ⟨rfl, rfl⟩)
  go_ret
  exact ⟨rfl, O5.out.2.2⟩
end Go.Proofs.YtnbknihaefkllaaGreatDoor.Wl
/- Two disks of the call's own side by side: the project's and the document's, told the same. -/
namespace Go.Proofs.YtnbknihaefkllaaGreatDoor.Wl
set_option linter.unusedVariables false
set_option linter.unusedSimpArgs false
open Go.RowKit Go.Maps Lift Ik
open Dk (MS FM hit hit_fs hit_failed sizeM readM syncM appendM crashM)

/-- Both disks in memory, in blocks from B on, apart. -/
structure Two (B : Nat) (w0 w : World) (g : Nat) (S : Nat → Prop) (md : MS) (gr : Nat) (Sr : Nat → Prop) (rm : Int) (mr : MS) : Prop where
  d : Dk.At w g S md
  r : Rk.At w gr Sr rm mr
  ds : ∀ k, S k → B ≤ k
  rs : ∀ k, Sr k → B ≤ k
  ap : ∀ k, S k → ¬ Sr k
  low : Below B w0 w
  up : B ≤ w0.heap.size
section
variable {B g gr : Nat} {w0 w w' : World} {S Sr S' : Nat → Prop} {md mr m' : MS} {rm : Int}
theorem Two.size (h : Two B w0 w g S md gr Sr rm mr) : B ≤ w.heap.size := Nat.le_trans h.up h.low.size
/-- A call on the project's disk. -/
theorem Two.dd (h : Two B w0 w g S md gr Sr rm mr) (hA : Dk.At w' g S' m') (hK : Keep S w w') (hS : ∀ k, S' k → S k ∨ w.heap.size ≤ k) : Two B w0 w' g S' m' gr Sr rm mr :=
  ⟨hA, h.r.keep hK fun k hk hs => h.ap k hs hk, fun k hk => (hS k hk).elim (h.ds k) fun h1 => Nat.le_trans h.size h1, h.rs, fun k hk hr => (hS k hk).elim (fun hs => h.ap k hs hr) fun h1 => by have := h.r.lt k hr; omega,
    h.low.trans (hK.below h.size h.ds), h.up⟩
/-- A call on the document's disk. -/
theorem Two.rr (h : Two B w0 w g S md gr Sr rm mr) (hA : Rk.At w' gr S' rm m') (hK : Keep Sr w w') (hS : ∀ k, S' k → Sr k ∨ w.heap.size ≤ k) : Two B w0 w' g S md gr S' rm m' :=
  ⟨h.d.keep hK fun k hk hs => h.ap k hk hs, hA, h.ds, fun k hk => (hS k hk).elim (h.rs k) fun h1 => Nat.le_trans h.size h1, fun k hk hr => (hS k hr).elim (fun hs => h.ap k hk hs) fun h1 => by have := h.d.lt k hk; omega,
    h.low.trans (hK.below h.size h.rs), h.up⟩
theorem Two.below (h : Two B w0 w g S md gr Sr rm mr) (hb : Below w.heap.size w w') : Two B w0 w' g S md gr Sr rm mr :=
  ⟨h.d.below hb, h.r.below hb, h.ds, h.rs, h.ap, h.low.trans (hb.mono h.size), h.up⟩
end
/-- How many calls have failed, and can fail yet. -/
def bud (m : MS) : Nat := m.failed + m.armed.length
theorem bud_hit (m : MS) : bud (hit m).2 ≤ bud m := by
  unfold bud hit
  split
  · exact Nat.le_refl _
  · rename_i x r hr
    split
    · simp only; rw [hr, List.length_cons]; omega
    · simp only; rw [hr, List.length_cons]; omega
theorem bud_append (m : MS) (nm : ByteArray) (b : List Nat) : bud (appendM m nm b).2 ≤ bud m := by
  have h := bud_hit m
  unfold appendM
  split
  · exact h
  · split
    · exact h
    · split
      · exact h
      · exact h
theorem bud_sync (m : MS) (nm : ByteArray) : bud (syncM m nm).2 ≤ bud m := by
  have h := bud_hit m
  unfold syncM Dk.onFile
  split
  · exact h
  · split
    · exact h
    · exact h
theorem bud_wal (m : MS) (nm : ByteArray) (s : Nat) (l : List Bt.O) (sync : Bool) : bud (walM m nm s l sync).2 ≤ bud m := by
  have h := bud_hit m
  unfold walM
  split
  · exact Nat.le_refl _
  · unfold logM
    split
    · exact h
    · have h2 := bud_append (hit m).2 nm (Fr.put (sizeM m nm).2 (Bt.encB s l))
      split
      · omega
      · have h3 := bud_sync (appendM (hit m).2 nm (Fr.put (sizeM m nm).2 (Bt.encB s l))).2 nm
        omega
theorem bud_cont (m : MS) (nm : ByteArray) : bud (contM m nm).2.2 ≤ bud m := by
  have h := bud_hit m
  have h2 := bud_hit (hit m).2
  unfold contM
  split
  · exact h
  · simp only; omega
theorem bud_crash (m : MS) (keep : Int) : bud (crashM m keep) = bud m := rfl
/-- What both logs tell is the same. -/
theorem both_same {r : Nat × List Nat × MS} {X Y : List G} {c k : Nat} (h1 : r.1 ≠ 0 → X = [] ∧ c = 0) (h2 : r.1 = 0 → recR r.2.1 (X.map G.o) c) (k1 : r.1 ≠ 0 → Y = [] ∧ k = 0) (k2 : r.1 = 0 → recR r.2.1 (Y.map G.o) k) : X.map G.o = Y.map G.o ∧ c = k := by
  by_cases h : r.1 = 0
  · exact recR_det (h2 h) (k2 h)
  · obtain ⟨rfl, rfl⟩ := h1 h
    obtain ⟨rfl, rfl⟩ := k1 h
    exact ⟨rfl, rfl⟩
end Go.Proofs.YtnbknihaefkllaaGreatDoor.Wl
/- The step from the walk to the row, of a row that lists package-level variables: what they hold is handed on to nobody. -/
namespace Go.Proofs.YtnbknihaefkllaaGreatDoor.Lift
set_option linter.unusedVariables false
open Go.ChangeShapes Go.WideShapes Go.ChangeAt Go.RowKit Go.WideElems
theorem lift_laid {H : Type} {enc : TypeId × Value → H} {C : Checked} {os : Os} {f : FuncId} {fn : Func} {s : ChangeSpec} {conds : List PathCond} {tb : TypeId} (laid : List (String × DataW Unit))
    (own : ownKnob C.prog.godebug = none) (started : os.Started) (noInit : C.prog.inits.idxOf? f = none) (hfn : C.prog.funcs[f]? = some fn)
    (witness : ∃ (w : World) (tape : Tape) (i : Input), w.os = os ∧ (w.forCall tape i).Shaped C.prog ∧ i.vars = [] ∧ Input.okWide C.prog (w.forCall tape i) .any w.heap.size f i ∧
      ((s.pre enc C.prog fn conds false (w.forCall tape i).memory i.args ∧ laidMetH C.prog laid (w.forCall tape i).memory) ∧ sizedMet enc C.prog fn (OpenSpec.ofChange s) false (w.forCall tape i).memory i.args) ∧ ({} : Assume).holds C.prog (lone (Frame.enter C.prog f i.args .normal) [] (w.forCall tape i)))
    (hl : laidOutB C.prog = true) (hr0 : (fn.params.toList.all fun t => C.prog.readableRec t && decide (t < C.prog.types.size)) = true) (hres : fn.resultTypes = #[tb]) (htb : C.prog.underlying tb = some .bool)
    (hvars : s.vars = [])
    (hs : ∀ ds : List (DataW H), ds.length = fn.params.size → (s.fn H (ds ++ [])).results = [.lit (.bool true)] ∧ (s.fn H (ds ++ [])).args = ds ∧ (s.fn H (ds ++ [])).vars = [])
    (walk : ∀ (W : World) (base : Nat) (args : Array Value) (ds : List (DataW H)) (p : List MemPlace),
      (∀ (j : Nat) t v, fn.params[j]? = some t → args[j]? = some v → Value.okWide C.prog W .any base t v) →
      DataW.TrodAll enc C.prog W 0 (fun _ => true) true fn.params.toList args.toList ds p → (∀ x, x ∈ p → x.block < W.heap.size) →
      (DataW.weightsEach C.prog fn.params.toList ds).all (· ≤ reachBytes) = true →
      Calls C.prog f args W fun e W' => e = .returned (.bool true) ∧ Below W.heap.size W W') :
    ReturnsInHanded {} C os f .any (fun w args => (s.pre enc C.prog fn conds false w args ∧ laidMetH C.prog laid w) ∧ sizedMet enc C.prog fn (OpenSpec.ofChange s) false w args) (s.post enc C.prog fn false true false false) := by
  have hr : ∀ t, t ∈ fn.params.toList → C.prog.readableRec t = true ∧ t < C.prog.types.size := fun t ht => by
    have := List.all_eq_true.1 hr0 t ht
    rw [Bool.and_eq_true, decide_eq_true_eq] at this
    exact this
  refine returnsInHanded_of_change_and (C := C) (X := fun w _ => laidMetH C.prog laid w) (fun _ _ _ hh h => h.of_heap hh) own started noInit hfn witness ?_
  intro W base args ds gs before hval hW _ hwt _ _
  have hW' := hW
  obtain ⟨p, q, hA, hV, rfl, _, _⟩ := hW
  rw [hvars] at hV
  obtain ⟨rfl, rfl⟩ := trodVars_none hV
  have hlen : ∀ (ts : List TypeId) (vs : List Value) (es : List (DataW H)) (r : List MemPlace), DataW.TrodAll enc C.prog W 0 (fun _ => true) true ts vs es r → es.length = ts.length := by
    intro ts
    induction ts with
    | nil =>
      intro vs es r h
      cases vs <;> cases es <;> simp [DataW.TrodAll] at h ⊢
    | cons t ts ih =>
      intro vs es r h
      obtain ⟨_, vs', _, es', _, r', rfl, rfl, _, _, h2⟩ := trodAll_cons h
      simp [ih vs' es' r' h2]
  have hplt : ∀ x, x ∈ p → x.block < W.heap.size := fun x hx => hW'.lt x (by simpa using hx)
  have hty : s.plain.varTypes C.prog = [] := by simp [ChangeSpec.plain, hvars, DataSpec.varTypes]
  refine (walk W base args ds p hval hA hplt ?_).mono fun e W' ⟨he, hb⟩ => ⟨_, he, ?_⟩
  · simpa [hty] using hwt
  · simp only [List.append_nil] at hW'
    exact post_true hl hr hres htb hvars (hs ds (by rw [hlen _ _ _ _ hA]; simp)) hW' hA hb
end Go.Proofs.YtnbknihaefkllaaGreatDoor.Lift
