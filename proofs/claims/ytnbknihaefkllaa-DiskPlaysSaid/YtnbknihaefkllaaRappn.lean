/- What Append of the document's own disk answers, of a file that is not there. -/
import Derived.Test.YtnbknihaefkllaaRapp
import Derived.Deep.DeepCutAuto
namespace Go.Proofs.Ytnbknihaefkllaa.Rk
set_option linter.unusedVariables false
set_option linter.unusedSimpArgs false
open Go.RowKit Go.Maps Lift Ik Dk

theorem put_ins {f f' : FM} (h : f'.nm = f.nm) : ∀ {l : List FM}, (∀ x, x ∈ l → x.nm ≠ f.nm) → put1 (insM f l) f' = insM f' l
  | [], _ => by unfold insM put1; simp [h]
  | y :: r, hn => by
    have h1 : y.nm ≠ f.nm := hn y (by simp)
    have h2 : ∀ x, x ∈ r → x.nm ≠ f.nm := fun x hx => hn x (by simp [hx])
    have ih := put_ins h h2
    have hr : put1 r f' = r := by
      unfold put1
      conv => rhs; rw [← List.map_id r]
      refine List.map_congr_left fun x hx => ?_
      rw [if_neg (by rw [h]; exact h2 x hx)]
      rfl
    have hy : ¬ y.nm = f'.nm := by rw [h]; exact h1
    unfold insM
    rw [h]
    split
    · unfold put1 at hr ⊢
      rw [List.map_cons, List.map_cons, if_pos h.symm, if_neg hy, hr]
    · unfold put1 at ih ⊢
      rw [List.map_cons, if_neg hy, ih]
section
variable {w w' : World} {g : Nat} {S S' T : Nat → Prop} {rm : Int} {m : MS} {L : List D} {A F : Option Addr} {c cf : Nat}
set_option maxRecDepth 100000 in
set_option maxHeartbeats 6400000 in
theorem rappend_new (nm : ByteArray) (Ab : Option Addr) (cb : Nat) (bs : List Nat) (hn : nm.size ≤ 1000) (h : At w g S rm m) (hf : m.failed ≤ 1000000) (hia : isAt m.fs nm = false) (hb : LiesP w (fun k => ¬ S k ∧ k < w.heap.size) Ab (bs.map vb)) (hbl : bs.length ≤ 1099511627776) (hb8 : ∀ x, x ∈ bs → x < 256) :
    Calls Try.prog (16) #[.pointer (some ⟨g, 0, none⟩), .string nm, .slice Ab bs.length cb] w (RTold w g S rm (appendM m nm bs)) := by
  obtain ⟨L, A, F, c, cf, h⟩ := h
  have HD := Lib.hid (down_any h hf)
  have HT := Lib.hid h.told
  have HSO := Lib.hid h.sorted
  have HSG := Lib.hid h.sg
  have HB := Lib.hid hb
  have HB8 := Lib.hid hb8
  have HMN := Lib.hid h.many
  clear h hb hb8
  go_enter Try.func16, Try.ntmps16
  go_wp2_with fail
  refine HD.out.mono ?_
  rintro e W1 ⟨F1, cf1, rfl, hk1, hL1⟩
  have HK := Lib.hid hk1
  have HL := Lib.hid hL1
  clear hk1 hL1 HD
  cases hh : (hit m).1
  · cases hnm : nmB nm
    · have E : Hid (appendM m nm bs = (6, (hit m).2)) := Lib.hid (by
        have hb0 : bad m [nm] = 6 := by unfold bad; rw [hh]; simp [hnm]
        unfold appendM
        rw [hb0, if_pos (by decide)])
      clear hh
      go_wp2_with (go_at_call 43; refine (named_any nm _ hn).mono ?_; rintro e w' ⟨rfl, rfl⟩)
      go_ret
      rw [E.out]
      exact rtold_same HL.out HK.out
    · have HB0 : Hid (bad m [nm] = 0) := Lib.hid (by unfold bad; rw [hh]; simp [hnm])
      have hnm40 : nm.size ≤ 40 := by
        unfold nmB at hnm
        simp at hnm
        exact hnm.1.2
      have hat := at_any nm HL.out
      have hfs : (hit m).2.fs = m.fs := (hit_fs m).1
      have hrm2 : (hit m).2.room = m.room := (hit_fs m).2
      rw [hfs, hia] at hat
      have HAT := Lib.hid hat
      have HG0 := Lib.hid ((idx_get (nm := nm) HSO.out).2 hia)
      have HNO := Lib.hid (not_at HSO.out hia)
      have HFS2 := Lib.hid hfs
      have HRM2 := Lib.hid hrm2
      have HLE := Lib.hid (idx_le m.fs nm)
      have HML : Hid (m.fs.length = L.length) := Lib.hid (by rw [HT.out, List.length_map])
      obtain ⟨i, hi⟩ : ∃ i, i = idx m.fs nm := ⟨_, rfl⟩
      have HI := Lib.hid hi
      have hile : i ≤ L.length := by rw [hi, ← HML.out]; exact HLE.out
      rw [← hi] at HAT
      clear hh hat hfs hrm2 hi hia
      go_wp2_with (go_at_call 43; refine (named_any nm _ hn).mono ?_; rintro e w' ⟨rfl, rfl⟩)
      refine HAT.out.mono ?_
      rintro e W2 ⟨rfl, hb2⟩
      have hL2 := HL.out.keep (T := fun _ => False) (below_keep hb2) fun _ _ => id
      have HK2 : Hid (Keep (· = g) w W2) := Lib.hid (HK.out.trans (T := fun _ => False) (below_keep hb2) fun _ _ h => h.elim)
      have HL2 := Lib.hid hL2
      have hus := hL2.used_le
      have hrw := i64_of hL2.rwf
      have hroom := hL2.room
      obtain ⟨hcap, hcm⟩ := hL2.cap
      obtain ⟨p0, p1, _⟩ := hL2.facts
      have HU := Lib.hid (rused_any hL2)
      have HLS : Hid (LiesP W2 (fun k => ¬ S k ∧ k < W2.heap.size) Ab (bs.map vb)) := Lib.hid (HB.out.later (fun k hk => HK2.out.block k hk.2 fun e => hk.1 (by rw [e]; exact HSG.out)) fun k hk => ⟨hk.1, Nat.lt_of_lt_of_le hk.2 HK2.out.size⟩)
      obtain ⟨U, hU⟩ : ∃ U, U = used (hit m).2.fs := ⟨_, rfl⟩
      rw [← hU] at HU hus
      have HUU := Lib.hid hU
      have HP := Lib.hid p1
      have HR : Hid (m.room = rm.toNat) := Lib.hid (by rw [← HRM2.out]; exact hroom)
      have HM : Hid (lenOf (Dk.get m.fs nm) = 0) := Lib.hid (by rw [HG0.out]; rfl)
      have HUM : Hid (U = used m.fs) := Lib.hid (by rw [hU, HFS2.out])
      have hmany := HMN.out
      clear hb2 hL2 hroom hU HAT
      by_cases k1 : 16777216 < bs.length
      · have d1 : decide ((16777216 : Int) < (bs.length : Int)) = true := by simp; omega
        have E : Hid (appendM m nm bs = (3, (hit m).2)) := Lib.hid (by
          unfold appendM
          rw [if_neg (by have := HB0.out; omega), if_pos (.inl (by rw [HM.out]; omega))])
        clear k1
        go_wp2_with fail
        go_ret
        rw [E.out]
        exact rtold_same HL2.out HK2.out
      · have d1 : decide ((16777216 : Int) < (bs.length : Int)) = false := by simp; omega
        by_cases k2 : 1000 ≤ L.length
        · have d2 : decide ((1000 : Int) ≤ (L.length : Int)) = true := by simp; omega
          have E : Hid (appendM m nm bs = (3, (hit m).2)) := Lib.hid (by
            unfold appendM
            rw [if_neg (by have := HB0.out; omega), if_pos (.inr ⟨by rw [HG0.out]; rfl, by rw [HML.out]; exact k2⟩)])
          clear k1 k2
          go_wp2_with fail
          go_ret
          rw [E.out]
          exact rtold_same HL2.out HK2.out
        · have d2 : decide ((1000 : Int) ≤ (L.length : Int)) = false := by simp; omega
          have E0 : Hid (appendM m nm bs = if m.room < used m.fs + bs.length then (7, (hit m).2) else (0, { (hit m).2 with fs := insM ⟨nm, bs, 0⟩ m.fs })) := Lib.hid (by
            have hg := HG0.out
            unfold appendM
            have hno : ¬ (16777216 < lenOf (Dk.get m.fs nm) + bs.length ∨ (Dk.get m.fs nm).isNone = true ∧ 1000 ≤ m.fs.length) := fun h1 => by
              rw [HM.out, HML.out] at h1
              rcases h1 with h1 | h1
              · omega
              · exact k2 h1.2
            rw [if_neg (by have := HB0.out; omega), if_neg hno, hg]
            )
          have HLT := Lib.hid (show L.length < 1000 by omega)
          have HBL := Lib.hid (show bs.length ≤ 16777216 by omega)
          clear k1 k2
          go_upto_if 54 with fail
          go_cut [10] from 49 (fun v wx => v = .int .i64 (m.room : Int) ∧ wx = W2)
          case first =>
            by_cases kr : rm < 0
            · have d3 : decide (rm < 0) = true := decide_eq_true kr
              have hm0 : (m.room : Int) = 0 := by have := HR.out; omega
              go_wp2_with fail
              go_meet
              exact ⟨by rw [hm0], rfl⟩
            · have d3 : decide (rm < 0) = false := decide_eq_false kr
              have hm0 : (m.room : Int) = rm := by have := HR.out; omega
              go_wp2_with fail
              go_meet
              exact ⟨by rw [hm0], rfl⟩
          case rest =>
          obtain ⟨rfl, h0⟩ := hcut
          have h1 := h0.symm
          clear h0
          subst h1
          have hR9 : m.room ≤ 9223372036854775807 := by have := HR.out; omega
          by_cases k3 : m.room < U + bs.length
          · have d4 : decide ((m.room : Int) < (U : Int) + (bs.length : Int)) = true := by simp; omega
            have E : Hid (appendM m nm bs = (7, (hit m).2)) := Lib.hid (by rw [E0.out, ← HUM.out, if_pos k3])
            clear k3
            go_wp2_with (go_at_call 30; refine HU.out.mono ?_; rintro e w' ⟨rfl, rfl⟩)
            go_ret
            rw [E.out]
            exact rtold_same HL2.out HK2.out
          · have d4 : decide ((m.room : Int) < (U : Int) + (bs.length : Int)) = false := by simp; omega
            have E : Hid (appendM m nm bs = (0, { (hit m).2 with fs := insM ⟨nm, bs, 0⟩ m.fs })) := Lib.hid (by rw [E0.out, ← HUM.out, if_neg k3])
            have hlies : Lies W2 W2.heap.size A (cellsL L) := Lies.of_own HL2.out.own
            obtain ⟨A2, hA2, hs2⟩ := drop_at3 A L.length c i hile hcap hcm
            have hs1 := upto_at3 A L.length c i (by omega) hcap hcm
            obtain ⟨dN, hdN⟩ : ∃ dN, dN = (⟨nm, none, 0, [], 0⟩ : D) := ⟨_, rfl⟩
            have HNEW : Hid (∀ (W4 : World) (A4 : Option Addr) (c4 : Nat), Below W2.heap.size W2 W4 → W4.ownsRow W2.heap.size Ty.file 3 (.slice A4 ((L.take i ++ [dN]) ++ L.drop i).length c4) ((L.take i ++ [dN]) ++ L.drop i).length (cellsL ((L.take i ++ [dN]) ++ L.drop i)) →
                ∃ (A3 : Option Addr) (c3 : Nat), Lay (W4.setCell ⟨g, 1, none⟩ (.slice A4 ((L.take i ++ [dN]) ++ L.drop i).length c4)) g (Gr S W2 (W4.setCell ⟨g, 1, none⟩ (.slice A4 ((L.take i ++ [dN]) ++ L.drop i).length c4))) rm { (hit m).2 with fs := insM ⟨nm, [], 0⟩ m.fs } (L.take i ++ dN :: L.drop i) A3 F1 c3 cf1 ∧ Keep (· = g) W2 (W4.setCell ⟨g, 1, none⟩ (.slice A4 ((L.take i ++ [dN]) ++ L.drop i).length c4))) := Lib.hid (by
              intro W4 A4 c4 hb4 ho4
              have hg := HL2.out.lt g HL2.out.sg
              have hk : Keep (· = g) W2 (W4.setCell ⟨g, 1, none⟩ (.slice A4 ((L.take i ++ [dN]) ++ L.drop i).length c4)) := (below_keep (S := fun j => j = g) hb4).setCell (p := ⟨g, 1, none⟩) (.inr rfl) _
              have hfr := HL2.out.fresh hk ((HL2.out.box.below hb4 hg).set 1 _) (own_keep ho4 ((Keep.refl (fun j => j = g) W4).setCell (p := ⟨g, 1, none⟩) (.inr rfl) _) fun k hk1 e => by
                have h1 := (ho4.lt k hk1).1
                omega) (fun d hd => by
                rcases List.mem_append.1 hd with h1 | h1
                · rcases List.mem_append.1 h1 with h1 | h1
                  · exact HL2.out.ok d (List.mem_of_mem_take h1)
                  · simp at h1
                    subst h1
                    rw [hdN]
                    exact ⟨.inl rfl, Nat.le_refl _, (show 0 ≤ maxLen by decide), by simp, by simp, Nat.le_refl _, hnm40⟩
                · exact HL2.out.ok d (List.mem_of_mem_drop h1)) (by rw [List.length_append, List.length_append, List.length_take, List.length_drop, List.length_singleton]; have := HLT.out; omega) (by
                rw [List.append_assoc, List.singleton_append, HI.out, show nm = dN.nm by rw [hdN], ins_told (d := dN) HT.out HSO.out (by rw [hdN]; exact HNO.out)]
                rw [hdN]
                exact ins_sorted HSO.out HNO.out)
              have ht : ((L.take i ++ [dN]) ++ L.drop i).map D.m = insM ⟨nm, [], 0⟩ m.fs := by
                rw [List.append_assoc, List.singleton_append, HI.out]
                have h := ins_told (d := dN) HT.out HSO.out (by rw [hdN]; exact HNO.out)
                rw [show dN.nm = nm by rw [hdN]] at h
                rw [h, hdN]
                rfl
              rw [ht, List.append_assoc, List.singleton_append] at hfr
              rw [List.append_assoc, List.singleton_append] at hk ⊢
              exact ⟨_, _, hfr, hk⟩)
            have hdc : cellsL [dN] = [.string nm, .slice none 0 0, .int .i64 0] := by rw [hdN]; rfl
            obtain ⟨vP, WP1, hrP7, hoP1, hbP1, _⟩ := append_files (w := W2.drew) (base := W2.heap.size) (v := .slice none 0 0) (L := []) (M := L.take i) (c := c) (World.ownsRow_nil _ _ _ _) ((hlies.front (cellsL_take L i)).below ((Below.refl _ _).drew)) (k := i) (by rw [List.length_take]; omega) (by simp; omega) (Nat.le_refl _)
            rw [List.nil_append] at hoP1
            obtain ⟨AP, cP, rfl, _, _, _⟩ := own_parts hoP1
            have hBP1 : Below W2.heap.size W2 WP1 := (Below.refl W2.heap.size W2).drew.trans hbP1
            have hBP2 : Below W2.heap.size W2 (WP1.alloc (.cells #[.string nm, .slice none 0 0, .int .i64 0] Ty.file)) := hBP1.trans ((Joins.below_alloc1 WP1 (.cells #[.string nm, .slice none 0 0, .int .i64 0] Ty.file)).mono hBP1.size)
            have hlP : Lies (WP1.alloc (.cells #[.string nm, .slice none 0 0, .int .i64 0] Ty.file)) (WP1.heap.size + 1) (some ⟨WP1.heap.size, 0, none⟩) (cellsL [dN]) := by rw [hdc]; exact lies_block (cs := #[.string nm, .slice none 0 0, .int .i64 0]) (heap_alloc_new WP1 _) (Nat.lt_succ_self _)
            obtain ⟨vP3, WP3, hrP11, hoP3, hbP3, _⟩ := append_files (w := WP1.alloc (.cells #[.string nm, .slice none 0 0, .int .i64 0] Ty.file)) (base := W2.heap.size) (M := [dN]) (c := 1) (k := 1) (own_later hoP1 (Joins.below_alloc1 WP1 (.cells #[.string nm, .slice none 0 0, .int .i64 0] Ty.file))) hlP rfl (by rw [List.length_take]; simp; omega) hBP2.size
            obtain ⟨AP3, cP3, rfl, _, _, _⟩ := own_parts hoP3
            have hBP3 := hBP2.trans hbP3
            obtain ⟨vP4, WP4, hrP18, hoP4, hbP4, _⟩ := append_files (w := WP3) (base := W2.heap.size) (M := L.drop i) (c := c - i) (k := L.length - i) hoP3 ((lies_drop hlies hA2).below hBP3) (by rw [List.length_drop]) (by simp; omega) hBP3.size
            obtain ⟨AP4, cP4, rfl, _, _, _⟩ := own_parts hoP4
            have hBP4 := hBP3.trans hbP4
            have hBQ1 : Below W2.heap.size W2 (W2.alloc (.cells #[.string nm, .slice none 0 0, .int .i64 0] Ty.file)).drew := (Joins.below_alloc1 W2 (.cells #[.string nm, .slice none 0 0, .int .i64 0] Ty.file)).drew
            have hzQ : (W2.alloc (.cells #[.string nm, .slice none 0 0, .int .i64 0] Ty.file)).drew.heap.size = W2.heap.size + 1 := by show (W2.alloc (.cells #[.string nm, .slice none 0 0, .int .i64 0] Ty.file)).heap.size = _; simp
            have hlQ : Lies (W2.alloc (.cells #[.string nm, .slice none 0 0, .int .i64 0] Ty.file)).drew (W2.heap.size + 1) (some ⟨W2.heap.size, 0, none⟩) (cellsL [dN]) := by rw [hdc]; exact lies_block (cs := #[.string nm, .slice none 0 0, .int .i64 0]) (heap_alloc_new W2 _) (Nat.lt_succ_self _)
            obtain ⟨vQ, WQ2, hrQ7, hoQ2, hbQ2, _⟩ := append_files (w := (W2.alloc (.cells #[.string nm, .slice none 0 0, .int .i64 0] Ty.file)).drew) (base := W2.heap.size + 1) (v := .slice none 0 0) (L := []) (M := L.take i) (c := c) (World.ownsRow_nil _ _ _ _) ((hlies.front (cellsL_take L i)).below hBQ1) (k := i) (by rw [List.length_take]; omega) (by simp; omega) (Nat.le_of_eq hzQ.symm)
            rw [List.nil_append] at hoQ2
            obtain ⟨AQ, cQ, rfl, _, _, _⟩ := own_parts hoQ2
            have hBQ2 : Below W2.heap.size W2 WQ2 := hBQ1.trans (hbQ2.mono (Nat.le_succ _))
            obtain ⟨vQ3, WQ3, hrQ11, hoQ3, hbQ3, _⟩ := append_files (w := WQ2) (base := W2.heap.size) (M := [dN]) (c := 1) (k := 1) (Joins.ownsRow_le hoQ2 (Nat.le_succ _)) (hlQ.below hbQ2) rfl (by rw [List.length_take]; simp; omega) hBQ2.size
            obtain ⟨AQ3, cQ3, rfl, _, _, _⟩ := own_parts hoQ3
            have hBQ3 := hBQ2.trans hbQ3
            obtain ⟨vQ4, WQ4, hrQ18, hoQ4, hbQ4, _⟩ := append_files (w := WQ3) (base := W2.heap.size) (M := L.drop i) (c := c - i) (k := L.length - i) hoQ3 ((lies_drop hlies hA2).below hBQ3) (by rw [List.length_drop]) (by simp; omega) hBQ3.size
            obtain ⟨AQ4, cQ4, rfl, _, _, _⟩ := own_parts hoQ4
            have hBQ4 := hBQ3.trans hbQ4
            have FINP := Lib.hid (HNEW.out WP4 AP4 cP4 hBP4 hoP4)
            have FINQ := Lib.hid (HNEW.out WQ4 AQ4 cQ4 hBQ4 hoQ4)
            obtain ⟨n1, hn1⟩ : ∃ n1, n1 = (L.take i).length := ⟨_, rfl⟩
            obtain ⟨n2, hn2⟩ : ∃ n2, n2 = (L.take i ++ [dN]).length := ⟨_, rfl⟩
            obtain ⟨n3, hn3⟩ : ∃ n3, n3 = ((L.take i ++ [dN]) ++ L.drop i).length := ⟨_, rfl⟩
            rw [← hn3] at hrP18 hrQ18 FINP FINQ
            rw [← hn2] at hrP11 hrP18 hrQ11 hrQ18
            rw [← hn1] at hrP7 hrP11 hrQ7 hrQ11
            have HRP7 := Lib.hid hrP7
            have HRP11 := Lib.hid hrP11
            have HRP18 := Lib.hid hrP18
            have HRQ7 := Lib.hid hrQ7
            have HRQ11 := Lib.hid hrQ11
            have HRQ18 := Lib.hid hrQ18
            have HB0 : Hid (Below W2.heap.size W2 W2) := Lib.hid (Below.refl _ _)
            have HBP1 := Lib.hid hBP1
            have HBP2 := Lib.hid hBP2
            have HBP3 := Lib.hid hBP3
            have HBP4 := Lib.hid hBP4
            have HBQ1 := Lib.hid hBQ1
            have HBQ2 := Lib.hid hBQ2
            have HBQ3 := Lib.hid hBQ3
            have HBQ4 := Lib.hid hBQ4
            have BX := Lib.hid HL2.out.box
            have HG := Lib.hid (HL2.out.lt g HL2.out.sg)
            clear k3 hlies hA2 HNEW hdc hrP7 hoP1 hbP1 hBP1 hBP2 hlP hrP11 hoP3 hbP3 hBP3 hrP18 hoP4 hbP4 hBP4 hBQ1 hzQ hlQ hrQ7 hoQ2 hbQ2 hBQ2 hrQ11 hoQ3 hbQ3 hBQ3 hrQ18 hoQ4 hbQ4 hBQ4 hn1 hn2 hn3
            go_wp2_with (first | (go_at_call 30; refine HU.out.mono ?_; rintro e w' ⟨rfl, rfl⟩) | fail)
            go_cut [] from 64 (fun wx => ∃ (A3 : Option Addr) (c3 : Nat), Lay wx g (Gr S W2 wx) rm { (hit m).2 with fs := insM ⟨nm, [], 0⟩ m.fs } (L.take i ++ dN :: L.drop i) A3 F1 c3 cf1 ∧ Keep (· = g) W2 wx)
            case first =>
              refine wp_region_held_drew (S := fun w' => Hid (Keep (fun j => j = g) W2 w')) (by kernel_rfl) (Lib.hid (Keep.refl _ _).drew) (fun hS => ?_)
              refine wpAnyH_take (i := 0) (v := ?_) rfl (by kernel_rfl) (by kernel_rfl) (by kernel_rfl) (fun _ _ _ h => h) (Or.inl ⟨by rfl, ?_⟩) hS ?_
              rotate_left
              · intro w hw
                go_simp
                try with_reducible rfl
              try simp only [Act.put, List.getElem_toArray, List.getElem_cons_succ, List.getElem_cons_zero, List.setIfInBounds_toArray, List.set_cons_zero, List.set_cons_succ]
              refine wpAnyH_take (i := 1) (v := ?_) rfl (by kernel_rfl) (by kernel_rfl) (by kernel_rfl) (fun _ _ _ h => h) (Or.inl ⟨by rfl, ?_⟩) hS ?_
              rotate_left
              · intro w hw
                go_simp
                try with_reducible rfl
              try simp only [Act.put, List.getElem_toArray, List.getElem_cons_succ, List.getElem_cons_zero, List.setIfInBounds_toArray, List.set_cons_zero, List.set_cons_succ]
              refine wpAnyH_take (i := 2) (v := ?_) rfl (by kernel_rfl) (by kernel_rfl) (by kernel_rfl) (fun _ _ _ h => h) (Or.inl ⟨by rfl, ?_⟩) hS ?_
              rotate_left
              · intro w hw
                go_simp
                try with_reducible rfl
              try simp only [Act.put, List.getElem_toArray, List.getElem_cons_succ, List.getElem_cons_zero, List.setIfInBounds_toArray, List.set_cons_zero, List.set_cons_succ]
              refine wpAnyH_take (i := 3) (v := ?_) rfl (by kernel_rfl) (by kernel_rfl) (by kernel_rfl) (fun _ _ _ h => h) (Or.inl ⟨by rfl, ?_⟩) hS ?_
              rotate_left
              · intro w hw
                go_simp
                try with_reducible rfl
              try simp only [Act.put, List.getElem_toArray, List.getElem_cons_succ, List.getElem_cons_zero, List.setIfInBounds_toArray, List.set_cons_zero, List.set_cons_succ]
              refine wpAnyH_take (i := 5) (v := ?_) rfl (by kernel_rfl) (by kernel_rfl) (by kernel_rfl) (fun _ _ _ h => h) (Or.inl ⟨by rfl, ?_⟩) hS ?_
              rotate_left
              · intro w hw
                go_simp
                try with_reducible rfl
              try simp only [Act.put, List.getElem_toArray, List.getElem_cons_succ, List.getElem_cons_zero, List.setIfInBounds_toArray, List.set_cons_zero, List.set_cons_succ]
              refine wpAnyH_take (i := 8) (v := ?_) rfl (by kernel_rfl) (by kernel_rfl) (by kernel_rfl) (fun _ _ _ h => h) (Or.inl ⟨by rfl, ?_⟩) hS ?_
              rotate_left
              · intro w hw
                go_simp
                try with_reducible rfl
              try simp only [Act.put, List.getElem_toArray, List.getElem_cons_succ, List.getElem_cons_zero, List.setIfInBounds_toArray, List.set_cons_zero, List.set_cons_succ]
              refine wpAnyH_take (i := 9) (v := ?_) rfl (by kernel_rfl) (by kernel_rfl) (by kernel_rfl) (fun _ _ _ h => h) (Or.inl ⟨by rfl, ?_⟩) hS ?_
              rotate_left
              · intro w hw
                go_simp
                try with_reducible rfl
              try simp only [Act.put, List.getElem_toArray, List.getElem_cons_succ, List.getElem_cons_zero, List.setIfInBounds_toArray, List.set_cons_zero, List.set_cons_succ]
              refine wpAnyH_take (i := 12) (v := ?_) rfl (by kernel_rfl) (by kernel_rfl) (by kernel_rfl) (fun _ _ _ h => h) (Or.inl ⟨by rfl, ?_⟩) hS ?_
              rotate_left
              · intro w hw
                go_simp
                try with_reducible rfl
              try simp only [Act.put, List.getElem_toArray, List.getElem_cons_succ, List.getElem_cons_zero, List.setIfInBounds_toArray, List.set_cons_zero, List.set_cons_succ]
              refine wpAnyH_take (i := 13) (v := ?_) rfl (by kernel_rfl) (by kernel_rfl) (by kernel_rfl) (fun _ _ _ h => h) (Or.inl ⟨by rfl, ?_⟩) hS ?_
              rotate_left
              · intro w hw
                go_simp
                try with_reducible rfl
              try simp only [Act.put, List.getElem_toArray, List.getElem_cons_succ, List.getElem_cons_zero, List.setIfInBounds_toArray, List.set_cons_zero, List.set_cons_succ]
              refine wpAnyH_take (i := 14) (v := ?_) rfl (by kernel_rfl) (by kernel_rfl) (by kernel_rfl) (fun _ _ _ h => h) (Or.inl ⟨by rfl, ?_⟩) hS ?_
              rotate_left
              · intro w hw
                go_simp
                try with_reducible rfl
              try simp only [Act.put, List.getElem_toArray, List.getElem_cons_succ, List.getElem_cons_zero, List.setIfInBounds_toArray, List.set_cons_zero, List.set_cons_succ]
              refine wpAnyH_take (i := 16) (v := ?_) rfl (by kernel_rfl) (by kernel_rfl) (by kernel_rfl) (fun _ _ _ h => h) (Or.inl ⟨by rfl, ?_⟩) hS ?_
              rotate_left
              · intro w hw
                go_simp
                try with_reducible rfl
              try simp only [Act.put, List.getElem_toArray, List.getElem_cons_succ, List.getElem_cons_zero, List.setIfInBounds_toArray, List.set_cons_zero, List.set_cons_succ]
              refine wpAnyH_ready (rs := [4, 10, 15]) (by kernel_rfl) (by simp) ?_
              refine (AllReadyH.cons rfl (fun K hK => ?_) (AllReadyH.cons rfl (fun K hK => ?_) (AllReadyH.cons rfl (fun K hK => ?_) AllReadyH.nil)))
              · skip
                have p1 : W2.cell? ⟨g, 1, none⟩ = some (.slice A L.length c) := (BX.out.below HB0.out HG.out).cell 1
                go_simp
                refine hK.out _ _ hS (fun hS => ?_)
                clear hK K p1
                try simp only [Act.put, List.getElem_toArray, List.getElem_cons_succ, List.getElem_cons_zero, List.setIfInBounds_toArray, List.set_cons_zero, List.set_cons_succ]
                refine wpAnyH_take (i := 6) (v := ?_) rfl (by kernel_rfl) (by kernel_rfl) (by kernel_rfl) (fun _ _ _ h => h) (Or.inl ⟨by rfl, ?_⟩) hS ?_
                rotate_left
                · intro w hw
                  go_simp
                  try with_reducible rfl
                try simp only [Act.put, List.getElem_toArray, List.getElem_cons_succ, List.getElem_cons_zero, List.setIfInBounds_toArray, List.set_cons_zero, List.set_cons_succ]
                refine wpAnyH_ready (rs := [7, 10, 15]) (by kernel_rfl) (by simp) ?_
                refine (AllReadyH.cons rfl (fun K hK => ?_) (AllReadyH.cons rfl (fun K hK => ?_) (AllReadyH.cons rfl (fun K hK => ?_) AllReadyH.nil)))
                · skip
                  refine held_append rfl _ _ 45 rfl rfl rfl HRP7.out ?_
                  refine hK.out _ _ (Lib.hid (below_keep (S := fun j => j = g) HBP1.out)) (fun hS => ?_)
                  clear hK K
                  try simp only [Act.put, List.getElem_toArray, List.getElem_cons_succ, List.getElem_cons_zero, List.setIfInBounds_toArray, List.set_cons_zero, List.set_cons_succ]
                  refine wpAnyH_ready (rs := [10, 15]) (by kernel_rfl) (by simp) ?_
                  refine (AllReadyH.cons rfl (fun K hK => ?_) (AllReadyH.cons rfl (fun K hK => ?_) AllReadyH.nil))
                  · skip
                    go_simp
                    refine hK.out _ _ (Lib.hid (below_keep (S := fun j => j = g) HBP2.out)) (fun hS => ?_)
                    clear hK K
                    try simp only [Act.put, List.getElem_toArray, List.getElem_cons_succ, List.getElem_cons_zero, List.setIfInBounds_toArray, List.set_cons_zero, List.set_cons_succ]
                    refine wpAnyH_ready (rs := [11, 15]) (by kernel_rfl) (by simp) ?_
                    refine (AllReadyH.cons rfl (fun K hK => ?_) (AllReadyH.cons rfl (fun K hK => ?_) AllReadyH.nil))
                    · skip
                      refine held_append rfl _ _ 45 rfl rfl rfl HRP11.out ?_
                      refine hK.out _ _ (Lib.hid (below_keep (S := fun j => j = g) HBP3.out)) (fun hS => ?_)
                      clear hK K
                      try simp only [Act.put, List.getElem_toArray, List.getElem_cons_succ, List.getElem_cons_zero, List.setIfInBounds_toArray, List.set_cons_zero, List.set_cons_succ]
                      refine wpAnyH_ready (rs := [15]) (by kernel_rfl) (by simp) ?_
                      refine (AllReadyH.cons rfl (fun K hK => ?_) AllReadyH.nil)
                      have p1 : WP3.cell? ⟨g, 1, none⟩ = some (.slice A L.length c) := (BX.out.below HBP3.out HG.out).cell 1
                      go_simp
                      refine hK.out _ _ hS (fun hS => ?_)
                      clear hK K p1
                      try simp only [Act.put, List.getElem_toArray, List.getElem_cons_succ, List.getElem_cons_zero, List.setIfInBounds_toArray, List.set_cons_zero, List.set_cons_succ]
                      refine wpAnyH_take (i := 17) (v := ?_) rfl (by kernel_rfl) (by kernel_rfl) (by kernel_rfl) (fun _ _ _ h => h) (Or.inl ⟨by rfl, ?_⟩) hS ?_
                      rotate_left
                      · intro w hw
                        go_simp
                        try with_reducible rfl
                      try simp only [Act.put, List.getElem_toArray, List.getElem_cons_succ, List.getElem_cons_zero, List.setIfInBounds_toArray, List.set_cons_zero, List.set_cons_succ]
                      refine wpAnyH_ready (rs := [18]) (by kernel_rfl) (by simp) ?_
                      refine (AllReadyH.cons rfl (fun K hK => ?_) AllReadyH.nil)
                      refine held_append rfl _ _ 45 rfl rfl rfl HRP18.out ?_
                      refine hK.out _ _ (Lib.hid (below_keep (S := fun j => j = g) HBP4.out)) (fun hS => ?_)
                      clear hK K
                      try simp only [Act.put, List.getElem_toArray, List.getElem_cons_succ, List.getElem_cons_zero, List.setIfInBounds_toArray, List.set_cons_zero, List.set_cons_succ]
                      refine wpAnyH_take (i := 19) (v := ?_) rfl (by kernel_rfl) (by kernel_rfl) (by kernel_rfl) (fun _ _ _ h => h) (Or.inl ⟨by rfl, ?_⟩) hS ?_
                      rotate_left
                      · intro w hw
                        go_simp
                        try with_reducible rfl
                      try simp only [Act.put, List.getElem_toArray, List.getElem_cons_succ, List.getElem_cons_zero, List.setIfInBounds_toArray, List.set_cons_zero, List.set_cons_succ]
                      refine wpAnyH_take (i := 20) (v := ?_) rfl (by kernel_rfl) (by kernel_rfl) (by kernel_rfl) (fun _ _ _ h => h) (Or.inl ⟨by rfl, ?_⟩) hS ?_
                      rotate_left
                      · intro w hw
                        go_simp
                        try with_reducible rfl
                      try simp only [Act.put, List.getElem_toArray, List.getElem_cons_succ, List.getElem_cons_zero, List.setIfInBounds_toArray, List.set_cons_zero, List.set_cons_succ]
                      refine wpAnyH_ready (rs := [21]) (by kernel_rfl) (by simp) ?_
                      refine (AllReadyH.cons rfl (fun K hK => ?_) AllReadyH.nil)
                      have p1 := (BX.out.below HBP4.out HG.out).cell 1
                      have z1 := (BX.out.below HBP4.out HG.out).free 1
                      simp only [List.getElem?_cons_succ, List.getElem?_cons_zero] at p1
                      go_simp
                      refine hK.out _ _ (Lib.hid ((below_keep (S := fun j => j = g) HBP4.out).setCell (p := ⟨g, 1, none⟩) (.inr rfl) _)) (fun hS => ?_)
                      clear hK K p1 z1
                      try simp only [Act.put, List.getElem_toArray, List.getElem_cons_succ, List.getElem_cons_zero, List.setIfInBounds_toArray, List.set_cons_zero, List.set_cons_succ]
                      refine wpAnyH_done (by kernel_rfl) ?_ _
                      go_wp2_with fail
                      go_meet
                      exact FINP.out
                    · skip
                      have p1 : (WP1.alloc (.cells #[.string nm, .slice none 0 0, .int .i64 0] Ty.file)).cell? ⟨g, 1, none⟩ = some (.slice A L.length c) := (BX.out.below HBP2.out HG.out).cell 1
                      go_simp
                      refine hK.out _ _ hS (fun hS => ?_)
                      clear hK K p1
                      try simp only [Act.put, List.getElem_toArray, List.getElem_cons_succ, List.getElem_cons_zero, List.setIfInBounds_toArray, List.set_cons_zero, List.set_cons_succ]
                      refine wpAnyH_take (i := 17) (v := ?_) rfl (by kernel_rfl) (by kernel_rfl) (by kernel_rfl) (fun _ _ _ h => h) (Or.inl ⟨by rfl, ?_⟩) hS ?_
                      rotate_left
                      · intro w hw
                        go_simp
                        try with_reducible rfl
                      try simp only [Act.put, List.getElem_toArray, List.getElem_cons_succ, List.getElem_cons_zero, List.setIfInBounds_toArray, List.set_cons_zero, List.set_cons_succ]
                      refine wpAnyH_ready (rs := [11]) (by kernel_rfl) (by simp) ?_
                      refine (AllReadyH.cons rfl (fun K hK => ?_) AllReadyH.nil)
                      refine held_append rfl _ _ 45 rfl rfl rfl HRP11.out ?_
                      refine hK.out _ _ (Lib.hid (below_keep (S := fun j => j = g) HBP3.out)) (fun hS => ?_)
                      clear hK K
                      try simp only [Act.put, List.getElem_toArray, List.getElem_cons_succ, List.getElem_cons_zero, List.setIfInBounds_toArray, List.set_cons_zero, List.set_cons_succ]
                      refine wpAnyH_ready (rs := [18]) (by kernel_rfl) (by simp) ?_
                      refine (AllReadyH.cons rfl (fun K hK => ?_) AllReadyH.nil)
                      refine held_append rfl _ _ 45 rfl rfl rfl HRP18.out ?_
                      refine hK.out _ _ (Lib.hid (below_keep (S := fun j => j = g) HBP4.out)) (fun hS => ?_)
                      clear hK K
                      try simp only [Act.put, List.getElem_toArray, List.getElem_cons_succ, List.getElem_cons_zero, List.setIfInBounds_toArray, List.set_cons_zero, List.set_cons_succ]
                      refine wpAnyH_take (i := 19) (v := ?_) rfl (by kernel_rfl) (by kernel_rfl) (by kernel_rfl) (fun _ _ _ h => h) (Or.inl ⟨by rfl, ?_⟩) hS ?_
                      rotate_left
                      · intro w hw
                        go_simp
                        try with_reducible rfl
                      try simp only [Act.put, List.getElem_toArray, List.getElem_cons_succ, List.getElem_cons_zero, List.setIfInBounds_toArray, List.set_cons_zero, List.set_cons_succ]
                      refine wpAnyH_take (i := 20) (v := ?_) rfl (by kernel_rfl) (by kernel_rfl) (by kernel_rfl) (fun _ _ _ h => h) (Or.inl ⟨by rfl, ?_⟩) hS ?_
                      rotate_left
                      · intro w hw
                        go_simp
                        try with_reducible rfl
                      try simp only [Act.put, List.getElem_toArray, List.getElem_cons_succ, List.getElem_cons_zero, List.setIfInBounds_toArray, List.set_cons_zero, List.set_cons_succ]
                      refine wpAnyH_ready (rs := [21]) (by kernel_rfl) (by simp) ?_
                      refine (AllReadyH.cons rfl (fun K hK => ?_) AllReadyH.nil)
                      have p1 := (BX.out.below HBP4.out HG.out).cell 1
                      have z1 := (BX.out.below HBP4.out HG.out).free 1
                      simp only [List.getElem?_cons_succ, List.getElem?_cons_zero] at p1
                      go_simp
                      refine hK.out _ _ (Lib.hid ((below_keep (S := fun j => j = g) HBP4.out).setCell (p := ⟨g, 1, none⟩) (.inr rfl) _)) (fun hS => ?_)
                      clear hK K p1 z1
                      try simp only [Act.put, List.getElem_toArray, List.getElem_cons_succ, List.getElem_cons_zero, List.setIfInBounds_toArray, List.set_cons_zero, List.set_cons_succ]
                      refine wpAnyH_done (by kernel_rfl) ?_ _
                      go_wp2_with fail
                      go_meet
                      exact FINP.out
                  · skip
                    have p1 : WP1.cell? ⟨g, 1, none⟩ = some (.slice A L.length c) := (BX.out.below HBP1.out HG.out).cell 1
                    go_simp
                    refine hK.out _ _ hS (fun hS => ?_)
                    clear hK K p1
                    try simp only [Act.put, List.getElem_toArray, List.getElem_cons_succ, List.getElem_cons_zero, List.setIfInBounds_toArray, List.set_cons_zero, List.set_cons_succ]
                    refine wpAnyH_take (i := 17) (v := ?_) rfl (by kernel_rfl) (by kernel_rfl) (by kernel_rfl) (fun _ _ _ h => h) (Or.inl ⟨by rfl, ?_⟩) hS ?_
                    rotate_left
                    · intro w hw
                      go_simp
                      try with_reducible rfl
                    try simp only [Act.put, List.getElem_toArray, List.getElem_cons_succ, List.getElem_cons_zero, List.setIfInBounds_toArray, List.set_cons_zero, List.set_cons_succ]
                    refine wpAnyH_ready (rs := [10]) (by kernel_rfl) (by simp) ?_
                    refine (AllReadyH.cons rfl (fun K hK => ?_) AllReadyH.nil)
                    go_simp
                    refine hK.out _ _ (Lib.hid (below_keep (S := fun j => j = g) HBP2.out)) (fun hS => ?_)
                    clear hK K
                    try simp only [Act.put, List.getElem_toArray, List.getElem_cons_succ, List.getElem_cons_zero, List.setIfInBounds_toArray, List.set_cons_zero, List.set_cons_succ]
                    refine wpAnyH_ready (rs := [11]) (by kernel_rfl) (by simp) ?_
                    refine (AllReadyH.cons rfl (fun K hK => ?_) AllReadyH.nil)
                    refine held_append rfl _ _ 45 rfl rfl rfl HRP11.out ?_
                    refine hK.out _ _ (Lib.hid (below_keep (S := fun j => j = g) HBP3.out)) (fun hS => ?_)
                    clear hK K
                    try simp only [Act.put, List.getElem_toArray, List.getElem_cons_succ, List.getElem_cons_zero, List.setIfInBounds_toArray, List.set_cons_zero, List.set_cons_succ]
                    refine wpAnyH_ready (rs := [18]) (by kernel_rfl) (by simp) ?_
                    refine (AllReadyH.cons rfl (fun K hK => ?_) AllReadyH.nil)
                    refine held_append rfl _ _ 45 rfl rfl rfl HRP18.out ?_
                    refine hK.out _ _ (Lib.hid (below_keep (S := fun j => j = g) HBP4.out)) (fun hS => ?_)
                    clear hK K
                    try simp only [Act.put, List.getElem_toArray, List.getElem_cons_succ, List.getElem_cons_zero, List.setIfInBounds_toArray, List.set_cons_zero, List.set_cons_succ]
                    refine wpAnyH_take (i := 19) (v := ?_) rfl (by kernel_rfl) (by kernel_rfl) (by kernel_rfl) (fun _ _ _ h => h) (Or.inl ⟨by rfl, ?_⟩) hS ?_
                    rotate_left
                    · intro w hw
                      go_simp
                      try with_reducible rfl
                    try simp only [Act.put, List.getElem_toArray, List.getElem_cons_succ, List.getElem_cons_zero, List.setIfInBounds_toArray, List.set_cons_zero, List.set_cons_succ]
                    refine wpAnyH_take (i := 20) (v := ?_) rfl (by kernel_rfl) (by kernel_rfl) (by kernel_rfl) (fun _ _ _ h => h) (Or.inl ⟨by rfl, ?_⟩) hS ?_
                    rotate_left
                    · intro w hw
                      go_simp
                      try with_reducible rfl
                    try simp only [Act.put, List.getElem_toArray, List.getElem_cons_succ, List.getElem_cons_zero, List.setIfInBounds_toArray, List.set_cons_zero, List.set_cons_succ]
                    refine wpAnyH_ready (rs := [21]) (by kernel_rfl) (by simp) ?_
                    refine (AllReadyH.cons rfl (fun K hK => ?_) AllReadyH.nil)
                    have p1 := (BX.out.below HBP4.out HG.out).cell 1
                    have z1 := (BX.out.below HBP4.out HG.out).free 1
                    simp only [List.getElem?_cons_succ, List.getElem?_cons_zero] at p1
                    go_simp
                    refine hK.out _ _ (Lib.hid ((below_keep (S := fun j => j = g) HBP4.out).setCell (p := ⟨g, 1, none⟩) (.inr rfl) _)) (fun hS => ?_)
                    clear hK K p1 z1
                    try simp only [Act.put, List.getElem_toArray, List.getElem_cons_succ, List.getElem_cons_zero, List.setIfInBounds_toArray, List.set_cons_zero, List.set_cons_succ]
                    refine wpAnyH_done (by kernel_rfl) ?_ _
                    go_wp2_with fail
                    go_meet
                    exact FINP.out
                · skip
                  go_simp
                  refine hK.out _ _ (Lib.hid (below_keep (S := fun j => j = g) HBQ1.out)) (fun hS => ?_)
                  clear hK K
                  try simp only [Act.put, List.getElem_toArray, List.getElem_cons_succ, List.getElem_cons_zero, List.setIfInBounds_toArray, List.set_cons_zero, List.set_cons_succ]
                  refine wpAnyH_ready (rs := [7, 15]) (by kernel_rfl) (by simp) ?_
                  refine (AllReadyH.cons rfl (fun K hK => ?_) (AllReadyH.cons rfl (fun K hK => ?_) AllReadyH.nil))
                  · skip
                    refine held_append rfl _ _ 45 rfl rfl rfl HRQ7.out ?_
                    refine hK.out _ _ (Lib.hid (below_keep (S := fun j => j = g) HBQ2.out)) (fun hS => ?_)
                    clear hK K
                    try simp only [Act.put, List.getElem_toArray, List.getElem_cons_succ, List.getElem_cons_zero, List.setIfInBounds_toArray, List.set_cons_zero, List.set_cons_succ]
                    refine wpAnyH_ready (rs := [11, 15]) (by kernel_rfl) (by simp) ?_
                    refine (AllReadyH.cons rfl (fun K hK => ?_) (AllReadyH.cons rfl (fun K hK => ?_) AllReadyH.nil))
                    · skip
                      refine held_append rfl _ _ 45 rfl rfl rfl HRQ11.out ?_
                      refine hK.out _ _ (Lib.hid (below_keep (S := fun j => j = g) HBQ3.out)) (fun hS => ?_)
                      clear hK K
                      try simp only [Act.put, List.getElem_toArray, List.getElem_cons_succ, List.getElem_cons_zero, List.setIfInBounds_toArray, List.set_cons_zero, List.set_cons_succ]
                      refine wpAnyH_ready (rs := [15]) (by kernel_rfl) (by simp) ?_
                      refine (AllReadyH.cons rfl (fun K hK => ?_) AllReadyH.nil)
                      have p1 : WQ3.cell? ⟨g, 1, none⟩ = some (.slice A L.length c) := (BX.out.below HBQ3.out HG.out).cell 1
                      go_simp
                      refine hK.out _ _ hS (fun hS => ?_)
                      clear hK K p1
                      try simp only [Act.put, List.getElem_toArray, List.getElem_cons_succ, List.getElem_cons_zero, List.setIfInBounds_toArray, List.set_cons_zero, List.set_cons_succ]
                      refine wpAnyH_take (i := 17) (v := ?_) rfl (by kernel_rfl) (by kernel_rfl) (by kernel_rfl) (fun _ _ _ h => h) (Or.inl ⟨by rfl, ?_⟩) hS ?_
                      rotate_left
                      · intro w hw
                        go_simp
                        try with_reducible rfl
                      try simp only [Act.put, List.getElem_toArray, List.getElem_cons_succ, List.getElem_cons_zero, List.setIfInBounds_toArray, List.set_cons_zero, List.set_cons_succ]
                      refine wpAnyH_ready (rs := [18]) (by kernel_rfl) (by simp) ?_
                      refine (AllReadyH.cons rfl (fun K hK => ?_) AllReadyH.nil)
                      refine held_append rfl _ _ 45 rfl rfl rfl HRQ18.out ?_
                      refine hK.out _ _ (Lib.hid (below_keep (S := fun j => j = g) HBQ4.out)) (fun hS => ?_)
                      clear hK K
                      try simp only [Act.put, List.getElem_toArray, List.getElem_cons_succ, List.getElem_cons_zero, List.setIfInBounds_toArray, List.set_cons_zero, List.set_cons_succ]
                      refine wpAnyH_take (i := 19) (v := ?_) rfl (by kernel_rfl) (by kernel_rfl) (by kernel_rfl) (fun _ _ _ h => h) (Or.inl ⟨by rfl, ?_⟩) hS ?_
                      rotate_left
                      · intro w hw
                        go_simp
                        try with_reducible rfl
                      try simp only [Act.put, List.getElem_toArray, List.getElem_cons_succ, List.getElem_cons_zero, List.setIfInBounds_toArray, List.set_cons_zero, List.set_cons_succ]
                      refine wpAnyH_take (i := 20) (v := ?_) rfl (by kernel_rfl) (by kernel_rfl) (by kernel_rfl) (fun _ _ _ h => h) (Or.inl ⟨by rfl, ?_⟩) hS ?_
                      rotate_left
                      · intro w hw
                        go_simp
                        try with_reducible rfl
                      try simp only [Act.put, List.getElem_toArray, List.getElem_cons_succ, List.getElem_cons_zero, List.setIfInBounds_toArray, List.set_cons_zero, List.set_cons_succ]
                      refine wpAnyH_ready (rs := [21]) (by kernel_rfl) (by simp) ?_
                      refine (AllReadyH.cons rfl (fun K hK => ?_) AllReadyH.nil)
                      have p1 := (BX.out.below HBQ4.out HG.out).cell 1
                      have z1 := (BX.out.below HBQ4.out HG.out).free 1
                      simp only [List.getElem?_cons_succ, List.getElem?_cons_zero] at p1
                      go_simp
                      refine hK.out _ _ (Lib.hid ((below_keep (S := fun j => j = g) HBQ4.out).setCell (p := ⟨g, 1, none⟩) (.inr rfl) _)) (fun hS => ?_)
                      clear hK K p1 z1
                      try simp only [Act.put, List.getElem_toArray, List.getElem_cons_succ, List.getElem_cons_zero, List.setIfInBounds_toArray, List.set_cons_zero, List.set_cons_succ]
                      refine wpAnyH_done (by kernel_rfl) ?_ _
                      go_wp2_with fail
                      go_meet
                      exact FINQ.out
                    · skip
                      have p1 : WQ2.cell? ⟨g, 1, none⟩ = some (.slice A L.length c) := (BX.out.below HBQ2.out HG.out).cell 1
                      go_simp
                      refine hK.out _ _ hS (fun hS => ?_)
                      clear hK K p1
                      try simp only [Act.put, List.getElem_toArray, List.getElem_cons_succ, List.getElem_cons_zero, List.setIfInBounds_toArray, List.set_cons_zero, List.set_cons_succ]
                      refine wpAnyH_take (i := 17) (v := ?_) rfl (by kernel_rfl) (by kernel_rfl) (by kernel_rfl) (fun _ _ _ h => h) (Or.inl ⟨by rfl, ?_⟩) hS ?_
                      rotate_left
                      · intro w hw
                        go_simp
                        try with_reducible rfl
                      try simp only [Act.put, List.getElem_toArray, List.getElem_cons_succ, List.getElem_cons_zero, List.setIfInBounds_toArray, List.set_cons_zero, List.set_cons_succ]
                      refine wpAnyH_ready (rs := [11]) (by kernel_rfl) (by simp) ?_
                      refine (AllReadyH.cons rfl (fun K hK => ?_) AllReadyH.nil)
                      refine held_append rfl _ _ 45 rfl rfl rfl HRQ11.out ?_
                      refine hK.out _ _ (Lib.hid (below_keep (S := fun j => j = g) HBQ3.out)) (fun hS => ?_)
                      clear hK K
                      try simp only [Act.put, List.getElem_toArray, List.getElem_cons_succ, List.getElem_cons_zero, List.setIfInBounds_toArray, List.set_cons_zero, List.set_cons_succ]
                      refine wpAnyH_ready (rs := [18]) (by kernel_rfl) (by simp) ?_
                      refine (AllReadyH.cons rfl (fun K hK => ?_) AllReadyH.nil)
                      refine held_append rfl _ _ 45 rfl rfl rfl HRQ18.out ?_
                      refine hK.out _ _ (Lib.hid (below_keep (S := fun j => j = g) HBQ4.out)) (fun hS => ?_)
                      clear hK K
                      try simp only [Act.put, List.getElem_toArray, List.getElem_cons_succ, List.getElem_cons_zero, List.setIfInBounds_toArray, List.set_cons_zero, List.set_cons_succ]
                      refine wpAnyH_take (i := 19) (v := ?_) rfl (by kernel_rfl) (by kernel_rfl) (by kernel_rfl) (fun _ _ _ h => h) (Or.inl ⟨by rfl, ?_⟩) hS ?_
                      rotate_left
                      · intro w hw
                        go_simp
                        try with_reducible rfl
                      try simp only [Act.put, List.getElem_toArray, List.getElem_cons_succ, List.getElem_cons_zero, List.setIfInBounds_toArray, List.set_cons_zero, List.set_cons_succ]
                      refine wpAnyH_take (i := 20) (v := ?_) rfl (by kernel_rfl) (by kernel_rfl) (by kernel_rfl) (fun _ _ _ h => h) (Or.inl ⟨by rfl, ?_⟩) hS ?_
                      rotate_left
                      · intro w hw
                        go_simp
                        try with_reducible rfl
                      try simp only [Act.put, List.getElem_toArray, List.getElem_cons_succ, List.getElem_cons_zero, List.setIfInBounds_toArray, List.set_cons_zero, List.set_cons_succ]
                      refine wpAnyH_ready (rs := [21]) (by kernel_rfl) (by simp) ?_
                      refine (AllReadyH.cons rfl (fun K hK => ?_) AllReadyH.nil)
                      have p1 := (BX.out.below HBQ4.out HG.out).cell 1
                      have z1 := (BX.out.below HBQ4.out HG.out).free 1
                      simp only [List.getElem?_cons_succ, List.getElem?_cons_zero] at p1
                      go_simp
                      refine hK.out _ _ (Lib.hid ((below_keep (S := fun j => j = g) HBQ4.out).setCell (p := ⟨g, 1, none⟩) (.inr rfl) _)) (fun hS => ?_)
                      clear hK K p1 z1
                      try simp only [Act.put, List.getElem_toArray, List.getElem_cons_succ, List.getElem_cons_zero, List.setIfInBounds_toArray, List.set_cons_zero, List.set_cons_succ]
                      refine wpAnyH_done (by kernel_rfl) ?_ _
                      go_wp2_with fail
                      go_meet
                      exact FINQ.out
                  · skip
                    have p1 : (W2.alloc (.cells #[.string nm, .slice none 0 0, .int .i64 0] Ty.file)).drew.cell? ⟨g, 1, none⟩ = some (.slice A L.length c) := (BX.out.below HBQ1.out HG.out).cell 1
                    go_simp
                    refine hK.out _ _ hS (fun hS => ?_)
                    clear hK K p1
                    try simp only [Act.put, List.getElem_toArray, List.getElem_cons_succ, List.getElem_cons_zero, List.setIfInBounds_toArray, List.set_cons_zero, List.set_cons_succ]
                    refine wpAnyH_take (i := 17) (v := ?_) rfl (by kernel_rfl) (by kernel_rfl) (by kernel_rfl) (fun _ _ _ h => h) (Or.inl ⟨by rfl, ?_⟩) hS ?_
                    rotate_left
                    · intro w hw
                      go_simp
                      try with_reducible rfl
                    try simp only [Act.put, List.getElem_toArray, List.getElem_cons_succ, List.getElem_cons_zero, List.setIfInBounds_toArray, List.set_cons_zero, List.set_cons_succ]
                    refine wpAnyH_ready (rs := [7]) (by kernel_rfl) (by simp) ?_
                    refine (AllReadyH.cons rfl (fun K hK => ?_) AllReadyH.nil)
                    refine held_append rfl _ _ 45 rfl rfl rfl HRQ7.out ?_
                    refine hK.out _ _ (Lib.hid (below_keep (S := fun j => j = g) HBQ2.out)) (fun hS => ?_)
                    clear hK K
                    try simp only [Act.put, List.getElem_toArray, List.getElem_cons_succ, List.getElem_cons_zero, List.setIfInBounds_toArray, List.set_cons_zero, List.set_cons_succ]
                    refine wpAnyH_ready (rs := [11]) (by kernel_rfl) (by simp) ?_
                    refine (AllReadyH.cons rfl (fun K hK => ?_) AllReadyH.nil)
                    refine held_append rfl _ _ 45 rfl rfl rfl HRQ11.out ?_
                    refine hK.out _ _ (Lib.hid (below_keep (S := fun j => j = g) HBQ3.out)) (fun hS => ?_)
                    clear hK K
                    try simp only [Act.put, List.getElem_toArray, List.getElem_cons_succ, List.getElem_cons_zero, List.setIfInBounds_toArray, List.set_cons_zero, List.set_cons_succ]
                    refine wpAnyH_ready (rs := [18]) (by kernel_rfl) (by simp) ?_
                    refine (AllReadyH.cons rfl (fun K hK => ?_) AllReadyH.nil)
                    refine held_append rfl _ _ 45 rfl rfl rfl HRQ18.out ?_
                    refine hK.out _ _ (Lib.hid (below_keep (S := fun j => j = g) HBQ4.out)) (fun hS => ?_)
                    clear hK K
                    try simp only [Act.put, List.getElem_toArray, List.getElem_cons_succ, List.getElem_cons_zero, List.setIfInBounds_toArray, List.set_cons_zero, List.set_cons_succ]
                    refine wpAnyH_take (i := 19) (v := ?_) rfl (by kernel_rfl) (by kernel_rfl) (by kernel_rfl) (fun _ _ _ h => h) (Or.inl ⟨by rfl, ?_⟩) hS ?_
                    rotate_left
                    · intro w hw
                      go_simp
                      try with_reducible rfl
                    try simp only [Act.put, List.getElem_toArray, List.getElem_cons_succ, List.getElem_cons_zero, List.setIfInBounds_toArray, List.set_cons_zero, List.set_cons_succ]
                    refine wpAnyH_take (i := 20) (v := ?_) rfl (by kernel_rfl) (by kernel_rfl) (by kernel_rfl) (fun _ _ _ h => h) (Or.inl ⟨by rfl, ?_⟩) hS ?_
                    rotate_left
                    · intro w hw
                      go_simp
                      try with_reducible rfl
                    try simp only [Act.put, List.getElem_toArray, List.getElem_cons_succ, List.getElem_cons_zero, List.setIfInBounds_toArray, List.set_cons_zero, List.set_cons_succ]
                    refine wpAnyH_ready (rs := [21]) (by kernel_rfl) (by simp) ?_
                    refine (AllReadyH.cons rfl (fun K hK => ?_) AllReadyH.nil)
                    have p1 := (BX.out.below HBQ4.out HG.out).cell 1
                    have z1 := (BX.out.below HBQ4.out HG.out).free 1
                    simp only [List.getElem?_cons_succ, List.getElem?_cons_zero] at p1
                    go_simp
                    refine hK.out _ _ (Lib.hid ((below_keep (S := fun j => j = g) HBQ4.out).setCell (p := ⟨g, 1, none⟩) (.inr rfl) _)) (fun hS => ?_)
                    clear hK K p1 z1
                    try simp only [Act.put, List.getElem_toArray, List.getElem_cons_succ, List.getElem_cons_zero, List.setIfInBounds_toArray, List.set_cons_zero, List.set_cons_succ]
                    refine wpAnyH_done (by kernel_rfl) ?_ _
                    go_wp2_with fail
                    go_meet
                    exact FINQ.out
                · skip
                  have p1 : W2.cell? ⟨g, 1, none⟩ = some (.slice A L.length c) := (BX.out.below HB0.out HG.out).cell 1
                  go_simp
                  refine hK.out _ _ hS (fun hS => ?_)
                  clear hK K p1
                  try simp only [Act.put, List.getElem_toArray, List.getElem_cons_succ, List.getElem_cons_zero, List.setIfInBounds_toArray, List.set_cons_zero, List.set_cons_succ]
                  refine wpAnyH_take (i := 17) (v := ?_) rfl (by kernel_rfl) (by kernel_rfl) (by kernel_rfl) (fun _ _ _ h => h) (Or.inl ⟨by rfl, ?_⟩) hS ?_
                  rotate_left
                  · intro w hw
                    go_simp
                    try with_reducible rfl
                  try simp only [Act.put, List.getElem_toArray, List.getElem_cons_succ, List.getElem_cons_zero, List.setIfInBounds_toArray, List.set_cons_zero, List.set_cons_succ]
                  refine wpAnyH_ready (rs := [7, 10]) (by kernel_rfl) (by simp) ?_
                  refine (AllReadyH.cons rfl (fun K hK => ?_) (AllReadyH.cons rfl (fun K hK => ?_) AllReadyH.nil))
                  · skip
                    refine held_append rfl _ _ 45 rfl rfl rfl HRP7.out ?_
                    refine hK.out _ _ (Lib.hid (below_keep (S := fun j => j = g) HBP1.out)) (fun hS => ?_)
                    clear hK K
                    try simp only [Act.put, List.getElem_toArray, List.getElem_cons_succ, List.getElem_cons_zero, List.setIfInBounds_toArray, List.set_cons_zero, List.set_cons_succ]
                    refine wpAnyH_ready (rs := [10]) (by kernel_rfl) (by simp) ?_
                    refine (AllReadyH.cons rfl (fun K hK => ?_) AllReadyH.nil)
                    go_simp
                    refine hK.out _ _ (Lib.hid (below_keep (S := fun j => j = g) HBP2.out)) (fun hS => ?_)
                    clear hK K
                    try simp only [Act.put, List.getElem_toArray, List.getElem_cons_succ, List.getElem_cons_zero, List.setIfInBounds_toArray, List.set_cons_zero, List.set_cons_succ]
                    refine wpAnyH_ready (rs := [11]) (by kernel_rfl) (by simp) ?_
                    refine (AllReadyH.cons rfl (fun K hK => ?_) AllReadyH.nil)
                    refine held_append rfl _ _ 45 rfl rfl rfl HRP11.out ?_
                    refine hK.out _ _ (Lib.hid (below_keep (S := fun j => j = g) HBP3.out)) (fun hS => ?_)
                    clear hK K
                    try simp only [Act.put, List.getElem_toArray, List.getElem_cons_succ, List.getElem_cons_zero, List.setIfInBounds_toArray, List.set_cons_zero, List.set_cons_succ]
                    refine wpAnyH_ready (rs := [18]) (by kernel_rfl) (by simp) ?_
                    refine (AllReadyH.cons rfl (fun K hK => ?_) AllReadyH.nil)
                    refine held_append rfl _ _ 45 rfl rfl rfl HRP18.out ?_
                    refine hK.out _ _ (Lib.hid (below_keep (S := fun j => j = g) HBP4.out)) (fun hS => ?_)
                    clear hK K
                    try simp only [Act.put, List.getElem_toArray, List.getElem_cons_succ, List.getElem_cons_zero, List.setIfInBounds_toArray, List.set_cons_zero, List.set_cons_succ]
                    refine wpAnyH_take (i := 19) (v := ?_) rfl (by kernel_rfl) (by kernel_rfl) (by kernel_rfl) (fun _ _ _ h => h) (Or.inl ⟨by rfl, ?_⟩) hS ?_
                    rotate_left
                    · intro w hw
                      go_simp
                      try with_reducible rfl
                    try simp only [Act.put, List.getElem_toArray, List.getElem_cons_succ, List.getElem_cons_zero, List.setIfInBounds_toArray, List.set_cons_zero, List.set_cons_succ]
                    refine wpAnyH_take (i := 20) (v := ?_) rfl (by kernel_rfl) (by kernel_rfl) (by kernel_rfl) (fun _ _ _ h => h) (Or.inl ⟨by rfl, ?_⟩) hS ?_
                    rotate_left
                    · intro w hw
                      go_simp
                      try with_reducible rfl
                    try simp only [Act.put, List.getElem_toArray, List.getElem_cons_succ, List.getElem_cons_zero, List.setIfInBounds_toArray, List.set_cons_zero, List.set_cons_succ]
                    refine wpAnyH_ready (rs := [21]) (by kernel_rfl) (by simp) ?_
                    refine (AllReadyH.cons rfl (fun K hK => ?_) AllReadyH.nil)
                    have p1 := (BX.out.below HBP4.out HG.out).cell 1
                    have z1 := (BX.out.below HBP4.out HG.out).free 1
                    simp only [List.getElem?_cons_succ, List.getElem?_cons_zero] at p1
                    go_simp
                    refine hK.out _ _ (Lib.hid ((below_keep (S := fun j => j = g) HBP4.out).setCell (p := ⟨g, 1, none⟩) (.inr rfl) _)) (fun hS => ?_)
                    clear hK K p1 z1
                    try simp only [Act.put, List.getElem_toArray, List.getElem_cons_succ, List.getElem_cons_zero, List.setIfInBounds_toArray, List.set_cons_zero, List.set_cons_succ]
                    refine wpAnyH_done (by kernel_rfl) ?_ _
                    go_wp2_with fail
                    go_meet
                    exact FINP.out
                  · skip
                    go_simp
                    refine hK.out _ _ (Lib.hid (below_keep (S := fun j => j = g) HBQ1.out)) (fun hS => ?_)
                    clear hK K
                    try simp only [Act.put, List.getElem_toArray, List.getElem_cons_succ, List.getElem_cons_zero, List.setIfInBounds_toArray, List.set_cons_zero, List.set_cons_succ]
                    refine wpAnyH_ready (rs := [7]) (by kernel_rfl) (by simp) ?_
                    refine (AllReadyH.cons rfl (fun K hK => ?_) AllReadyH.nil)
                    refine held_append rfl _ _ 45 rfl rfl rfl HRQ7.out ?_
                    refine hK.out _ _ (Lib.hid (below_keep (S := fun j => j = g) HBQ2.out)) (fun hS => ?_)
                    clear hK K
                    try simp only [Act.put, List.getElem_toArray, List.getElem_cons_succ, List.getElem_cons_zero, List.setIfInBounds_toArray, List.set_cons_zero, List.set_cons_succ]
                    refine wpAnyH_ready (rs := [11]) (by kernel_rfl) (by simp) ?_
                    refine (AllReadyH.cons rfl (fun K hK => ?_) AllReadyH.nil)
                    refine held_append rfl _ _ 45 rfl rfl rfl HRQ11.out ?_
                    refine hK.out _ _ (Lib.hid (below_keep (S := fun j => j = g) HBQ3.out)) (fun hS => ?_)
                    clear hK K
                    try simp only [Act.put, List.getElem_toArray, List.getElem_cons_succ, List.getElem_cons_zero, List.setIfInBounds_toArray, List.set_cons_zero, List.set_cons_succ]
                    refine wpAnyH_ready (rs := [18]) (by kernel_rfl) (by simp) ?_
                    refine (AllReadyH.cons rfl (fun K hK => ?_) AllReadyH.nil)
                    refine held_append rfl _ _ 45 rfl rfl rfl HRQ18.out ?_
                    refine hK.out _ _ (Lib.hid (below_keep (S := fun j => j = g) HBQ4.out)) (fun hS => ?_)
                    clear hK K
                    try simp only [Act.put, List.getElem_toArray, List.getElem_cons_succ, List.getElem_cons_zero, List.setIfInBounds_toArray, List.set_cons_zero, List.set_cons_succ]
                    refine wpAnyH_take (i := 19) (v := ?_) rfl (by kernel_rfl) (by kernel_rfl) (by kernel_rfl) (fun _ _ _ h => h) (Or.inl ⟨by rfl, ?_⟩) hS ?_
                    rotate_left
                    · intro w hw
                      go_simp
                      try with_reducible rfl
                    try simp only [Act.put, List.getElem_toArray, List.getElem_cons_succ, List.getElem_cons_zero, List.setIfInBounds_toArray, List.set_cons_zero, List.set_cons_succ]
                    refine wpAnyH_take (i := 20) (v := ?_) rfl (by kernel_rfl) (by kernel_rfl) (by kernel_rfl) (fun _ _ _ h => h) (Or.inl ⟨by rfl, ?_⟩) hS ?_
                    rotate_left
                    · intro w hw
                      go_simp
                      try with_reducible rfl
                    try simp only [Act.put, List.getElem_toArray, List.getElem_cons_succ, List.getElem_cons_zero, List.setIfInBounds_toArray, List.set_cons_zero, List.set_cons_succ]
                    refine wpAnyH_ready (rs := [21]) (by kernel_rfl) (by simp) ?_
                    refine (AllReadyH.cons rfl (fun K hK => ?_) AllReadyH.nil)
                    have p1 := (BX.out.below HBQ4.out HG.out).cell 1
                    have z1 := (BX.out.below HBQ4.out HG.out).free 1
                    simp only [List.getElem?_cons_succ, List.getElem?_cons_zero] at p1
                    go_simp
                    refine hK.out _ _ (Lib.hid ((below_keep (S := fun j => j = g) HBQ4.out).setCell (p := ⟨g, 1, none⟩) (.inr rfl) _)) (fun hS => ?_)
                    clear hK K p1 z1
                    try simp only [Act.put, List.getElem_toArray, List.getElem_cons_succ, List.getElem_cons_zero, List.setIfInBounds_toArray, List.set_cons_zero, List.set_cons_succ]
                    refine wpAnyH_done (by kernel_rfl) ?_ _
                    go_wp2_with fail
                    go_meet
                    exact FINQ.out
              · skip
                go_simp
                refine hK.out _ _ (Lib.hid (below_keep (S := fun j => j = g) HBQ1.out)) (fun hS => ?_)
                clear hK K
                try simp only [Act.put, List.getElem_toArray, List.getElem_cons_succ, List.getElem_cons_zero, List.setIfInBounds_toArray, List.set_cons_zero, List.set_cons_succ]
                refine wpAnyH_ready (rs := [4, 15]) (by kernel_rfl) (by simp) ?_
                refine (AllReadyH.cons rfl (fun K hK => ?_) (AllReadyH.cons rfl (fun K hK => ?_) AllReadyH.nil))
                · skip
                  have p1 : (W2.alloc (.cells #[.string nm, .slice none 0 0, .int .i64 0] Ty.file)).drew.cell? ⟨g, 1, none⟩ = some (.slice A L.length c) := (BX.out.below HBQ1.out HG.out).cell 1
                  go_simp
                  refine hK.out _ _ hS (fun hS => ?_)
                  clear hK K p1
                  try simp only [Act.put, List.getElem_toArray, List.getElem_cons_succ, List.getElem_cons_zero, List.setIfInBounds_toArray, List.set_cons_zero, List.set_cons_succ]
                  refine wpAnyH_take (i := 6) (v := ?_) rfl (by kernel_rfl) (by kernel_rfl) (by kernel_rfl) (fun _ _ _ h => h) (Or.inl ⟨by rfl, ?_⟩) hS ?_
                  rotate_left
                  · intro w hw
                    go_simp
                    try with_reducible rfl
                  try simp only [Act.put, List.getElem_toArray, List.getElem_cons_succ, List.getElem_cons_zero, List.setIfInBounds_toArray, List.set_cons_zero, List.set_cons_succ]
                  refine wpAnyH_ready (rs := [7, 15]) (by kernel_rfl) (by simp) ?_
                  refine (AllReadyH.cons rfl (fun K hK => ?_) (AllReadyH.cons rfl (fun K hK => ?_) AllReadyH.nil))
                  · skip
                    refine held_append rfl _ _ 45 rfl rfl rfl HRQ7.out ?_
                    refine hK.out _ _ (Lib.hid (below_keep (S := fun j => j = g) HBQ2.out)) (fun hS => ?_)
                    clear hK K
                    try simp only [Act.put, List.getElem_toArray, List.getElem_cons_succ, List.getElem_cons_zero, List.setIfInBounds_toArray, List.set_cons_zero, List.set_cons_succ]
                    refine wpAnyH_ready (rs := [11, 15]) (by kernel_rfl) (by simp) ?_
                    refine (AllReadyH.cons rfl (fun K hK => ?_) (AllReadyH.cons rfl (fun K hK => ?_) AllReadyH.nil))
                    · skip
                      refine held_append rfl _ _ 45 rfl rfl rfl HRQ11.out ?_
                      refine hK.out _ _ (Lib.hid (below_keep (S := fun j => j = g) HBQ3.out)) (fun hS => ?_)
                      clear hK K
                      try simp only [Act.put, List.getElem_toArray, List.getElem_cons_succ, List.getElem_cons_zero, List.setIfInBounds_toArray, List.set_cons_zero, List.set_cons_succ]
                      refine wpAnyH_ready (rs := [15]) (by kernel_rfl) (by simp) ?_
                      refine (AllReadyH.cons rfl (fun K hK => ?_) AllReadyH.nil)
                      have p1 : WQ3.cell? ⟨g, 1, none⟩ = some (.slice A L.length c) := (BX.out.below HBQ3.out HG.out).cell 1
                      go_simp
                      refine hK.out _ _ hS (fun hS => ?_)
                      clear hK K p1
                      try simp only [Act.put, List.getElem_toArray, List.getElem_cons_succ, List.getElem_cons_zero, List.setIfInBounds_toArray, List.set_cons_zero, List.set_cons_succ]
                      refine wpAnyH_take (i := 17) (v := ?_) rfl (by kernel_rfl) (by kernel_rfl) (by kernel_rfl) (fun _ _ _ h => h) (Or.inl ⟨by rfl, ?_⟩) hS ?_
                      rotate_left
                      · intro w hw
                        go_simp
                        try with_reducible rfl
                      try simp only [Act.put, List.getElem_toArray, List.getElem_cons_succ, List.getElem_cons_zero, List.setIfInBounds_toArray, List.set_cons_zero, List.set_cons_succ]
                      refine wpAnyH_ready (rs := [18]) (by kernel_rfl) (by simp) ?_
                      refine (AllReadyH.cons rfl (fun K hK => ?_) AllReadyH.nil)
                      refine held_append rfl _ _ 45 rfl rfl rfl HRQ18.out ?_
                      refine hK.out _ _ (Lib.hid (below_keep (S := fun j => j = g) HBQ4.out)) (fun hS => ?_)
                      clear hK K
                      try simp only [Act.put, List.getElem_toArray, List.getElem_cons_succ, List.getElem_cons_zero, List.setIfInBounds_toArray, List.set_cons_zero, List.set_cons_succ]
                      refine wpAnyH_take (i := 19) (v := ?_) rfl (by kernel_rfl) (by kernel_rfl) (by kernel_rfl) (fun _ _ _ h => h) (Or.inl ⟨by rfl, ?_⟩) hS ?_
                      rotate_left
                      · intro w hw
                        go_simp
                        try with_reducible rfl
                      try simp only [Act.put, List.getElem_toArray, List.getElem_cons_succ, List.getElem_cons_zero, List.setIfInBounds_toArray, List.set_cons_zero, List.set_cons_succ]
                      refine wpAnyH_take (i := 20) (v := ?_) rfl (by kernel_rfl) (by kernel_rfl) (by kernel_rfl) (fun _ _ _ h => h) (Or.inl ⟨by rfl, ?_⟩) hS ?_
                      rotate_left
                      · intro w hw
                        go_simp
                        try with_reducible rfl
                      try simp only [Act.put, List.getElem_toArray, List.getElem_cons_succ, List.getElem_cons_zero, List.setIfInBounds_toArray, List.set_cons_zero, List.set_cons_succ]
                      refine wpAnyH_ready (rs := [21]) (by kernel_rfl) (by simp) ?_
                      refine (AllReadyH.cons rfl (fun K hK => ?_) AllReadyH.nil)
                      have p1 := (BX.out.below HBQ4.out HG.out).cell 1
                      have z1 := (BX.out.below HBQ4.out HG.out).free 1
                      simp only [List.getElem?_cons_succ, List.getElem?_cons_zero] at p1
                      go_simp
                      refine hK.out _ _ (Lib.hid ((below_keep (S := fun j => j = g) HBQ4.out).setCell (p := ⟨g, 1, none⟩) (.inr rfl) _)) (fun hS => ?_)
                      clear hK K p1 z1
                      try simp only [Act.put, List.getElem_toArray, List.getElem_cons_succ, List.getElem_cons_zero, List.setIfInBounds_toArray, List.set_cons_zero, List.set_cons_succ]
                      refine wpAnyH_done (by kernel_rfl) ?_ _
                      go_wp2_with fail
                      go_meet
                      exact FINQ.out
                    · skip
                      have p1 : WQ2.cell? ⟨g, 1, none⟩ = some (.slice A L.length c) := (BX.out.below HBQ2.out HG.out).cell 1
                      go_simp
                      refine hK.out _ _ hS (fun hS => ?_)
                      clear hK K p1
                      try simp only [Act.put, List.getElem_toArray, List.getElem_cons_succ, List.getElem_cons_zero, List.setIfInBounds_toArray, List.set_cons_zero, List.set_cons_succ]
                      refine wpAnyH_take (i := 17) (v := ?_) rfl (by kernel_rfl) (by kernel_rfl) (by kernel_rfl) (fun _ _ _ h => h) (Or.inl ⟨by rfl, ?_⟩) hS ?_
                      rotate_left
                      · intro w hw
                        go_simp
                        try with_reducible rfl
                      try simp only [Act.put, List.getElem_toArray, List.getElem_cons_succ, List.getElem_cons_zero, List.setIfInBounds_toArray, List.set_cons_zero, List.set_cons_succ]
                      refine wpAnyH_ready (rs := [11]) (by kernel_rfl) (by simp) ?_
                      refine (AllReadyH.cons rfl (fun K hK => ?_) AllReadyH.nil)
                      refine held_append rfl _ _ 45 rfl rfl rfl HRQ11.out ?_
                      refine hK.out _ _ (Lib.hid (below_keep (S := fun j => j = g) HBQ3.out)) (fun hS => ?_)
                      clear hK K
                      try simp only [Act.put, List.getElem_toArray, List.getElem_cons_succ, List.getElem_cons_zero, List.setIfInBounds_toArray, List.set_cons_zero, List.set_cons_succ]
                      refine wpAnyH_ready (rs := [18]) (by kernel_rfl) (by simp) ?_
                      refine (AllReadyH.cons rfl (fun K hK => ?_) AllReadyH.nil)
                      refine held_append rfl _ _ 45 rfl rfl rfl HRQ18.out ?_
                      refine hK.out _ _ (Lib.hid (below_keep (S := fun j => j = g) HBQ4.out)) (fun hS => ?_)
                      clear hK K
                      try simp only [Act.put, List.getElem_toArray, List.getElem_cons_succ, List.getElem_cons_zero, List.setIfInBounds_toArray, List.set_cons_zero, List.set_cons_succ]
                      refine wpAnyH_take (i := 19) (v := ?_) rfl (by kernel_rfl) (by kernel_rfl) (by kernel_rfl) (fun _ _ _ h => h) (Or.inl ⟨by rfl, ?_⟩) hS ?_
                      rotate_left
                      · intro w hw
                        go_simp
                        try with_reducible rfl
                      try simp only [Act.put, List.getElem_toArray, List.getElem_cons_succ, List.getElem_cons_zero, List.setIfInBounds_toArray, List.set_cons_zero, List.set_cons_succ]
                      refine wpAnyH_take (i := 20) (v := ?_) rfl (by kernel_rfl) (by kernel_rfl) (by kernel_rfl) (fun _ _ _ h => h) (Or.inl ⟨by rfl, ?_⟩) hS ?_
                      rotate_left
                      · intro w hw
                        go_simp
                        try with_reducible rfl
                      try simp only [Act.put, List.getElem_toArray, List.getElem_cons_succ, List.getElem_cons_zero, List.setIfInBounds_toArray, List.set_cons_zero, List.set_cons_succ]
                      refine wpAnyH_ready (rs := [21]) (by kernel_rfl) (by simp) ?_
                      refine (AllReadyH.cons rfl (fun K hK => ?_) AllReadyH.nil)
                      have p1 := (BX.out.below HBQ4.out HG.out).cell 1
                      have z1 := (BX.out.below HBQ4.out HG.out).free 1
                      simp only [List.getElem?_cons_succ, List.getElem?_cons_zero] at p1
                      go_simp
                      refine hK.out _ _ (Lib.hid ((below_keep (S := fun j => j = g) HBQ4.out).setCell (p := ⟨g, 1, none⟩) (.inr rfl) _)) (fun hS => ?_)
                      clear hK K p1 z1
                      try simp only [Act.put, List.getElem_toArray, List.getElem_cons_succ, List.getElem_cons_zero, List.setIfInBounds_toArray, List.set_cons_zero, List.set_cons_succ]
                      refine wpAnyH_done (by kernel_rfl) ?_ _
                      go_wp2_with fail
                      go_meet
                      exact FINQ.out
                  · skip
                    have p1 : (W2.alloc (.cells #[.string nm, .slice none 0 0, .int .i64 0] Ty.file)).drew.cell? ⟨g, 1, none⟩ = some (.slice A L.length c) := (BX.out.below HBQ1.out HG.out).cell 1
                    go_simp
                    refine hK.out _ _ hS (fun hS => ?_)
                    clear hK K p1
                    try simp only [Act.put, List.getElem_toArray, List.getElem_cons_succ, List.getElem_cons_zero, List.setIfInBounds_toArray, List.set_cons_zero, List.set_cons_succ]
                    refine wpAnyH_take (i := 17) (v := ?_) rfl (by kernel_rfl) (by kernel_rfl) (by kernel_rfl) (fun _ _ _ h => h) (Or.inl ⟨by rfl, ?_⟩) hS ?_
                    rotate_left
                    · intro w hw
                      go_simp
                      try with_reducible rfl
                    try simp only [Act.put, List.getElem_toArray, List.getElem_cons_succ, List.getElem_cons_zero, List.setIfInBounds_toArray, List.set_cons_zero, List.set_cons_succ]
                    refine wpAnyH_ready (rs := [7]) (by kernel_rfl) (by simp) ?_
                    refine (AllReadyH.cons rfl (fun K hK => ?_) AllReadyH.nil)
                    refine held_append rfl _ _ 45 rfl rfl rfl HRQ7.out ?_
                    refine hK.out _ _ (Lib.hid (below_keep (S := fun j => j = g) HBQ2.out)) (fun hS => ?_)
                    clear hK K
                    try simp only [Act.put, List.getElem_toArray, List.getElem_cons_succ, List.getElem_cons_zero, List.setIfInBounds_toArray, List.set_cons_zero, List.set_cons_succ]
                    refine wpAnyH_ready (rs := [11]) (by kernel_rfl) (by simp) ?_
                    refine (AllReadyH.cons rfl (fun K hK => ?_) AllReadyH.nil)
                    refine held_append rfl _ _ 45 rfl rfl rfl HRQ11.out ?_
                    refine hK.out _ _ (Lib.hid (below_keep (S := fun j => j = g) HBQ3.out)) (fun hS => ?_)
                    clear hK K
                    try simp only [Act.put, List.getElem_toArray, List.getElem_cons_succ, List.getElem_cons_zero, List.setIfInBounds_toArray, List.set_cons_zero, List.set_cons_succ]
                    refine wpAnyH_ready (rs := [18]) (by kernel_rfl) (by simp) ?_
                    refine (AllReadyH.cons rfl (fun K hK => ?_) AllReadyH.nil)
                    refine held_append rfl _ _ 45 rfl rfl rfl HRQ18.out ?_
                    refine hK.out _ _ (Lib.hid (below_keep (S := fun j => j = g) HBQ4.out)) (fun hS => ?_)
                    clear hK K
                    try simp only [Act.put, List.getElem_toArray, List.getElem_cons_succ, List.getElem_cons_zero, List.setIfInBounds_toArray, List.set_cons_zero, List.set_cons_succ]
                    refine wpAnyH_take (i := 19) (v := ?_) rfl (by kernel_rfl) (by kernel_rfl) (by kernel_rfl) (fun _ _ _ h => h) (Or.inl ⟨by rfl, ?_⟩) hS ?_
                    rotate_left
                    · intro w hw
                      go_simp
                      try with_reducible rfl
                    try simp only [Act.put, List.getElem_toArray, List.getElem_cons_succ, List.getElem_cons_zero, List.setIfInBounds_toArray, List.set_cons_zero, List.set_cons_succ]
                    refine wpAnyH_take (i := 20) (v := ?_) rfl (by kernel_rfl) (by kernel_rfl) (by kernel_rfl) (fun _ _ _ h => h) (Or.inl ⟨by rfl, ?_⟩) hS ?_
                    rotate_left
                    · intro w hw
                      go_simp
                      try with_reducible rfl
                    try simp only [Act.put, List.getElem_toArray, List.getElem_cons_succ, List.getElem_cons_zero, List.setIfInBounds_toArray, List.set_cons_zero, List.set_cons_succ]
                    refine wpAnyH_ready (rs := [21]) (by kernel_rfl) (by simp) ?_
                    refine (AllReadyH.cons rfl (fun K hK => ?_) AllReadyH.nil)
                    have p1 := (BX.out.below HBQ4.out HG.out).cell 1
                    have z1 := (BX.out.below HBQ4.out HG.out).free 1
                    simp only [List.getElem?_cons_succ, List.getElem?_cons_zero] at p1
                    go_simp
                    refine hK.out _ _ (Lib.hid ((below_keep (S := fun j => j = g) HBQ4.out).setCell (p := ⟨g, 1, none⟩) (.inr rfl) _)) (fun hS => ?_)
                    clear hK K p1 z1
                    try simp only [Act.put, List.getElem_toArray, List.getElem_cons_succ, List.getElem_cons_zero, List.setIfInBounds_toArray, List.set_cons_zero, List.set_cons_succ]
                    refine wpAnyH_done (by kernel_rfl) ?_ _
                    go_wp2_with fail
                    go_meet
                    exact FINQ.out
                · skip
                  have p1 : (W2.alloc (.cells #[.string nm, .slice none 0 0, .int .i64 0] Ty.file)).drew.cell? ⟨g, 1, none⟩ = some (.slice A L.length c) := (BX.out.below HBQ1.out HG.out).cell 1
                  go_simp
                  refine hK.out _ _ hS (fun hS => ?_)
                  clear hK K p1
                  try simp only [Act.put, List.getElem_toArray, List.getElem_cons_succ, List.getElem_cons_zero, List.setIfInBounds_toArray, List.set_cons_zero, List.set_cons_succ]
                  refine wpAnyH_take (i := 17) (v := ?_) rfl (by kernel_rfl) (by kernel_rfl) (by kernel_rfl) (fun _ _ _ h => h) (Or.inl ⟨by rfl, ?_⟩) hS ?_
                  rotate_left
                  · intro w hw
                    go_simp
                    try with_reducible rfl
                  try simp only [Act.put, List.getElem_toArray, List.getElem_cons_succ, List.getElem_cons_zero, List.setIfInBounds_toArray, List.set_cons_zero, List.set_cons_succ]
                  refine wpAnyH_ready (rs := [4]) (by kernel_rfl) (by simp) ?_
                  refine (AllReadyH.cons rfl (fun K hK => ?_) AllReadyH.nil)
                  have p1 : (W2.alloc (.cells #[.string nm, .slice none 0 0, .int .i64 0] Ty.file)).drew.cell? ⟨g, 1, none⟩ = some (.slice A L.length c) := (BX.out.below HBQ1.out HG.out).cell 1
                  go_simp
                  refine hK.out _ _ hS (fun hS => ?_)
                  clear hK K p1
                  try simp only [Act.put, List.getElem_toArray, List.getElem_cons_succ, List.getElem_cons_zero, List.setIfInBounds_toArray, List.set_cons_zero, List.set_cons_succ]
                  refine wpAnyH_take (i := 6) (v := ?_) rfl (by kernel_rfl) (by kernel_rfl) (by kernel_rfl) (fun _ _ _ h => h) (Or.inl ⟨by rfl, ?_⟩) hS ?_
                  rotate_left
                  · intro w hw
                    go_simp
                    try with_reducible rfl
                  try simp only [Act.put, List.getElem_toArray, List.getElem_cons_succ, List.getElem_cons_zero, List.setIfInBounds_toArray, List.set_cons_zero, List.set_cons_succ]
                  refine wpAnyH_ready (rs := [7]) (by kernel_rfl) (by simp) ?_
                  refine (AllReadyH.cons rfl (fun K hK => ?_) AllReadyH.nil)
                  refine held_append rfl _ _ 45 rfl rfl rfl HRQ7.out ?_
                  refine hK.out _ _ (Lib.hid (below_keep (S := fun j => j = g) HBQ2.out)) (fun hS => ?_)
                  clear hK K
                  try simp only [Act.put, List.getElem_toArray, List.getElem_cons_succ, List.getElem_cons_zero, List.setIfInBounds_toArray, List.set_cons_zero, List.set_cons_succ]
                  refine wpAnyH_ready (rs := [11]) (by kernel_rfl) (by simp) ?_
                  refine (AllReadyH.cons rfl (fun K hK => ?_) AllReadyH.nil)
                  refine held_append rfl _ _ 45 rfl rfl rfl HRQ11.out ?_
                  refine hK.out _ _ (Lib.hid (below_keep (S := fun j => j = g) HBQ3.out)) (fun hS => ?_)
                  clear hK K
                  try simp only [Act.put, List.getElem_toArray, List.getElem_cons_succ, List.getElem_cons_zero, List.setIfInBounds_toArray, List.set_cons_zero, List.set_cons_succ]
                  refine wpAnyH_ready (rs := [18]) (by kernel_rfl) (by simp) ?_
                  refine (AllReadyH.cons rfl (fun K hK => ?_) AllReadyH.nil)
                  refine held_append rfl _ _ 45 rfl rfl rfl HRQ18.out ?_
                  refine hK.out _ _ (Lib.hid (below_keep (S := fun j => j = g) HBQ4.out)) (fun hS => ?_)
                  clear hK K
                  try simp only [Act.put, List.getElem_toArray, List.getElem_cons_succ, List.getElem_cons_zero, List.setIfInBounds_toArray, List.set_cons_zero, List.set_cons_succ]
                  refine wpAnyH_take (i := 19) (v := ?_) rfl (by kernel_rfl) (by kernel_rfl) (by kernel_rfl) (fun _ _ _ h => h) (Or.inl ⟨by rfl, ?_⟩) hS ?_
                  rotate_left
                  · intro w hw
                    go_simp
                    try with_reducible rfl
                  try simp only [Act.put, List.getElem_toArray, List.getElem_cons_succ, List.getElem_cons_zero, List.setIfInBounds_toArray, List.set_cons_zero, List.set_cons_succ]
                  refine wpAnyH_take (i := 20) (v := ?_) rfl (by kernel_rfl) (by kernel_rfl) (by kernel_rfl) (fun _ _ _ h => h) (Or.inl ⟨by rfl, ?_⟩) hS ?_
                  rotate_left
                  · intro w hw
                    go_simp
                    try with_reducible rfl
                  try simp only [Act.put, List.getElem_toArray, List.getElem_cons_succ, List.getElem_cons_zero, List.setIfInBounds_toArray, List.set_cons_zero, List.set_cons_succ]
                  refine wpAnyH_ready (rs := [21]) (by kernel_rfl) (by simp) ?_
                  refine (AllReadyH.cons rfl (fun K hK => ?_) AllReadyH.nil)
                  have p1 := (BX.out.below HBQ4.out HG.out).cell 1
                  have z1 := (BX.out.below HBQ4.out HG.out).free 1
                  simp only [List.getElem?_cons_succ, List.getElem?_cons_zero] at p1
                  go_simp
                  refine hK.out _ _ (Lib.hid ((below_keep (S := fun j => j = g) HBQ4.out).setCell (p := ⟨g, 1, none⟩) (.inr rfl) _)) (fun hS => ?_)
                  clear hK K p1 z1
                  try simp only [Act.put, List.getElem_toArray, List.getElem_cons_succ, List.getElem_cons_zero, List.setIfInBounds_toArray, List.set_cons_zero, List.set_cons_succ]
                  refine wpAnyH_done (by kernel_rfl) ?_ _
                  go_wp2_with fail
                  go_meet
                  exact FINQ.out
              · skip
                have p1 : W2.cell? ⟨g, 1, none⟩ = some (.slice A L.length c) := (BX.out.below HB0.out HG.out).cell 1
                go_simp
                refine hK.out _ _ hS (fun hS => ?_)
                clear hK K p1
                try simp only [Act.put, List.getElem_toArray, List.getElem_cons_succ, List.getElem_cons_zero, List.setIfInBounds_toArray, List.set_cons_zero, List.set_cons_succ]
                refine wpAnyH_take (i := 17) (v := ?_) rfl (by kernel_rfl) (by kernel_rfl) (by kernel_rfl) (fun _ _ _ h => h) (Or.inl ⟨by rfl, ?_⟩) hS ?_
                rotate_left
                · intro w hw
                  go_simp
                  try with_reducible rfl
                try simp only [Act.put, List.getElem_toArray, List.getElem_cons_succ, List.getElem_cons_zero, List.setIfInBounds_toArray, List.set_cons_zero, List.set_cons_succ]
                refine wpAnyH_ready (rs := [4, 10]) (by kernel_rfl) (by simp) ?_
                refine (AllReadyH.cons rfl (fun K hK => ?_) (AllReadyH.cons rfl (fun K hK => ?_) AllReadyH.nil))
                · skip
                  have p1 : W2.cell? ⟨g, 1, none⟩ = some (.slice A L.length c) := (BX.out.below HB0.out HG.out).cell 1
                  go_simp
                  refine hK.out _ _ hS (fun hS => ?_)
                  clear hK K p1
                  try simp only [Act.put, List.getElem_toArray, List.getElem_cons_succ, List.getElem_cons_zero, List.setIfInBounds_toArray, List.set_cons_zero, List.set_cons_succ]
                  refine wpAnyH_take (i := 6) (v := ?_) rfl (by kernel_rfl) (by kernel_rfl) (by kernel_rfl) (fun _ _ _ h => h) (Or.inl ⟨by rfl, ?_⟩) hS ?_
                  rotate_left
                  · intro w hw
                    go_simp
                    try with_reducible rfl
                  try simp only [Act.put, List.getElem_toArray, List.getElem_cons_succ, List.getElem_cons_zero, List.setIfInBounds_toArray, List.set_cons_zero, List.set_cons_succ]
                  refine wpAnyH_ready (rs := [7, 10]) (by kernel_rfl) (by simp) ?_
                  refine (AllReadyH.cons rfl (fun K hK => ?_) (AllReadyH.cons rfl (fun K hK => ?_) AllReadyH.nil))
                  · skip
                    refine held_append rfl _ _ 45 rfl rfl rfl HRP7.out ?_
                    refine hK.out _ _ (Lib.hid (below_keep (S := fun j => j = g) HBP1.out)) (fun hS => ?_)
                    clear hK K
                    try simp only [Act.put, List.getElem_toArray, List.getElem_cons_succ, List.getElem_cons_zero, List.setIfInBounds_toArray, List.set_cons_zero, List.set_cons_succ]
                    refine wpAnyH_ready (rs := [10]) (by kernel_rfl) (by simp) ?_
                    refine (AllReadyH.cons rfl (fun K hK => ?_) AllReadyH.nil)
                    go_simp
                    refine hK.out _ _ (Lib.hid (below_keep (S := fun j => j = g) HBP2.out)) (fun hS => ?_)
                    clear hK K
                    try simp only [Act.put, List.getElem_toArray, List.getElem_cons_succ, List.getElem_cons_zero, List.setIfInBounds_toArray, List.set_cons_zero, List.set_cons_succ]
                    refine wpAnyH_ready (rs := [11]) (by kernel_rfl) (by simp) ?_
                    refine (AllReadyH.cons rfl (fun K hK => ?_) AllReadyH.nil)
                    refine held_append rfl _ _ 45 rfl rfl rfl HRP11.out ?_
                    refine hK.out _ _ (Lib.hid (below_keep (S := fun j => j = g) HBP3.out)) (fun hS => ?_)
                    clear hK K
                    try simp only [Act.put, List.getElem_toArray, List.getElem_cons_succ, List.getElem_cons_zero, List.setIfInBounds_toArray, List.set_cons_zero, List.set_cons_succ]
                    refine wpAnyH_ready (rs := [18]) (by kernel_rfl) (by simp) ?_
                    refine (AllReadyH.cons rfl (fun K hK => ?_) AllReadyH.nil)
                    refine held_append rfl _ _ 45 rfl rfl rfl HRP18.out ?_
                    refine hK.out _ _ (Lib.hid (below_keep (S := fun j => j = g) HBP4.out)) (fun hS => ?_)
                    clear hK K
                    try simp only [Act.put, List.getElem_toArray, List.getElem_cons_succ, List.getElem_cons_zero, List.setIfInBounds_toArray, List.set_cons_zero, List.set_cons_succ]
                    refine wpAnyH_take (i := 19) (v := ?_) rfl (by kernel_rfl) (by kernel_rfl) (by kernel_rfl) (fun _ _ _ h => h) (Or.inl ⟨by rfl, ?_⟩) hS ?_
                    rotate_left
                    · intro w hw
                      go_simp
                      try with_reducible rfl
                    try simp only [Act.put, List.getElem_toArray, List.getElem_cons_succ, List.getElem_cons_zero, List.setIfInBounds_toArray, List.set_cons_zero, List.set_cons_succ]
                    refine wpAnyH_take (i := 20) (v := ?_) rfl (by kernel_rfl) (by kernel_rfl) (by kernel_rfl) (fun _ _ _ h => h) (Or.inl ⟨by rfl, ?_⟩) hS ?_
                    rotate_left
                    · intro w hw
                      go_simp
                      try with_reducible rfl
                    try simp only [Act.put, List.getElem_toArray, List.getElem_cons_succ, List.getElem_cons_zero, List.setIfInBounds_toArray, List.set_cons_zero, List.set_cons_succ]
                    refine wpAnyH_ready (rs := [21]) (by kernel_rfl) (by simp) ?_
                    refine (AllReadyH.cons rfl (fun K hK => ?_) AllReadyH.nil)
                    have p1 := (BX.out.below HBP4.out HG.out).cell 1
                    have z1 := (BX.out.below HBP4.out HG.out).free 1
                    simp only [List.getElem?_cons_succ, List.getElem?_cons_zero] at p1
                    go_simp
                    refine hK.out _ _ (Lib.hid ((below_keep (S := fun j => j = g) HBP4.out).setCell (p := ⟨g, 1, none⟩) (.inr rfl) _)) (fun hS => ?_)
                    clear hK K p1 z1
                    try simp only [Act.put, List.getElem_toArray, List.getElem_cons_succ, List.getElem_cons_zero, List.setIfInBounds_toArray, List.set_cons_zero, List.set_cons_succ]
                    refine wpAnyH_done (by kernel_rfl) ?_ _
                    go_wp2_with fail
                    go_meet
                    exact FINP.out
                  · skip
                    go_simp
                    refine hK.out _ _ (Lib.hid (below_keep (S := fun j => j = g) HBQ1.out)) (fun hS => ?_)
                    clear hK K
                    try simp only [Act.put, List.getElem_toArray, List.getElem_cons_succ, List.getElem_cons_zero, List.setIfInBounds_toArray, List.set_cons_zero, List.set_cons_succ]
                    refine wpAnyH_ready (rs := [7]) (by kernel_rfl) (by simp) ?_
                    refine (AllReadyH.cons rfl (fun K hK => ?_) AllReadyH.nil)
                    refine held_append rfl _ _ 45 rfl rfl rfl HRQ7.out ?_
                    refine hK.out _ _ (Lib.hid (below_keep (S := fun j => j = g) HBQ2.out)) (fun hS => ?_)
                    clear hK K
                    try simp only [Act.put, List.getElem_toArray, List.getElem_cons_succ, List.getElem_cons_zero, List.setIfInBounds_toArray, List.set_cons_zero, List.set_cons_succ]
                    refine wpAnyH_ready (rs := [11]) (by kernel_rfl) (by simp) ?_
                    refine (AllReadyH.cons rfl (fun K hK => ?_) AllReadyH.nil)
                    refine held_append rfl _ _ 45 rfl rfl rfl HRQ11.out ?_
                    refine hK.out _ _ (Lib.hid (below_keep (S := fun j => j = g) HBQ3.out)) (fun hS => ?_)
                    clear hK K
                    try simp only [Act.put, List.getElem_toArray, List.getElem_cons_succ, List.getElem_cons_zero, List.setIfInBounds_toArray, List.set_cons_zero, List.set_cons_succ]
                    refine wpAnyH_ready (rs := [18]) (by kernel_rfl) (by simp) ?_
                    refine (AllReadyH.cons rfl (fun K hK => ?_) AllReadyH.nil)
                    refine held_append rfl _ _ 45 rfl rfl rfl HRQ18.out ?_
                    refine hK.out _ _ (Lib.hid (below_keep (S := fun j => j = g) HBQ4.out)) (fun hS => ?_)
                    clear hK K
                    try simp only [Act.put, List.getElem_toArray, List.getElem_cons_succ, List.getElem_cons_zero, List.setIfInBounds_toArray, List.set_cons_zero, List.set_cons_succ]
                    refine wpAnyH_take (i := 19) (v := ?_) rfl (by kernel_rfl) (by kernel_rfl) (by kernel_rfl) (fun _ _ _ h => h) (Or.inl ⟨by rfl, ?_⟩) hS ?_
                    rotate_left
                    · intro w hw
                      go_simp
                      try with_reducible rfl
                    try simp only [Act.put, List.getElem_toArray, List.getElem_cons_succ, List.getElem_cons_zero, List.setIfInBounds_toArray, List.set_cons_zero, List.set_cons_succ]
                    refine wpAnyH_take (i := 20) (v := ?_) rfl (by kernel_rfl) (by kernel_rfl) (by kernel_rfl) (fun _ _ _ h => h) (Or.inl ⟨by rfl, ?_⟩) hS ?_
                    rotate_left
                    · intro w hw
                      go_simp
                      try with_reducible rfl
                    try simp only [Act.put, List.getElem_toArray, List.getElem_cons_succ, List.getElem_cons_zero, List.setIfInBounds_toArray, List.set_cons_zero, List.set_cons_succ]
                    refine wpAnyH_ready (rs := [21]) (by kernel_rfl) (by simp) ?_
                    refine (AllReadyH.cons rfl (fun K hK => ?_) AllReadyH.nil)
                    have p1 := (BX.out.below HBQ4.out HG.out).cell 1
                    have z1 := (BX.out.below HBQ4.out HG.out).free 1
                    simp only [List.getElem?_cons_succ, List.getElem?_cons_zero] at p1
                    go_simp
                    refine hK.out _ _ (Lib.hid ((below_keep (S := fun j => j = g) HBQ4.out).setCell (p := ⟨g, 1, none⟩) (.inr rfl) _)) (fun hS => ?_)
                    clear hK K p1 z1
                    try simp only [Act.put, List.getElem_toArray, List.getElem_cons_succ, List.getElem_cons_zero, List.setIfInBounds_toArray, List.set_cons_zero, List.set_cons_succ]
                    refine wpAnyH_done (by kernel_rfl) ?_ _
                    go_wp2_with fail
                    go_meet
                    exact FINQ.out
                · skip
                  go_simp
                  refine hK.out _ _ (Lib.hid (below_keep (S := fun j => j = g) HBQ1.out)) (fun hS => ?_)
                  clear hK K
                  try simp only [Act.put, List.getElem_toArray, List.getElem_cons_succ, List.getElem_cons_zero, List.setIfInBounds_toArray, List.set_cons_zero, List.set_cons_succ]
                  refine wpAnyH_ready (rs := [4]) (by kernel_rfl) (by simp) ?_
                  refine (AllReadyH.cons rfl (fun K hK => ?_) AllReadyH.nil)
                  have p1 : (W2.alloc (.cells #[.string nm, .slice none 0 0, .int .i64 0] Ty.file)).drew.cell? ⟨g, 1, none⟩ = some (.slice A L.length c) := (BX.out.below HBQ1.out HG.out).cell 1
                  go_simp
                  refine hK.out _ _ hS (fun hS => ?_)
                  clear hK K p1
                  try simp only [Act.put, List.getElem_toArray, List.getElem_cons_succ, List.getElem_cons_zero, List.setIfInBounds_toArray, List.set_cons_zero, List.set_cons_succ]
                  refine wpAnyH_take (i := 6) (v := ?_) rfl (by kernel_rfl) (by kernel_rfl) (by kernel_rfl) (fun _ _ _ h => h) (Or.inl ⟨by rfl, ?_⟩) hS ?_
                  rotate_left
                  · intro w hw
                    go_simp
                    try with_reducible rfl
                  try simp only [Act.put, List.getElem_toArray, List.getElem_cons_succ, List.getElem_cons_zero, List.setIfInBounds_toArray, List.set_cons_zero, List.set_cons_succ]
                  refine wpAnyH_ready (rs := [7]) (by kernel_rfl) (by simp) ?_
                  refine (AllReadyH.cons rfl (fun K hK => ?_) AllReadyH.nil)
                  refine held_append rfl _ _ 45 rfl rfl rfl HRQ7.out ?_
                  refine hK.out _ _ (Lib.hid (below_keep (S := fun j => j = g) HBQ2.out)) (fun hS => ?_)
                  clear hK K
                  try simp only [Act.put, List.getElem_toArray, List.getElem_cons_succ, List.getElem_cons_zero, List.setIfInBounds_toArray, List.set_cons_zero, List.set_cons_succ]
                  refine wpAnyH_ready (rs := [11]) (by kernel_rfl) (by simp) ?_
                  refine (AllReadyH.cons rfl (fun K hK => ?_) AllReadyH.nil)
                  refine held_append rfl _ _ 45 rfl rfl rfl HRQ11.out ?_
                  refine hK.out _ _ (Lib.hid (below_keep (S := fun j => j = g) HBQ3.out)) (fun hS => ?_)
                  clear hK K
                  try simp only [Act.put, List.getElem_toArray, List.getElem_cons_succ, List.getElem_cons_zero, List.setIfInBounds_toArray, List.set_cons_zero, List.set_cons_succ]
                  refine wpAnyH_ready (rs := [18]) (by kernel_rfl) (by simp) ?_
                  refine (AllReadyH.cons rfl (fun K hK => ?_) AllReadyH.nil)
                  refine held_append rfl _ _ 45 rfl rfl rfl HRQ18.out ?_
                  refine hK.out _ _ (Lib.hid (below_keep (S := fun j => j = g) HBQ4.out)) (fun hS => ?_)
                  clear hK K
                  try simp only [Act.put, List.getElem_toArray, List.getElem_cons_succ, List.getElem_cons_zero, List.setIfInBounds_toArray, List.set_cons_zero, List.set_cons_succ]
                  refine wpAnyH_take (i := 19) (v := ?_) rfl (by kernel_rfl) (by kernel_rfl) (by kernel_rfl) (fun _ _ _ h => h) (Or.inl ⟨by rfl, ?_⟩) hS ?_
                  rotate_left
                  · intro w hw
                    go_simp
                    try with_reducible rfl
                  try simp only [Act.put, List.getElem_toArray, List.getElem_cons_succ, List.getElem_cons_zero, List.setIfInBounds_toArray, List.set_cons_zero, List.set_cons_succ]
                  refine wpAnyH_take (i := 20) (v := ?_) rfl (by kernel_rfl) (by kernel_rfl) (by kernel_rfl) (fun _ _ _ h => h) (Or.inl ⟨by rfl, ?_⟩) hS ?_
                  rotate_left
                  · intro w hw
                    go_simp
                    try with_reducible rfl
                  try simp only [Act.put, List.getElem_toArray, List.getElem_cons_succ, List.getElem_cons_zero, List.setIfInBounds_toArray, List.set_cons_zero, List.set_cons_succ]
                  refine wpAnyH_ready (rs := [21]) (by kernel_rfl) (by simp) ?_
                  refine (AllReadyH.cons rfl (fun K hK => ?_) AllReadyH.nil)
                  have p1 := (BX.out.below HBQ4.out HG.out).cell 1
                  have z1 := (BX.out.below HBQ4.out HG.out).free 1
                  simp only [List.getElem?_cons_succ, List.getElem?_cons_zero] at p1
                  go_simp
                  refine hK.out _ _ (Lib.hid ((below_keep (S := fun j => j = g) HBQ4.out).setCell (p := ⟨g, 1, none⟩) (.inr rfl) _)) (fun hS => ?_)
                  clear hK K p1 z1
                  try simp only [Act.put, List.getElem_toArray, List.getElem_cons_succ, List.getElem_cons_zero, List.setIfInBounds_toArray, List.set_cons_zero, List.set_cons_succ]
                  refine wpAnyH_done (by kernel_rfl) ?_ _
                  go_wp2_with fail
                  go_meet
                  exact FINQ.out
            case rest =>
            obtain ⟨A3, c3, hL3, hk3⟩ := hcut
            have HK3 := Lib.hid hk3
            obtain ⟨L3, hL3e⟩ : ∃ L3, L3 = L.take i ++ dN :: L.drop i := ⟨_, rfl⟩
            rw [← hL3e] at hL3
            have hd3 : L3[i]? = some dN := by
              rw [hL3e, List.getElem?_append_right (by rw [List.length_take]; omega), List.length_take, Nat.min_eq_left hile, Nat.sub_self]
              rfl
            have HL3 := Lib.hid hL3
            have HD3 := Lib.hid hd3
            have hlt3 := (List.getElem?_eq_some_iff.1 hd3).1
            obtain ⟨hcap3, hcm3⟩ := hL3.cap
            obtain ⟨_, p1, _⟩ := hL3.facts
            obtain ⟨gl, hA, _, q1, _, z1, _⟩ := hL3.place hd3
            subst hA
            have HGL : Hid (¬ gl = g) := Lib.hid fun e => by
              subst e
              exact own_apart hL3.own hL3.box (by decide) rfl
            have hok := hL3.ok dN (List.mem_of_getElem? hd3)
            have hlies : Lies wc wc.heap.size dN.a (dN.bs.map vb) := hok.lies.lies fun k hk => hL3.lt k hk.1
            have HLS3 : Lies wc wc.heap.size Ab (bs.map vb) := LiesP.lies (LiesP.later (R' := fun k => k < wc.heap.size) HLS.out (fun k hk => hk3.block k hk.2 fun e => hk.1 (by rw [e]; exact HSG.out)) fun k hk => Nat.lt_of_lt_of_le hk.2 hk3.size) fun k hk => hk
            have hdb : dN.bs = [] := by rw [hdN]
            obtain ⟨A5, c5, W3, hr3, hown3, hb3⟩ := fresh_bytes dN.a dN.c _ dN.bs wc.drew (hlies.below ((Below.refl _ _).drew)) (by rw [hdb]; simp)
            have hb3' : Below wc.heap.size wc W3 := (Below.refl wc.heap.size wc).drew.trans hb3
            have hl4 : Lies W3 wc.heap.size Ab (bs.map vb) := HLS3.below hb3'
            obtain ⟨v4, W4, hr4, hown4, hb4, hz4⟩ := run_append_lies (P := Try.prog) (w := W3) (base := wc.heap.size) (m := bs.length) (c := cb) 31 31 5 (.int .u8 0) 1 1 Try.underlying31 (by kernel_rfl) rfl (by decide)
              (fun u hu => by simp at hu; obtain ⟨_, _, rfl⟩ := hu; rfl) hown3 hl4 (by simp) (by rw [hdb]; unfold maxLen; simp; omega) (by rw [hdb]; simp; omega) hb3'.size
            have hb4' : Below wc.heap.size wc W4 := hb3'.trans hb4
            rw [← List.map_append, ← List.length_append] at hown4
            obtain ⟨A4, c4, rfl, _, _, _⟩ := own_parts hown4
            have hfin := hL3.wrote (i := i) (d := dN) (xs := dN.bs ++ bs) hd3 hb4' hown4 (fun x hx => by
              rw [hdb, List.nil_append] at hx
              exact HB8.out x hx) (by rw [hdb, List.nil_append]; have := HBL.out; omega) (by rw [hdN]; exact Nat.zero_le _)
            have FIN : Hid (∀ W', W' = W4.setCell ⟨gl, i * 3 + 1, none⟩ (.slice A4 (dN.bs ++ bs).length c4) → RTold w g S rm (0, { (hit m).2 with fs := insM ⟨nm, bs, 0⟩ m.fs }) (.returned (.int .i64 0)) W') := Lib.hid (by
              rintro W' rfl
              have hgl : S gl ∨ W2.heap.size ≤ gl := (hL3.so gl rfl).imp id fun h => h.1
              refine ⟨Gr (Gr S W2 wc) wc W4, rfl, ?_, ?_, fun k hk => ?_⟩
              · have h1 := hfin.toAt
                have e1 : put1 (insM ⟨nm, [], 0⟩ m.fs) ⟨dN.nm, dN.bs ++ bs, dN.syn⟩ = insM ⟨nm, bs, 0⟩ m.fs := by
                  rw [hdN]
                  exact put_ins (f := ⟨nm, [], 0⟩) (f' := ⟨nm, bs, 0⟩) rfl HNO.out
                dsimp only at h1
                rw [e1] at h1
                exact h1
              · have hkw : Keep S w wc := (HK2.out.mono (T := S) fun k hk => by rw [hk]; exact HSG.out).trans HK3.out fun k _ hk => by rw [hk]; exact HSG.out
                exact (hkw.trans (T := fun _ => False) (below_keep hb4') fun _ _ h => h.elim).setCell (p := ⟨gl, i * 3 + 1, none⟩) (hgl.elim .inr fun h => .inl (Nat.le_trans HK2.out.size h)) _
              · have h2 := HK2.out.size
                have h3 := HK3.out.size
                rcases hk with hk | hk
                · exact hk.imp id fun h => Nat.le_trans h2 h.1
                · exact .inr (Nat.le_trans h2 (Nat.le_trans h3 hk.1)))
            have hL4 := hL3.keep (T := fun _ => False) (below_keep hb4') fun _ _ => id
            obtain ⟨gl', hA', _, q2, _, z2, _⟩ := hL4.place hd3
            cases hA'
            obtain ⟨n4, hn4⟩ : ∃ n4, n4 = (dN.bs ++ bs).length := ⟨_, rfl⟩
            rw [← hn4] at FIN hr4
            obtain ⟨nb, hnb⟩ : ∃ nb, nb = dN.bs.length := ⟨_, rfl⟩
            rw [← hnb] at hr3 hr4 q1 q2
            obtain ⟨n2, hn2⟩ : ∃ n2, n2 = L3.length := ⟨_, rfl⟩
            rw [← hn2] at p1 hlt3 hcap3
            have HP := Lib.hid p1
            have Q1 := Lib.hid q1
            have HR3 := Lib.hid hr3
            have HR4 := Lib.hid hr4
            have HB3 := Lib.hid hb3'
            have HB4 := Lib.hid hb4'
            have Q2 := Lib.hid q2
            have Z2 := Lib.hid z2
            clear hk3 hL3 hd3 z1 hok hlies HLS3 hdb hr3 hown3 hb3 hb3' hl4 hr4 hown4 hb4 hz4 hb4' hfin hL4 q2 z2 hn4 hnb hn2 hL3e hdN p0 hs1 hs2 FINP FINQ HRP7 HRP11 HRP18 HRQ7 HRQ11 HRQ18 HBP1 HBP2 HBP3 HBP4 HBQ1 HBQ2 HBQ3 HBQ4
            go_upto_region 18 with fail
            refine wp_region_held_drew (S := fun w' => Hid (Keep (fun j => j = gl) wc w')) (by kernel_rfl) (Lib.hid (Keep.refl _ _).drew) (fun hS => ?_)
            refine wpAnyH_take (i := 0) (v := ?_) rfl (by kernel_rfl) (by kernel_rfl) (by kernel_rfl) (fun _ _ _ h => h) (Or.inl ⟨by rfl, ?_⟩) hS ?_
            rotate_left
            · intro w hw
              go_simp
              try with_reducible rfl
            try simp only [Act.put, List.getElem_toArray, List.getElem_cons_succ, List.getElem_cons_zero, List.setIfInBounds_toArray, List.set_cons_zero, List.set_cons_succ]
            refine wpAnyH_take (i := 1) (v := ?_) rfl (by kernel_rfl) (by kernel_rfl) (by kernel_rfl) (fun _ _ _ h => h) (Or.inl ⟨by rfl, ?_⟩) hS ?_
            rotate_left
            · intro w hw
              go_simp
              try with_reducible rfl
            try simp only [Act.put, List.getElem_toArray, List.getElem_cons_succ, List.getElem_cons_zero, List.setIfInBounds_toArray, List.set_cons_zero, List.set_cons_succ]
            refine wpAnyH_take (i := 2) (v := ?_) rfl (by kernel_rfl) (by kernel_rfl) (by kernel_rfl) (fun _ _ _ h => h) (Or.inl ⟨by rfl, ?_⟩) hS ?_
            rotate_left
            · intro w hw
              go_simp
              try with_reducible rfl
            try simp only [Act.put, List.getElem_toArray, List.getElem_cons_succ, List.getElem_cons_zero, List.setIfInBounds_toArray, List.set_cons_zero, List.set_cons_succ]
            refine wpAnyH_take (i := 3) (v := ?_) rfl (by kernel_rfl) (by kernel_rfl) (by kernel_rfl) (fun _ _ _ h => h) (Or.inl ⟨by rfl, ?_⟩) hS ?_
            rotate_left
            · intro w hw
              have p1 : w.cell? ⟨g, 1, none⟩ = some (.slice (some ⟨gl, 0, none⟩) n2 c3) := (World.cell?_of_block (w := wc) (hw.out.block g (HL3.out.lt g HL3.out.sg) (fun e => HGL.out e.symm))).trans HP.out
              go_simp
              try with_reducible rfl
            try simp only [Act.put, List.getElem_toArray, List.getElem_cons_succ, List.getElem_cons_zero, List.setIfInBounds_toArray, List.set_cons_zero, List.set_cons_succ]
            refine wpAnyH_take (i := 4) (v := ?_) rfl (by kernel_rfl) (by kernel_rfl) (by kernel_rfl) (fun _ _ _ h => h) (Or.inl ⟨by rfl, ?_⟩) hS ?_
            rotate_left
            · intro w hw
              go_simp
              try with_reducible rfl
            try simp only [Act.put, List.getElem_toArray, List.getElem_cons_succ, List.getElem_cons_zero, List.setIfInBounds_toArray, List.set_cons_zero, List.set_cons_succ]
            refine wpAnyH_take (i := 5) (v := ?_) rfl (by kernel_rfl) (by kernel_rfl) (by kernel_rfl) (fun _ _ _ h => h) (Or.inl ⟨by rfl, ?_⟩) hS ?_
            rotate_left
            · intro w hw
              go_simp
              try with_reducible rfl
            try simp only [Act.put, List.getElem_toArray, List.getElem_cons_succ, List.getElem_cons_zero, List.setIfInBounds_toArray, List.set_cons_zero, List.set_cons_succ]
            refine wpAnyH_take (i := 6) (v := ?_) rfl (by kernel_rfl) (by kernel_rfl) (by kernel_rfl) (fun _ _ _ h => h) (Or.inl ⟨by rfl, ?_⟩) hS ?_
            rotate_left
            · intro w hw
              go_simp
              try with_reducible rfl
            try simp only [Act.put, List.getElem_toArray, List.getElem_cons_succ, List.getElem_cons_zero, List.setIfInBounds_toArray, List.set_cons_zero, List.set_cons_succ]
            refine wpAnyH_take (i := 7) (v := ?_) rfl (by kernel_rfl) (by kernel_rfl) (by kernel_rfl) (fun _ _ _ h => h) (Or.inl ⟨by rfl, ?_⟩) hS ?_
            rotate_left
            · intro w hw
              go_simp
              try with_reducible rfl
            try simp only [Act.put, List.getElem_toArray, List.getElem_cons_succ, List.getElem_cons_zero, List.setIfInBounds_toArray, List.set_cons_zero, List.set_cons_succ]
            refine wpAnyH_take (i := 8) (v := ?_) rfl (by kernel_rfl) (by kernel_rfl) (by kernel_rfl) (fun _ _ _ h => h) (Or.inl ⟨by rfl, ?_⟩) hS ?_
            rotate_left
            · intro w hw
              have p1 : w.cell? ⟨g, 1, none⟩ = some (.slice (some ⟨gl, 0, none⟩) n2 c3) := (World.cell?_of_block (w := wc) (hw.out.block g (HL3.out.lt g HL3.out.sg) (fun e => HGL.out e.symm))).trans HP.out
              go_simp
              try with_reducible rfl
            try simp only [Act.put, List.getElem_toArray, List.getElem_cons_succ, List.getElem_cons_zero, List.setIfInBounds_toArray, List.set_cons_zero, List.set_cons_succ]
            refine wpAnyH_take (i := 9) (v := ?_) rfl (by kernel_rfl) (by kernel_rfl) (by kernel_rfl) (fun _ _ _ h => h) (Or.inl ⟨by rfl, ?_⟩) hS ?_
            rotate_left
            · intro w hw
              go_simp
              try with_reducible rfl
            try simp only [Act.put, List.getElem_toArray, List.getElem_cons_succ, List.getElem_cons_zero, List.setIfInBounds_toArray, List.set_cons_zero, List.set_cons_succ]
            refine wpAnyH_take (i := 10) (v := ?_) rfl (by kernel_rfl) (by kernel_rfl) (by kernel_rfl) (fun _ _ _ h => h) (Or.inl ⟨by rfl, ?_⟩) hS ?_
            rotate_left
            · intro w hw
              go_simp
              try with_reducible rfl
            try simp only [Act.put, List.getElem_toArray, List.getElem_cons_succ, List.getElem_cons_zero, List.setIfInBounds_toArray, List.set_cons_zero, List.set_cons_succ]
            refine wpAnyH_take (i := 11) (v := ?_) rfl (by kernel_rfl) (by kernel_rfl) (by kernel_rfl) (fun _ _ _ h => h) (Or.inl ⟨by rfl, ?_⟩) hS ?_
            rotate_left
            · intro w hw
              go_simp
              try with_reducible rfl
            try simp only [Act.put, List.getElem_toArray, List.getElem_cons_succ, List.getElem_cons_zero, List.setIfInBounds_toArray, List.set_cons_zero, List.set_cons_succ]
            refine wpAnyH_take (i := 14) (v := ?_) rfl (by kernel_rfl) (by kernel_rfl) (by kernel_rfl) (fun _ _ _ h => h) (Or.inl ⟨by rfl, ?_⟩) hS ?_
            rotate_left
            · intro w hw
              go_simp
              try with_reducible rfl
            try simp only [Act.put, List.getElem_toArray, List.getElem_cons_succ, List.getElem_cons_zero, List.setIfInBounds_toArray, List.set_cons_zero, List.set_cons_succ]
            refine wpAnyH_ready (rs := [12]) (by kernel_rfl) (by simp) ?_
            refine (AllReadyH.cons rfl (fun K hK => ?_) AllReadyH.nil)
            have q1 : wc.cell? ⟨gl, i * 3 + 1, none⟩ = some (.slice dN.a nb dN.c) := Q1.out
            go_simp
            refine hK.out _ _ hS (fun hS => ?_)
            clear hK K q1
            try simp only [Act.put, List.getElem_toArray, List.getElem_cons_succ, List.getElem_cons_zero, List.setIfInBounds_toArray, List.set_cons_zero, List.set_cons_succ]
            refine wpAnyH_ready (rs := [13]) (by kernel_rfl) (by simp) ?_
            refine (AllReadyH.cons rfl (fun K hK => ?_) AllReadyH.nil)
            refine held_append rfl _ _ 31 rfl rfl rfl HR3.out ?_
            refine hK.out _ _ (Lib.hid (below_keep (S := fun j => j = gl) HB3.out)) (fun hS => ?_)
            clear hK K
            try simp only [Act.put, List.getElem_toArray, List.getElem_cons_succ, List.getElem_cons_zero, List.setIfInBounds_toArray, List.set_cons_zero, List.set_cons_succ]
            refine wpAnyH_ready (rs := [15]) (by kernel_rfl) (by simp) ?_
            refine (AllReadyH.cons rfl (fun K hK => ?_) AllReadyH.nil)
            refine held_append rfl _ _ 31 rfl rfl rfl HR4.out ?_
            refine hK.out _ _ (Lib.hid (below_keep (S := fun j => j = gl) HB4.out)) (fun hS => ?_)
            clear hK K
            try simp only [Act.put, List.getElem_toArray, List.getElem_cons_succ, List.getElem_cons_zero, List.setIfInBounds_toArray, List.set_cons_zero, List.set_cons_succ]
            refine wpAnyH_take (i := 16) (v := ?_) rfl (by kernel_rfl) (by kernel_rfl) (by kernel_rfl) (fun _ _ _ h => h) (Or.inl ⟨by rfl, ?_⟩) hS ?_
            rotate_left
            · intro w hw
              go_simp
              try with_reducible rfl
            try simp only [Act.put, List.getElem_toArray, List.getElem_cons_succ, List.getElem_cons_zero, List.setIfInBounds_toArray, List.set_cons_zero, List.set_cons_succ]
            refine wpAnyH_take (i := 17) (v := ?_) rfl (by kernel_rfl) (by kernel_rfl) (by kernel_rfl) (fun _ _ _ h => h) (Or.inl ⟨by rfl, ?_⟩) hS ?_
            rotate_left
            · intro w hw
              go_simp
              try with_reducible rfl
            try simp only [Act.put, List.getElem_toArray, List.getElem_cons_succ, List.getElem_cons_zero, List.setIfInBounds_toArray, List.set_cons_zero, List.set_cons_succ]
            refine wpAnyH_ready (rs := [18]) (by kernel_rfl) (by simp) ?_
            refine (AllReadyH.cons rfl (fun K hK => ?_) AllReadyH.nil)
            have q2 := Q2.out
            have z2 := Z2.out
            go_simp
            refine hK.out _ _ (Lib.hid ((below_keep (S := fun j => j = gl) HB4.out).setCell (p := ⟨gl, i * 3 + 1, none⟩) (.inr rfl) _)) (fun hS => ?_)
            clear hK K q2 z2
            try simp only [Act.put, List.getElem_toArray, List.getElem_cons_succ, List.getElem_cons_zero, List.setIfInBounds_toArray, List.set_cons_zero, List.set_cons_succ]
            refine wpAnyH_done (by kernel_rfl) ?_ _
            go_wp2_with fail
            go_ret
            rw [E.out]
            exact FIN.out _ rfl

  · have E : Hid (appendM m nm bs = (11, (hit m).2)) := Lib.hid (by
      have hb0 : bad m [nm] = 11 := by unfold bad; rw [hh]; rfl
      unfold appendM
      rw [hb0, if_pos (by decide)])
    clear hh
    go_wp2_with fail
    go_ret
    rw [E.out]
    exact rtold_same HL.out HK.out
end
end Go.Proofs.Ytnbknihaefkllaa.Rk
