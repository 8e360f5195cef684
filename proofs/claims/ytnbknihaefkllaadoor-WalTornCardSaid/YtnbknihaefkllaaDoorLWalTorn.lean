/- Proved: for any batches and any integer, WalTorn of butterylaw8 answers true (of a truncated log exactly the complete batches are recovered, and the class is not EndBad), and its arguments read as before. Conditions: none beyond what the given card states: the two tables of the standard library that it ties hold what the program text lays. -/
import Derived.Test.YtnbknihaefkllaaDoorM3
import Derived.Deep.QuietTactic
import Derived.BigQuiet
import Derived.Test.YtnbknihaefkllaaDoorTie
import Derived.Test.YtnbknihaefkllaaDoorCards
import Derived.SevenTiedAt
namespace Go.Proofs.YtnbknihaefkllaaDoor.walTorn
set_option linter.unusedVariables false
set_option linter.unusedSimpArgs false
open Go.ChangeShapes Go.WideShapes Go.ChangeAt Go.RowKit Lift Ik Dk Wl
open Bt (O D Ops OpsP opsO readB bytesE bytesB rbytes_any chk_parts)

theorem own : ownKnob Tryd.prog.godebug = none := by kernel_rfl

set_option maxHeartbeats 800000 in
theorem walk_no (A : Option Addr) (c : Nat) (L : List G) (s : Int) (w : World) (hc : L.length ≤ c) (hm : c ≤ maxLen) (h : L.length < 1 ∨ 8 < L.length ∨ s < 0) : Calls Tryd.prog 5 #[.slice A L.length c, .int .i64 s] w (Wl.Yes w) := by
  unfold maxLen at hm
  by_cases h1 : L.length < 1
  · go_enter Tryd.func5, Tryd.ntmps5
    go_wp2_with fail
    refine (alive_any _).mono ?_; rintro e W1 ⟨rfl, hb1⟩
    have HB1 := Lib.hid hb1
    clear hb1
    go_wp2_with fail
    go_ret
    exact ⟨rfl, HB1.out⟩
  · by_cases h2 : 8 < L.length
    · go_enter Tryd.func5, Tryd.ntmps5
      go_wp2_with fail
      refine (alive_any _).mono ?_; rintro e W1 ⟨rfl, hb1⟩
      have HB1 := Lib.hid hb1
      clear hb1
      go_wp2_with fail
      go_ret
      exact ⟨rfl, HB1.out⟩
    · have h3 : s < 0 := by omega
      go_enter Tryd.func5, Tryd.ntmps5
      go_wp2_with fail
      refine (alive_any _).mono ?_; rintro e W1 ⟨rfl, hb1⟩
      have HB1 := Lib.hid hb1
      clear hb1
      go_wp2_with fail
      go_ret
      exact ⟨rfl, HB1.out⟩
theorem boF (L : List G) {j : Nat} {d : G} (h : L[j]? = some d) : (L.map G.o).take (j + 1) = (L.map G.o).take j ++ [d.o] := by rw [List.take_add_one, List.getElem?_map, h]; rfl
theorem cut_bats (A : Option Addr) (n c k : Nat) (h : k ≤ c) (hc : n ≤ c) (hm : c ≤ maxLen) (W : World) : Sem.run Tryd.prog (Instr.slice 22 (.slice A n c) none (some (.int .i64 (k : Int))) none) W = .ok (.slice A k c) W := by
  unfold maxLen at hm
  go_simp
theorem torn_len (L : List BO) (j : Nat) (h : ∀ b, b ∈ L.take j → (encP b).length ≤ 10000) (h8 : L.length ≤ 8) : (logB (L.take j)).length ≤ 160168 := by
  have h1 := logB_len (m := 10000) (L := L.take j) h
  have h2 : (L.take j).length ≤ 8 := by rw [List.length_take]; omega
  have h3 := Nat.mul_le_mul_left (21 + 2 * 10000) h2
  omega
/-- The batches that are whole, counted. -/
theorem whole_eq (L : List BO) (to j : Nat) (hto : to ≤ (logB L).length) (h1 : ∀ i, i < j → (logB (L.take (i + 1))).length ≤ to) (hj : j ≤ L.length) (h2 : j < L.length → to < (logB (L.take (j + 1))).length) (hr : rises L 0) {X : List BO} {cl : Nat} (h : recR ((logB L).take to) X cl) : cl ≠ 2 ∧ X = L.take j := by
  obtain ⟨i, n, c, k1, k2, k3, k4, k5, k6⟩ := log_torn L to hto
  obtain ⟨rfl, rfl⟩ := recR_det h (recR_good (rises_take L 0 i hr) k6)
  refine ⟨k2, ?_⟩
  rcases Nat.lt_trichotomy i j with hlt | rfl | hlt
  · have := h1 i hlt
    have := k4 (by omega)
    omega
  · rfl
  · have := h2 (by omega)
    have := logB_mono L (i := j + 1) (j := i) (by omega)
    omega
theorem ends_at (L : List BO) {j i : Nat} (h : i < j) : (Fr.endsOf (recs L) j)[i]? = some (Value.int .i64 (((logB (L.take (i + 1))).length : Nat) : Int)) := by
  rw [Fr.endsOf_at h]
  unfold logB
  rw [recs_take]
theorem ends_succ (L : List BO) (j : Nat) : Fr.endsOf (recs L) (j + 1) = Fr.endsOf (recs L) j ++ [Value.int .i64 (((logB (L.take (j + 1))).length : Nat) : Int)] := by
  rw [Fr.endsOf_succ]
  unfold logB
  rw [recs_take]
set_option maxRecDepth 100000 in
set_option maxHeartbeats 3200000 in
theorem walk (A : Option Addr) (c : Nat) (L : List G) (a : Nat) (w : World) (ha : a ≤ 9223372036854775807) (hB : Bats w w.heap.size A c L) (h1 : 1 ≤ L.length) (h8 : L.length ≤ 8) : Calls Tryd.prog 5 #[.slice A L.length c, .int .i64 (a : Int)] w (Wl.Yes w) := by
  have HB := Lib.hid hB
  have hLc := hB.len
  have HCM := Lib.hid hB.cap
  have hLm := hB.cap
  unfold maxLen at hLm
  clear hB
  go_enter Tryd.func5, Tryd.ntmps5
  go_wp2_with fail
  refine (alive_any _).mono ?_; rintro e W1 ⟨rfl, hb1⟩
  have HB1 := Lib.hid hb1
  clear hb1
  go_wp2_with fail
  go_loopw [6, 7, 8, 9] (fun b en la i wr => ∃ (j last : Nat), i = .int .i64 (j : Int) ∧ la = .int .u64 (last : Int) ∧ j ≤ L.length ∧ last < 72057594037927936 ∧ Hid (last = lastOf ((L.map G.o).take j) 0) ∧ Hid (rises ((L.map G.o).take j) 0) ∧
      Hid (wr.ownsRow W1.heap.size 5 1 b (logB ((L.map G.o).take j)).length ((logB ((L.map G.o).take j)).map vb)) ∧ Hid (wr.ownsRow W1.heap.size 3 1 en j (Fr.endsOf (recs (L.map G.o)) j)) ∧ Hid (∀ x, x ∈ (L.map G.o).take j → (encP x).length ≤ 10000) ∧ Hid (Below W1.heap.size W1 wr))
    (fun _ _ _ i _ => L.length + 1 - (intOf i).toNat)
  case atStart => exact ⟨0, 0, rfl, rfl, by omega, by omega, Lib.hid rfl, Lib.hid trivial, Lib.hid (World.ownsRow_nil _ _ _ _), Lib.hid (World.ownsRow_nil _ _ _ _), Lib.hid (by simp), Lib.hid (Below.refl _ _)⟩
  case round =>
    obtain ⟨j, last, rfl, rfl, hj, hll, hlast, hr, hO, hE, hS, hb⟩ := hrel
    have hbw := HB1.out.trans (hb.out.mono HB1.out.size)
    have HBW := Lib.hid hbw
    by_cases hlt : j < L.length
    · have dl : decide (j < L.length) = true := decide_eq_true hlt
      obtain ⟨d, hd⟩ : ∃ d, L[j]? = some d := ⟨_, List.getElem?_eq_getElem hlt⟩
      obtain ⟨ad, p, hA, hz, hl⟩ := HB.out.load (w' := w) hd
      subst hA
      have HD := Lib.hid hd
      have HL := Lib.hid hl
      have hds := HB.out.num hd
      have HO := Lib.hid fun (w' : World) (hb : Below w.heap.size w w') => ((HB.out.below hb).ops hd).up hb.size
      have HBT := Lib.hid (rbytes_any d.s d.a d.c d.l wr hds (HO.out wr hbw))
      obtain ⟨r0, r1, r2⟩ := hl wr hbw
      clear hd hbw hl
      go_wp2_with fail
      refine HBT.out.mono ?_
      rintro e W3 ⟨v3, rfl, hown3, hb3⟩
      have HB3 := Lib.hid (HBW.out.trans (hb3.mono HBW.out.size))
      have HX3 := Lib.hid hb3
      obtain ⟨q0, q1, q2⟩ := HL.out W3 HB3.out
      have hfit := fun h => fits_of (s := d.s) (l := opsO d.l) h
      have hchk := fun h => chk_parts (chk_of (s := d.s) (l := opsO d.l) h)
      have hol : (opsO d.l).length = d.l.length := by simp [opsO]
      obtain ⟨A3, c3, rfl, kc3, km3, _⟩ := own_parts hown3
      have HO3 := Lib.hid hown3
      have HKM3 := Lib.hid km3
      clear hb3 r0 r1 r2 HBT hown3 km3
      by_cases k1 : bytesE d.s (opsO d.l) = 0
      · have hbe : bytesB d.s (opsO d.l) = encP d.o := by unfold bytesB; rw [if_pos k1]; rfl
        rw [hbe] at HO3 kc3 ⊢
        have hel := encP_len (b := d.o) k1
        have H83 := Lib.hid (encP_byte (b := d.o) k1 (ops_byte (HO.out W3 HB3.out)))
        obtain ⟨f1, f2⟩ := hfit k1
        obtain ⟨f3, f4, _⟩ := hchk k1
        rw [hol] at f2 f3 f4
        have K1 := Lib.hid k1
        rw [k1]
        clear k1 hfit hchk hbe
        have HE := Lib.hid (boF L HD.out)
        by_cases k2 : d.s ≤ last
        · have d2 : decide (d.s ≤ last) = true := decide_eq_true k2
          clear k2
          go_wp2_with fail
          go_ret
          exact ⟨rfl, HB3.out⟩
        · have d2 : decide (d.s ≤ last) = false := decide_eq_false k2
          have HR5 := Lib.hid (show rises ((L.map G.o).take (j + 1)) 0 by
            rw [HE.out]
            refine rises_snoc _ _ _ hr.out K1.out ?_
            rw [← hlast.out]
            exact Nat.lt_of_not_le k2)
          have HLS := Lib.hid (show d.s + d.l.length - 1 = lastOf ((L.map G.o).take (j + 1)) 0 by
            rw [HE.out, lastOf_snoc]
            show _ = d.s + (opsO d.l).length - 1
            rw [hol])
          have HLG := Lib.hid (show logB ((L.map G.o).take (j + 1)) = logB ((L.map G.o).take j) ++ Fr.put (logB ((L.map G.o).take j)).length (encP d.o) by rw [HE.out, logB_snoc])
          have HES := Lib.hid (ends_succ (L.map G.o) j)
          have hGn := torn_len (L.map G.o) j hS.out (by rw [List.length_map]; exact h8)
          have HS5 := Lib.hid (show (encP d.o).length ≤ 10000 → ∀ x, x ∈ (L.map G.o).take (j + 1) → (encP x).length ≤ 10000 from fun hle x hx => by
            rw [HE.out] at hx
            rcases List.mem_append.1 hx with hx | hx
            · exact hS.out x hx
            · simp at hx; subst hx; exact hle)
          clear hlast k2 hol
          generalize hG2 : logB ((L.map G.o).take (j + 1)) = G2 at *
          have HG2 := Lib.hid hG2
          clear hG2
          generalize logB ((L.map G.o).take j) = G1 at *
          have hpl := Fr.put_len G1.length (encP d.o)
          generalize hx : encP d.o = x at *
          clear hx
          by_cases k3 : 10000 < x.length
          · have d3 : decide ((10000 : Int) < (x.length : Int)) = true := decide_eq_true (by omega)
            have d3' : decide (10000 < x.length) = true := decide_eq_true k3
            clear k3
            go_wp2_with fail
            go_ret
            exact ⟨rfl, HB3.out⟩
          · have d3 : decide ((10000 : Int) < (x.length : Int)) = false := decide_eq_false (by omega)
            have d3' : decide (10000 < x.length) = false := decide_eq_false k3
            have HS6 := Lib.hid (HS5.out (by omega))
            clear HS5 q0
            obtain ⟨A6, c6, rfl, k61, k62, _⟩ := own_parts hO.out
            go_wp2_with fail
            go_quiet (fail)
            generalize hWq : W3.drewN _ = W4
            have hb4 : Below W3.heap.size W3 W4 := by rw [← hWq]; exact Joins.below_draws _ _ _
            have hb14 := hb.out.trans ((HX3.out.trans (hb4.mono HX3.out.size)).mono hb.out.size)
            have hO4 := own_later (own_later hO.out HX3.out) hb4
            have hE4 := own_later (own_later hE.out HX3.out) hb4
            have hx4 := own_later HO3.out hb4
            obtain ⟨_, _, hv, _, _, hlx⟩ := own_parts hx4
            injection hv with e1 e2 e3
            subst e1; subst e3
            have hp := Fr.rput_any (G1.length : Int) A3 c3 x W4 (by omega) hlx kc3 HKM3.out (by omega) H83.out
            rw [Int.toNat_natCast] at hp
            have HP := Lib.hid hp
            have HLG2 := Lib.hid HLG.out
            generalize Fr.put G1.length x = P at *
            have HO4 := Lib.hid hO4
            have HE4 := Lib.hid hE4
            have HB14 := Lib.hid hb14
            clear hWq hb4 hb14 hO4 hE4 hx4 hlx hp q1 q2 e2
            go_wp2_with fail
            refine HP.out.mono ?_
            rintro e2 W5 ⟨v5, rfl, ho5, hb5⟩
            obtain ⟨A5, c5, rfl, q1, q2, q3⟩ := own_parts ho5
            obtain ⟨v6, W6, hr6, ho6, on6⟩ := append_bytes (c := c5) (own_later HO4.out hb5) q3 (by omega) (Nat.le_trans HB14.out.size hb5.size)
            have hE5 := own_later HE4.out hb5
            have hE6 := own_kept hE5 on6.keep fun k hk => own_two hE5 (own_later HO4.out hb5) (by decide) hk
            have hb46 := (hb5.mono HB14.out.size).trans (on6.below (own_later HO4.out hb5) (Nat.le_trans HB14.out.size hb5.size))
            have hlen6 : (G1 ++ P).length ≤ 190000 := by rw [List.length_append]; omega
            rw [← HLG2.out] at ho6 hlen6
            obtain ⟨A6', c6', rfl, y1, y2, y3⟩ := own_parts ho6
            have hz6 := Nat.le_trans HB14.out.size hb46.size
            obtain ⟨v7, W7, hr7, ho7, on7⟩ := Fr.append_num ((G2.length : Nat) : Int) hE6 (by omega) hz6
            have hO7 := own_kept ho6 on7.keep fun k hk => own_two ho6 hE6 (by decide) hk
            have HR6 := Lib.hid hr6
            have HR7 := Lib.hid hr7
            have HO7 := Lib.hid hO7
            have HE7 := Lib.hid ho7
            have HB7 := Lib.hid ((HB14.out.trans hb46).trans (on7.below hE6 hz6))
            clear ho5 hb5 q3 hr6 ho6 on6 hE5 hE6 hb46 y3 hr7 ho7 on7 hO7 HO4 HE4 HP
            go_wp2_with (at_builtin; first | refine wpList_append_run rfl _ _ 27 rfl rfl rfl HR6.out ?_ | refine wpList_append_run rfl _ _ 44 rfl rfl rfl HR7.out ?_)
            go_roundw
            case rel => exact ⟨j + 1, d.s + d.l.length - 1, by go_num, by go_num, by omega, by omega, HLS, HR5, by rw [HG2.out]; exact HO7, by rw [HES.out]; exact HE7, HS6, HB7⟩
            case measure => simp [intOf]; omega
      · have d1 : ((bytesE d.s (opsO d.l) : Int) != 0) = true := by rw [bne_iff_ne]; omega
        clear k1 hfit hchk
        go_wp2_with fail
        go_ret
        exact ⟨rfl, HB3.out⟩
    · obtain rfl : j = L.length := by omega
      have dl : decide (L.length < L.length) = false := decide_eq_false (by omega)
      have hTK : (L.map G.o).take L.length = L.map G.o := List.take_of_length_le (by simp)
      have hgl := torn_len (L.map G.o) L.length hS.out (by rw [List.length_map]; exact h8)
      rw [hTK] at hr hO hgl
      have HRI := Lib.hid hr.out
      have H8 := Lib.hid (logB_byte (L := L.map G.o) fun b hb => by
        obtain ⟨g, hg, rfl⟩ := List.mem_map.1 hb
        refine ⟨rises_ok _ _ HRI.out _ (List.mem_map.2 ⟨g, hg, rfl⟩), ?_⟩
        exact ops_byte ((HB.out.ok g hg).ops.ops fun _ h => h))
      generalize hG : logB (L.map G.o) = GG at *
      have HG := Lib.hid hG
      obtain ⟨Ab, cb, rfl, k1, k2, k3⟩ := own_parts hO.out
      obtain ⟨Ae, ce, rfl, y1, y2, y3⟩ := own_parts hE.out
      have HLP := Lib.hid k3
      have HE3 := Lib.hid y3
      have k2' := k2
      unfold maxLen at k2'
      have y2' := y2
      unfold maxLen at y2'
      obtain ⟨to, hto⟩ : ∃ to : Nat, to = a % (GG.length + 1) := ⟨_, rfl⟩
      have htl : to < GG.length + 1 := by rw [hto]; exact Nat.mod_lt _ (by omega)
      have e1 : (a : Int) % ((GG.length : Int) + 1) = (to : Int) := by rw [hto, Int.natCast_emod, Int.natCast_add]; rfl
      have e2' : Int.tmod (a : Int) ((GG.length : Int) + 1) = (to : Int) := by rw [Int.tmod_eq_emod_of_nonneg (by omega), e1]
      clear hG hTK hlast hr hO hE hS k3 y3 hto
      go_wp2_with fail
      refine (new_own 1048576 (by decide) wr HBW.out.size HBW.out).mono ?_
      rintro e W3 ⟨g, S3, rfl, hO3, _, hS3, hb3⟩
      have O3 := Lib.hid (show Own w.heap.size w W3 g S3 (bare 1048576) from hO3)
      have htk : (GG.take to).length = to := by rw [List.length_take]; omega
      have hlies : LiesP W3 (fun k => ¬ S3 k ∧ k < W3.heap.size) Ab ((GG.take to).map vb) := by
        have h0 : Lies wr wr.heap.size Ab ((GG.take to).map vb) := HLP.out.front (by rw [List.map_take]; exact List.take_prefix _ _)
        exact (h0.below hb3).p fun k hk => ⟨fun hs => by have := hS3 k hs; omega, Nat.lt_of_lt_of_le hk hb3.size⟩
      have hap := append_any lN Ab cb (GG.take to) O3.out.1 (show 0 ≤ 1000000 by decide) hlies (by omega) (by omega) (fun x hx => H8.out x (List.mem_of_mem_take hx))
      rw [htk, app_bare 1048576 (GG.take to) (by omega) (by omega)] at hap
      have HAP := Lib.hid hap
      have hcut := fun W => Dk.upto_at Ab GG.length cb to (by omega) k1 k2 W
      have HE4 := Lib.hid (HE3.out.below hb3)
      have HS3 := Lib.hid hS3
      have HSZ3 := Lib.hid hb3.size
      clear hO3 hS3 hb3 hlies hap
      go_wp2_with fail
      refine HAP.out.mono ?_
      intro e W4 ht
      obtain ⟨S4, rfl, hO4, hK4, _⟩ := O3.out.told (O3.out.size (Nat.le_refl _)) ht
      have O4 := Lib.hid hO4
      have HE5 := Lib.hid (HE4.out.later (w' := W4) fun q hq => World.cell?_of_block (w := W3) (hK4.block _ (Nat.lt_of_lt_of_le hq HSZ3.out) fun hs => absurd (HS3.out _ hs) (Nat.not_le_of_lt hq)))
      clear ht hO4 HAP htk hK4
      go_wp2_with fail
      go_loop [14] (fun i => ∃ j : Nat, j ≤ L.length ∧ i = .int .i64 (j : Int) ∧ Hid (∀ i, i < j → (logB ((L.map G.o).take (i + 1))).length ≤ to)) (fun i => L.length + 1 - (intOf i).toNat)
      case atStart => exact ⟨0, by omega, rfl, Lib.hid (by intro i hi; omega)⟩
      case round =>
        clear dl
        obtain ⟨j, hj, rfl, hW⟩ := hrel
        by_cases hjl : j < L.length
        · obtain ⟨ae, hAe, _, hce⟩ := HE5.out.place (by unfold Fr.endsOf; simp; omega)
          subst hAe
          have p1 := hce j _ (ends_at (L.map G.o) hjl)
          have dj : decide (j < L.length) = true := decide_eq_true hjl
          obtain ⟨t, ht⟩ : ∃ t, t = (logB ((L.map G.o).take (j + 1))).length := ⟨_, rfl⟩
          have htb : t ≤ 160168 := by
            have h := (logB_take (L.map G.o) (j + 1)).length_le
            rw [HG.out] at h
            omega
          rw [← ht] at p1
          have HTT := Lib.hid ht
          clear hce ht
          by_cases hle : t ≤ to
          · have d5 : decide (t ≤ to) = true := decide_eq_true hle
            have HW2 : Hid (∀ i, i < j + 1 → (logB ((L.map G.o).take (i + 1))).length ≤ to) := Lib.hid (fun i hi => by
              by_cases hi2 : i < j
              · exact hW.out i hi2
              · obtain rfl : i = j := by omega
                rw [← HTT.out]; exact hle)
            go_wp2_with fail
            go_round
            case rel => exact ⟨j + 1, by omega, by go_num, HW2⟩
            case measure => simp [intOf]; omega
          · have d5 : decide (t ≤ to) = false := decide_eq_false hle
            have HX := Lib.hid (show j < L.length → to < (logB ((L.map G.o).take (j + 1))).length from fun _ => by rw [← HTT.out]; omega)
            clear hle HTT
            have hwhole := fun (X : List BO) (cl : Nat) (h : recR ((logB (L.map G.o)).take to) X cl) => whole_eq (L.map G.o) to j (by rw [HG.out]; omega) hW.out (by rw [List.length_map]; exact hj) (by rw [List.length_map]; exact HX.out) HRI.out h
            rw [HG.out] at hwhole
            clear HX
            go_wp2_with fail
            refine (rec_any lN O4.out.1 (show 0 ≤ 900000 by decide)).mono ?_
            intro e W7 ht
            obtain ⟨A7, c7, X7, cl7, rfl, hX7, hO7, _, _, hgood⟩ := own_rec O4.out (O4.out.size (Nat.le_refl _)) ht
            rw [cont_one] at hO7 hgood ⊢
            obtain ⟨hcl, hXe⟩ := hwhole _ _ (hgood rfl)
            rw [← List.map_take] at hXe
            have hXn : X7.length = j := by
              have := congrArg List.length hXe
              simp only [List.length_map, List.length_take] at this
              omega
            have hcut := cut_bats A L.length c j (by omega) hLc HCM.out
            have hXl : (L.take j).length = j := by rw [List.length_take]; omega
            have hsame := same_bats A7 A c7 c X7 (L.take j) W7 (hX7.bats fun k hk => hk.2.2) (((HB.out.below hO7.2.2).up hO7.2.2.size).front (List.take_prefix _ _)) hXe (by omega)
            rw [hXl, hXn] at hsame
            have HS := Lib.hid hsame
            have O7 := Lib.hid hO7
            have d7 : ((cl7 : Int) != 2) = true := by rw [bne_iff_ne]; omega
            rw [hXn]
            clear ht hX7 hO7 hgood hXe hXn hXl hsame hwhole hcl
            go_wp2_with (go_at_call 10; refine (num_any _ _).mono ?_; rintro e w' ⟨rfl, rfl⟩)
            refine HS.out.mono ?_; rintro e W8 ⟨rfl, hb8⟩
            have HB8 := Lib.hid (O7.out.2.2.trans (hb8.mono (O7.out.size (Nat.le_refl _))))
            clear hb8 HS
            go_wp2_with fail
            go_ret
            exact ⟨rfl, HB8.out⟩
        · have dj : decide (j < L.length) = false := decide_eq_false hjl
          have HX := Lib.hid (show j < L.length → to < (logB ((L.map G.o).take (j + 1))).length from fun h => absurd h hjl)
          clear hjl
          have hwhole := fun (X : List BO) (cl : Nat) (h : recR ((logB (L.map G.o)).take to) X cl) => whole_eq (L.map G.o) to j (by rw [HG.out]; omega) hW.out (by rw [List.length_map]; exact hj) (by rw [List.length_map]; exact HX.out) HRI.out h
          rw [HG.out] at hwhole
          clear HX
          go_wp2_with fail
          refine (rec_any lN O4.out.1 (show 0 ≤ 900000 by decide)).mono ?_
          intro e W7 ht
          obtain ⟨A7, c7, X7, cl7, rfl, hX7, hO7, _, _, hgood⟩ := own_rec O4.out (O4.out.size (Nat.le_refl _)) ht
          rw [cont_one] at hO7 hgood ⊢
          obtain ⟨hcl, hXe⟩ := hwhole _ _ (hgood rfl)
          rw [← List.map_take] at hXe
          have hXn : X7.length = j := by
            have := congrArg List.length hXe
            simp only [List.length_map, List.length_take] at this
            omega
          have hcut := cut_bats A L.length c j (by omega) hLc HCM.out
          have hXl : (L.take j).length = j := by rw [List.length_take]; omega
          have hsame := same_bats A7 A c7 c X7 (L.take j) W7 (hX7.bats fun k hk => hk.2.2) (((HB.out.below hO7.2.2).up hO7.2.2.size).front (List.take_prefix _ _)) hXe (by omega)
          rw [hXl, hXn] at hsame
          have HS := Lib.hid hsame
          have O7 := Lib.hid hO7
          have d7 : ((cl7 : Int) != 2) = true := by rw [bne_iff_ne]; omega
          rw [hXn]
          clear ht hX7 hO7 hgood hXe hXn hXl hsame hwhole hcl
          go_wp2_with (go_at_call 10; refine (num_any _ _).mono ?_; rintro e w' ⟨rfl, rfl⟩)
          refine HS.out.mono ?_; rintro e W8 ⟨rfl, hb8⟩
          have HB8 := Lib.hid (O7.out.2.2.trans (hb8.mono (O7.out.size (Nat.le_refl _))))
          clear hb8 HS
          go_wp2_with fail
          go_ret
          exact ⟨rfl, HB8.out⟩

set_option maxRecDepth 100000 in
theorem lifted (os : Os) (started : os.Started) (H : Type) (enc : TypeId × Value → H) :
    ReturnsInHanded {} Tryd.checked os 5 .any (fun w args => (Rows.walTornSpec.pre enc Tryd.prog Tryd.f5 Rows.walTornRow.domain false w args ∧ laidMetH Tryd.prog Rows.walTornRow.laid w) ∧ sizedMet enc Tryd.prog Tryd.f5 (OpenSpec.ofChange Rows.walTornSpec) false w args) (Rows.walTornSpec.post enc Tryd.prog Tryd.f5 false true false false) := by
  refine lift_laid (C := Tryd.checked) Rows.walTornRow.laid own started (by kernel_rfl) Tryd.func5
    (ChangeSpec.witness_shaped (enc := enc) (C := Tryd.checked) (os := os) (X := fun w _ => laidMetH Tryd.prog Rows.walTornRow.laid w) false (World.laidAll Tryd.prog os Rows.walTornRow.laid) #[.slice none 0 0, .int .i64 0] 8 (World.laidAll_os _ _ _)
      (World.shaped_of_ZipB (by kernel_rfl) (by kernel_rfl)) (by kernel_rfl) (by kernel_rfl) (by kernel_rfl)
      (by rw [MakeChecks.laidMetH_plain _ _ _ (by kernel_rfl)]; exact laidMet_laidAll _ (by kernel_rfl) (by kernel_rfl)))
    (by kernel_rfl) (by kernel_rfl) (by kernel_rfl) Tryd.underlying4 rfl ?_ ?_
  · intro ds hds
    match ds, hds with
    | [d1, d2], _ => exact ⟨rfl, rfl, rfl⟩
  · intro W base args ds p hval0 hA0 hlt _
    have hval : ∀ (j : Nat) t v, Tryd.f5.params[j]? = some t → args[j]? = some v → Value.okWide Tryd.prog W .any base t v := hval0
    have hA : DataW.TrodAll enc Tryd.prog W 0 (fun _ => true) true Tryd.f5.params.toList args.toList ds p := hA0
    rw [Tryd.params5] at hA hval
    obtain ⟨v0, vs0, d0, ds0, p0, q0, hargs, rfl, rfl, h0, r0⟩ := trodAll_cons hA
    obtain ⟨v1, vs1, d1, ds1, p1, q1, rfl, rfl, rfl, h1, r1⟩ := trodAll_cons r0
    obtain ⟨rfl, rfl, rfl⟩ := trodAll_nil r1
    obtain rfl : args = #[v0, v1] := by cases args; simp_all
    obtain ⟨A0, c0, L0, rfl, hB0⟩ := Wl.open_bats (hval 0 _ v0 rfl rfl) h0 (fun x hx => hlt x (by simp [hx]))
    obtain ⟨a1, rfl, rfl, rfl, w1⟩ := open_int Tryd.underlying3 (hval 1 _ v1 rfl rfl) h1
    have b1 := i64_of w1
    by_cases hno : L0.length < 1 ∨ 8 < L0.length ∨ a1 < 0
    · exact walk_no A0 c0 L0 a1 W hB0.len hB0.cap hno
    · obtain ⟨y, rfl⟩ : ∃ y : Nat, a1 = (y : Int) := ⟨a1.toNat, by omega⟩
      exact walk A0 c0 L0 y W (by omega) hB0 (by omega) (by omega)

theorem over : Rows.walTornRow.holds Tryd.pinned (OpenSpec.ofChange Rows.walTornSpec) :=
  OpenClaim.holds_of_wide 5 Tryd.f5 rfl rfl rfl rfl rfl rfl rfl ⟨rfl, rfl, rfl, rfl, rfl⟩ rfl rfl rfl rfl rfl (by kernel_rfl) Tryd.func5 (by kernel_rfl)
    (of_decide_eq_true (by kernel_rfl)) (by unfold Func.isWrapper; first | (rw [if_pos (by decide +kernel)]; kernel_rfl) | (rw [if_neg (by decide +kernel)]; exact ⟨rfl, rfl⟩))
    (fun os started H enc _ => lifted os started H enc)

theorem proved : Rows.WalTornCardSaid :=
  Claim7.holds_tied_plain_at .later [] [.data, .pinned] true (true, "9135fcd2997674462ee1da01a42a203beea67bef0b367cb95a1ef7ad6c7c8d61") false over (fun _ h => by cases h) (by kernel_rfl) (fun _ h => by cases h) walTorn_row_tie rfl ⟨rfl, rfl⟩ (by kernel_rfl) rfl
    (fun f fn hf hfn => by
      obtain rfl : f = 5 := Option.some.inj ((show Tryd.prog.funcNamed Rows.walTornRow.func = some 5 by kernel_rfl).symm.trans hf) |>.symm
      obtain rfl : fn = Tryd.f5 := (Option.some.inj (Tryd.func5.symm.trans hfn)).symm
      exact ⟨by kernel_rfl, fun j t ht => by
        rw [Tryd.params5] at ht
        have hm : t ∈ [22, 3] := by simpa using Array.mem_of_getElem? ht
        have hall : ([22, 3].all fun u => !Tryd.prog.wantsStandIn u) = true := by kernel_rfl
        exact (show Tryd.prog.wantsStandIn t = false by simpa using List.all_eq_true.1 hall t hm)⟩)
    (by kernel_rfl)
#print axioms proved
end Go.Proofs.YtnbknihaefkllaaDoor.walTorn
