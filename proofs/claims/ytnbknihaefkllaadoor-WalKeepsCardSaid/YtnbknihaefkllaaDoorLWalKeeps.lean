/- Proved: for any batches and any integers, WalKeeps of butterylaw8 answers true (after a crash at least the batches up to the last synced one are recovered, and what is recovered is a prefix of the batches), and its arguments read as before. Conditions: none beyond what the given card states: the two tables of the standard library that it ties hold what the program text lays. -/
import Derived.Test.YtnbknihaefkllaaDoorM3
import Derived.Deep.QuietTactic
import Derived.BigQuiet
import Derived.Test.YtnbknihaefkllaaDoorTie
import Derived.Test.YtnbknihaefkllaaDoorCards
import Derived.SevenTiedAt
namespace Go.Proofs.YtnbknihaefkllaaDoor.walKeeps
set_option linter.unusedVariables false
set_option linter.unusedSimpArgs false
open Go.ChangeShapes Go.WideShapes Go.ChangeAt Go.RowKit Lift Ik Dk Wl
open Bt (O D Ops OpsP opsO readB bytesE rbytes_any chk_parts)

theorem own : ownKnob Tryd.prog.godebug = none := by kernel_rfl

set_option maxHeartbeats 800000 in
theorem walk_no (A : Option Addr) (c : Nat) (L : List G) (sy kp : Int) (w : World) (hc : L.length ≤ c) (hm : c ≤ maxLen) (h : 10 < L.length ∨ sy < 0 ∨ (L.length : Int) < sy) : Calls Tryd.prog 3 #[.slice A L.length c, .int .i64 sy, .int .i64 kp] w (Wl.Yes w) := by
  unfold maxLen at hm
  by_cases h1 : 10 < L.length
  · go_enter Tryd.func3, Tryd.ntmps3
    go_wp2_with fail
    refine (alive_any _).mono ?_; rintro e W1 ⟨rfl, hb1⟩
    have HB1 := Lib.hid hb1
    clear hb1
    go_wp2_with fail
    go_ret
    exact ⟨rfl, HB1.out⟩
  · by_cases h2 : sy < 0
    · go_enter Tryd.func3, Tryd.ntmps3
      go_wp2_with fail
      refine (alive_any _).mono ?_; rintro e W1 ⟨rfl, hb1⟩
      have HB1 := Lib.hid hb1
      clear hb1
      go_wp2_with fail
      go_ret
      exact ⟨rfl, HB1.out⟩
    · have h3 : (L.length : Int) < sy := by omega
      go_enter Tryd.func3, Tryd.ntmps3
      go_wp2_with fail
      refine (alive_any _).mono ?_; rintro e W1 ⟨rfl, hb1⟩
      have HB1 := Lib.hid hb1
      clear hb1
      go_wp2_with fail
      go_ret
      exact ⟨rfl, HB1.out⟩
theorem boF (L : List G) {j : Nat} {d : G} (h : L[j]? = some d) : (L.map G.o).take (j + 1) = (L.map G.o).take j ++ [d.o] := by rw [List.take_add_one, List.getElem?_map, h]; rfl
theorem lastF (L : List BO) {j : Nat} {d : BO} (h : L.take (j + 1) = L.take j ++ [d]) (last : Nat) : lastOf (L.take (j + 1)) last = d.1 + d.2.length - 1 := by rw [h, lastOf_snoc]
theorem cut_bats (A : Option Addr) (n c k : Nat) (h : k ≤ c) (hc : n ≤ c) (hm : c ≤ maxLen) (W : World) : Sem.run Tryd.prog (Instr.slice 22 (.slice A n c) none (some (.int .i64 (k : Int))) none) W = .ok (.slice A k c) W := by
  unfold maxLen at hm
  go_simp
/-- What is synced behind j appends. -/
def syn (L : List BO) (y j : Nat) : Nat := if 1 ≤ y ∧ y ≤ j then (logB (L.take y)).length else 0
theorem syn_next (L : List BO) (y j : Nat) : syn L y (j + 1) = if decide (j + 1 = y) = true then (logB (L.take (j + 1))).length else syn L y j := by
  unfold syn
  by_cases h : j + 1 = y
  · subst h
    rw [if_pos ⟨by omega, Nat.le_refl _⟩, if_pos (by simp)]
  · rw [if_neg (show ¬ decide (j + 1 = y) = true by simpa using h)]
    by_cases h2 : 1 ≤ y ∧ y ≤ j
    · rw [if_pos ⟨h2.1, by omega⟩, if_pos h2]
    · rw [if_neg (by omega), if_neg h2]
/-- What is recovered behind the crash. -/
theorem behind (L : List BO) (y : Nat) (kp : Int) (hr : rises L 0) (hy : y ≤ L.length) {X : List BO} {cl : Nat} (h : recR ((logB L).take (syn L y L.length + kp.toNat)) X cl) : cl ≠ 2 ∧ y ≤ X.length ∧ X.length ≤ L.length ∧ X = L.take X.length := by
  obtain ⟨T, hT⟩ : ∃ T, T = min (syn L y L.length + kp.toNat) (logB L).length := ⟨_, rfl⟩
  have e : (logB L).take (syn L y L.length + kp.toNat) = (logB L).take T := by
    rw [hT, List.take_eq_take_iff]
    omega
  obtain ⟨j, n, c, h1, h2, h3, h4, h5, h6⟩ := log_torn L T (by omega)
  rw [e] at h
  obtain ⟨rfl, rfl⟩ := recR_det h (recR_good (rises_take L 0 j hr) h6)
  have hl : (L.take j).length = j := by rw [List.length_take]; omega
  refine ⟨h2, ?_, by omega, by rw [hl]⟩
  rw [hl]
  rcases Nat.lt_or_ge j y with hlt | hge
  · have hs : syn L y L.length = (logB (L.take y)).length := by unfold syn; rw [if_pos ⟨by omega, hy⟩]
    have hm := logB_mono L (i := j + 1) (j := y) (by omega)
    have hle := (logB_take L y).length_le
    have := h4 (by omega)
    omega
  · exact hge
set_option maxRecDepth 100000 in
set_option maxHeartbeats 3200000 in
theorem walk (A : Option Addr) (c : Nat) (L : List G) (y : Nat) (kp : Int) (w : World) (hB : Bats w w.heap.size A c L) (hkp : (Lit.int .i64 kp).wf = true) (h10 : L.length ≤ 10) (hy : y ≤ L.length) : Calls Tryd.prog 3 #[.slice A L.length c, .int .i64 (y : Int), .int .i64 kp] w (Wl.Yes w) := by
  have HB := Lib.hid hB
  have HKP := Lib.hid hkp
  have hLc := hB.len
  have HCM := Lib.hid hB.cap
  have hLm := hB.cap
  unfold maxLen at hLm
  clear hB hkp
  go_enter Tryd.func3, Tryd.ntmps3
  go_wp2_with fail
  refine (alive_any _).mono ?_; rintro e W1 ⟨rfl, hb1⟩
  have HB1 := Lib.hid hb1
  clear hb1
  go_wp2_with fail
  refine (new_own 16777216 (by decide) W1 HB1.out.size HB1.out).mono ?_
  rintro e W2 ⟨g, S2, rfl, hO2, _, _, _⟩
  have O2 := Lib.hid (show Own w.heap.size w W2 g S2 (st 16777216 [] 0) from hO2)
  clear hO2
  go_wp2_with fail
  go_loopw [9, 10] (fun la i wr => ∃ (j last : Nat) (S : Nat → Prop), i = .int .i64 (j : Int) ∧ la = .int .u64 (last : Int) ∧ j ≤ L.length ∧ last < 72057594037927936 ∧ Hid (last = lastOf ((L.map G.o).take j) 0) ∧ Hid (Own w.heap.size w wr g S (st 16777216 ((L.map G.o).take j) (syn (L.map G.o) y j))) ∧ Hid (rises ((L.map G.o).take j) 0))
    (fun _ i _ => L.length + 1 - (intOf i).toNat)
  case atStart => exact ⟨0, 0, S2, rfl, rfl, by omega, by omega, Lib.hid rfl, Lib.hid (by simpa [syn, st_nil] using O2.out), Lib.hid trivial⟩
  case round =>
    obtain ⟨j, last, S, rfl, rfl, hj, hll, hlast, O, hr⟩ := hrel
    have hbw := O.out.2.2
    have HBW := Lib.hid hbw
    by_cases hlt : j < L.length
    · have dl : decide (j < L.length) = true := decide_eq_true hlt
      obtain ⟨d, hd⟩ : ∃ d, L[j]? = some d := ⟨_, List.getElem?_eq_getElem hlt⟩
      obtain ⟨ad, p, hA, hz, hl⟩ := HB.out.load (w' := w) hd
      subst hA
      have HD := Lib.hid hd
      have HL := Lib.hid hl
      have hds := HB.out.num hd
      have HO := Lib.hid fun (w' : World) (hb : Below w.heap.size w w') => ((HB.out.below hb).ops hd).up hb.size
      have HBT := Lib.hid (rbytes_any d.s d.a d.c d.l wr hds (HO.out wr hbw))
      obtain ⟨r0, r1, r2⟩ := hl wr hbw
      clear hd hbw hl
      go_wp2_with fail
      refine HBT.out.mono ?_
      rintro e W3 ⟨v3, rfl, _, hb3⟩
      have HB3 := Lib.hid (HBW.out.trans (hb3.mono HBW.out.size))
      have HX3 := Lib.hid hb3
      obtain ⟨q0, q1, q2⟩ := HL.out W3 HB3.out
      have hfit := fun h => fits_of (s := d.s) (l := opsO d.l) h
      have hchk := fun h => chk_parts (chk_of (s := d.s) (l := opsO d.l) h)
      have hol : (opsO d.l).length = d.l.length := by simp [opsO]
      have hth := bytesE_small d.s (opsO d.l)
      clear hb3 r0 r1 r2 HBT
      by_cases k1 : bytesE d.s (opsO d.l) = 0
      · by_cases k2 : d.s ≤ last
        · have d2 : decide (d.s ≤ last) = true := decide_eq_true k2
          rw [k1]
          clear k2 hfit hchk hth
          go_wp2_with fail
          go_ret
          exact ⟨rfl, HB3.out⟩
        · have d2 : decide (d.s ≤ last) = false := decide_eq_false k2
          obtain ⟨f1, f2⟩ := hfit k1
          obtain ⟨f3, f4, _⟩ := hchk k1
          rw [hol] at f2 f3 f4
          have K1 := Lib.hid k1
          have K2 := Lib.hid k2
          rw [k1]
          clear k1 hfit hchk hth q0
          go_wp2_with fail
          go_quiet (fail)
          generalize hWq : W3.drewN _ = W4
          have hb4 : Below W3.heap.size W3 W4 := by rw [← hWq]; exact Joins.below_draws _ _ _
          have O4 := Lib.hid (own_later' (own_later' O.out HBW.out.size HX3.out) HB3.out.size hb4)
          obtain ⟨t0, t1, t2⟩ := HL.out W4 O4.out.2.2
          have HE := Lib.hid (boF L HD.out)
          have HOP := Lib.hid (HO.out W4 O4.out.2.2)
          have HR5 := Lib.hid (show rises ((L.map G.o).take (j + 1)) 0 by
            rw [HE.out]
            refine rises_snoc _ _ _ hr.out K1.out ?_
            rw [← hlast.out]
            exact Nat.lt_of_not_le K2.out)
          have hlog : (logB ((L.map G.o).take (j + 1))).length ≤ 16777216 := by
            have h1 := logB_len (m := 440012) (L := (L.map G.o).take (j + 1)) fun b hb => encP_len (rises_ok _ _ HR5.out b hb)
            rw [List.length_take, List.length_map] at h1
            have h2 : min (j + 1) L.length ≤ 10 := by omega
            have h3 := Nat.mul_le_mul_left (21 + 2 * 440012) h2
            omega
          have ew : walM (st 16777216 ((L.map G.o).take j) (syn (L.map G.o) y j)) lN d.s (opsO d.l) (decide (j + 1 = y)) = (0, st 16777216 ((L.map G.o).take (j + 1)) (syn (L.map G.o) y (j + 1))) := by
            rw [HE.out, syn_next, HE.out]
            rw [HE.out] at hlog
            refine wal_step 16777216 ((L.map G.o).take j) (syn (L.map G.o) y j) d.o (decide (j + 1 = y)) K1.out ?_ hlog hlog
            intro h0
            have h1 := congrArg List.length h0
            rw [List.length_take, List.length_map, List.length_nil] at h1
            unfold syn
            rw [if_neg (by omega)]
          have HA := Lib.hid (wapp_any lN d.s d.a d.c d.l (decide (j + 1 = y)) O4.out.1 (by rw [st_failed]; decide) hds HOP.out)
          rw [ew] at HA
          have HLS := Lib.hid (show d.s + d.l.length - 1 = lastOf ((L.map G.o).take (j + 1)) 0 by
            rw [HE.out, lastOf_snoc]
            show _ = d.s + (opsO d.l).length - 1
            rw [hol])
          clear hWq hb4 hlog ew q1 q2 hlast hol
          rcases (show (j + 1 = y ∧ ((j : Int) + 1 == (y : Int)) = true ∧ decide (j + 1 = y) = true) ∨ (j + 1 ≠ y ∧ ((j : Int) + 1 == (y : Int)) = false ∧ decide (j + 1 = y) = false) by
            by_cases h : j + 1 = y
            · exact .inl ⟨h, by rw [beq_iff_eq]; omega, decide_eq_true h⟩
            · exact .inr ⟨h, by rw [beq_eq_false_iff_ne]; omega, decide_eq_false h⟩) with ⟨k5, d5, d6⟩ | ⟨k5, d5, d6⟩
          all_goals
            rw [d6] at HA
            clear k5 d6
            go_wp2_with fail
            refine HA.out.mono ?_
            intro e W5 ht
            obtain ⟨S5, rfl, hO5, _, _⟩ := O4.out.told (O4.out.size (Nat.le_refl _)) ht
            have O5 := Lib.hid hO5
            clear ht hO5 HA t0 t1 t2
            go_wp2_with (go_at_call 10; refine (num_any _ _).mono ?_; rintro e w' ⟨rfl, rfl⟩)
            go_roundw
            case rel => exact ⟨j + 1, d.s + d.l.length - 1, S5, by go_num, by go_num, by omega, by omega, HLS, O5, HR5⟩
            case measure => simp [intOf]; omega
      · have d1 : ((bytesE d.s (opsO d.l) : Int) != 0) = true := by rw [bne_iff_ne]; omega
        clear k1 hfit hchk hth
        go_wp2_with fail
        go_ret
        exact ⟨rfl, HB3.out⟩
    · obtain rfl : j = L.length := by omega
      have dl : decide (L.length < L.length) = false := decide_eq_false (by omega)
      have HR := Lib.hid (show rises (L.map G.o) 0 by
        have h := hr.out
        rw [List.take_of_length_le (by simp)] at h
        exact h)
      have OL := Lib.hid (show Own w.heap.size w wr g S (st 16777216 (L.map G.o) (syn (L.map G.o) y L.length)) by
        have h := O.out
        rw [List.take_of_length_le (by simp)] at h
        exact h)
      clear hlast hr O
      go_wp2_with fail
      refine (crash_any kp HKP.out OL.out.1).mono ?_
      intro e W6 ht
      obtain ⟨S6, rfl, hO6, _, _⟩ := OL.out.done (OL.out.size (Nat.le_refl _)) ht
      clear ht
      by_cases h0 : L.length = 0
      · have hL0 : L = [] := List.eq_nil_of_length_eq_zero h0
        subst hL0
        have O6 : Hid (Own w.heap.size w W6 g S6 (bare 16777216)) := Lib.hid hO6
        clear hO6 h0
        go_wp2_with fail
        refine (rec_any lN O6.out.1 (by decide)).mono ?_
        intro e W7 ht
        obtain ⟨A7, c7, X7, cl7, rfl, _, hO7, _, hbad, _⟩ := own_rec O6.out (O6.out.size (Nat.le_refl _)) ht
        rw [cont_bare] at hO7 hbad ⊢
        obtain ⟨rfl, rfl⟩ := hbad (by decide)
        have O7 := Lib.hid hO7
        clear ht hO7 hbad
        go_wp2_with (go_at_call 10; refine (num_any _ _).mono ?_; rintro e w' ⟨rfl, rfl⟩)
        go_ret
        exact ⟨rfl, O7.out.2.2⟩
      · have hne : L.map G.o ≠ [] := fun h => h0 (by simpa using congrArg List.length h)
        rw [st_some hne, crash_one] at hO6
        have O6 := Lib.hid hO6
        have d0 : ((L.length : Int) == 0) = false := by rw [beq_eq_false_iff_ne]; omega
        clear hO6
        go_wp2_with fail
        refine (rec_any lN O6.out.1 (show 0 ≤ 900000 by decide)).mono ?_
        intro e W7 ht
        obtain ⟨A7, c7, X7, cl7, rfl, hX7, hO7, _, _, hgood⟩ := own_rec O6.out (O6.out.size (Nat.le_refl _)) ht
        rw [cont_one] at hO7 hgood ⊢
        have hbe := hgood rfl
        simp only [show L.length = (L.map G.o).length by simp] at hbe
        obtain ⟨b1, b2, b3, b4⟩ := behind (L.map G.o) y kp HR.out (by simpa using hy) hbe
        simp only [List.length_map] at b2 b3
        rw [List.length_map, ← List.map_take] at b4
        have hcut := cut_bats A L.length c X7.length (by omega) hLc HCM.out
        have hXl : (L.take X7.length).length = X7.length := by rw [List.length_take]; omega
        have hsame := same_bats A7 A c7 c X7 (L.take X7.length) W7 (hX7.bats fun k hk => hk.2.2) (((HB.out.below hO7.2.2).up hO7.2.2.size).front (List.take_prefix _ _)) b4 (by omega)
        rw [hXl] at hsame
        have HS := Lib.hid hsame
        have O7 := Lib.hid hO7
        have d7 : ((cl7 : Int) != 2) = true := by rw [bne_iff_ne]; omega
        clear ht hX7 hO7 hgood hbe b1 b4 hXl hsame
        generalize X7.length = x at *
        have d8 : decide (y ≤ x) = true := decide_eq_true b2
        have d9 : decide (x ≤ L.length) = true := decide_eq_true b3
        go_wp2_with (go_at_call 10; refine (num_any _ _).mono ?_; rintro e w' ⟨rfl, rfl⟩)
        refine HS.out.mono ?_; rintro e W8 ⟨rfl, hb8⟩
        have HB8 := Lib.hid (O7.out.2.2.trans (hb8.mono (O7.out.size (Nat.le_refl _))))
        clear hb8 HS
        go_wp2_with fail
        go_ret
        exact ⟨rfl, HB8.out⟩

set_option maxRecDepth 100000 in
theorem lifted (os : Os) (started : os.Started) (H : Type) (enc : TypeId × Value → H) :
    ReturnsInHanded {} Tryd.checked os 3 .any (fun w args => (Rows.walKeepsSpec.pre enc Tryd.prog Tryd.f3 Rows.walKeepsRow.domain false w args ∧ laidMetH Tryd.prog Rows.walKeepsRow.laid w) ∧ sizedMet enc Tryd.prog Tryd.f3 (OpenSpec.ofChange Rows.walKeepsSpec) false w args) (Rows.walKeepsSpec.post enc Tryd.prog Tryd.f3 false true false false) := by
  refine lift_laid (C := Tryd.checked) Rows.walKeepsRow.laid own started (by kernel_rfl) Tryd.func3
    (ChangeSpec.witness_shaped (enc := enc) (C := Tryd.checked) (os := os) (X := fun w _ => laidMetH Tryd.prog Rows.walKeepsRow.laid w) false (World.laidAll Tryd.prog os Rows.walKeepsRow.laid) #[.slice none 0 0, .int .i64 0, .int .i64 0] 8 (World.laidAll_os _ _ _)
      (World.shaped_of_ZipB (by kernel_rfl) (by kernel_rfl)) (by kernel_rfl) (by kernel_rfl) (by kernel_rfl)
      (by rw [MakeChecks.laidMetH_plain _ _ _ (by kernel_rfl)]; exact laidMet_laidAll _ (by kernel_rfl) (by kernel_rfl)))
    (by kernel_rfl) (by kernel_rfl) (by kernel_rfl) Tryd.underlying4 rfl ?_ ?_
  · intro ds hds
    match ds, hds with
    | [d1, d2, d3], _ => exact ⟨rfl, rfl, rfl⟩
  · intro W base args ds p hval0 hA0 hlt _
    have hval : ∀ (j : Nat) t v, Tryd.f3.params[j]? = some t → args[j]? = some v → Value.okWide Tryd.prog W .any base t v := hval0
    have hA : DataW.TrodAll enc Tryd.prog W 0 (fun _ => true) true Tryd.f3.params.toList args.toList ds p := hA0
    rw [Tryd.params3] at hA hval
    obtain ⟨v0, vs0, d0, ds0, p0, q0, hargs, rfl, rfl, h0, r0⟩ := trodAll_cons hA
    obtain ⟨v1, vs1, d1, ds1, p1, q1, rfl, rfl, rfl, h1, r1⟩ := trodAll_cons r0
    obtain ⟨v2, vs2, d2, ds2, p2, q2, rfl, rfl, rfl, h2, r2⟩ := trodAll_cons r1
    obtain ⟨rfl, rfl, rfl⟩ := trodAll_nil r2
    obtain rfl : args = #[v0, v1, v2] := by cases args; simp_all
    obtain ⟨A0, c0, L0, rfl, hB0⟩ := Wl.open_bats (hval 0 _ v0 rfl rfl) h0 (fun x hx => hlt x (by simp [hx]))
    obtain ⟨a1, rfl, rfl, rfl, w1⟩ := open_int Tryd.underlying3 (hval 1 _ v1 rfl rfl) h1
    have b1 := i64_of w1
    obtain ⟨a2, rfl, rfl, rfl, w2⟩ := open_int Tryd.underlying3 (hval 2 _ v2 rfl rfl) h2
    have b2 := i64_of w2
    by_cases hno : 10 < L0.length ∨ a1 < 0 ∨ (L0.length : Int) < a1
    · exact walk_no A0 c0 L0 a1 a2 W hB0.len hB0.cap hno
    · obtain ⟨y, rfl⟩ : ∃ y : Nat, a1 = (y : Int) := ⟨a1.toNat, by omega⟩
      exact walk A0 c0 L0 y a2 W hB0 w2 (by omega) (by omega)

theorem over : Rows.walKeepsRow.holds Tryd.pinned (OpenSpec.ofChange Rows.walKeepsSpec) :=
  OpenClaim.holds_of_wide 3 Tryd.f3 rfl rfl rfl rfl rfl rfl rfl ⟨rfl, rfl, rfl, rfl, rfl⟩ rfl rfl rfl rfl rfl (by kernel_rfl) Tryd.func3 (by kernel_rfl)
    (of_decide_eq_true (by kernel_rfl)) (by unfold Func.isWrapper; first | (rw [if_pos (by decide +kernel)]; kernel_rfl) | (rw [if_neg (by decide +kernel)]; exact ⟨rfl, rfl⟩))
    (fun os started H enc _ => lifted os started H enc)

theorem proved : Rows.WalKeepsCardSaid :=
  Claim7.holds_tied_plain_at .later [] [.data, .pinned] true (true, "9135fcd2997674462ee1da01a42a203beea67bef0b367cb95a1ef7ad6c7c8d61") false over (fun _ h => by cases h) (by kernel_rfl) (fun _ h => by cases h) walKeeps_row_tie rfl ⟨rfl, rfl⟩ (by kernel_rfl) rfl
    (fun f fn hf hfn => by
      obtain rfl : f = 3 := Option.some.inj ((show Tryd.prog.funcNamed Rows.walKeepsRow.func = some 3 by kernel_rfl).symm.trans hf) |>.symm
      obtain rfl : fn = Tryd.f3 := (Option.some.inj (Tryd.func3.symm.trans hfn)).symm
      exact ⟨by kernel_rfl, fun j t ht => by
        rw [Tryd.params3] at ht
        have hm : t ∈ [22, 3, 3] := by simpa using Array.mem_of_getElem? ht
        have hall : ([22, 3, 3].all fun u => !Tryd.prog.wantsStandIn u) = true := by kernel_rfl
        exact (show Tryd.prog.wantsStandIn t = false by simpa using List.all_eq_true.1 hall t hm)⟩)
    (by kernel_rfl)
#print axioms proved
end Go.Proofs.YtnbknihaefkllaaDoor.walKeeps
