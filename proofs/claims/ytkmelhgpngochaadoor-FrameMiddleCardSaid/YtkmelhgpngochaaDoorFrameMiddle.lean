/- Proved: for any two numbers and any byte, FrameMiddle of butterylaw7 answers true (a record that is longer than blocks is read back whole behind another one, wherever it begins), and its arguments read as before. Conditions: none beyond what the given row states. -/
import Derived.Test.YtkmelhgpngochaaDoorFlaw7
import Derived.Test.YtkmelhgpngochaaDoorLaid
import Derived.Test.YtkmelhgpngochaaDoorTie
import Derived.Test.YtkmelhgpngochaaDoorCards
import Derived.SevenTiedAt
namespace Go.Proofs.YtkmelhgpngochaaDoor.frameMiddle
set_option linter.unusedVariables false
set_option linter.unusedSimpArgs false
open Go.ChangeShapes Go.WideShapes Go.ChangeAt Go.RowKit Lift Ik Sq Fr

theorem own : ownKnob Tryd.prog.godebug = none := by kernel_rfl

theorem own_at {w : World} {base size n : Nat} {e : TypeId} {v : Value} {xs : List Value} (h : w.ownsRow base e size v n xs) : w.ownsRow base e size v n xs := h
theorem i64_and63 (n : Int) : bits .and .i64 n 63 = n % 64 := by
  have h7 : (BitVec.ofInt 64 63).toNat = 2 ^ 6 - 1 := by decide
  have key : (BitVec.ofInt 64 n &&& BitVec.ofInt 64 63).toNat = (n % ((2 ^ 64 : Nat) : Int)).toNat % 2 ^ 6 := by
    rw [BitVec.toNat_and, BitVec.toNat_ofInt, h7, Nat.and_two_pow_sub_one_eq_mod]
  show IntKind.i64.wrap ((BitVec.ofInt 64 n &&& BitVec.ofInt 64 63).toNat : Nat) = n % 64
  rw [key, IntKind.wrap_i64]
  omega
/-- The record. -/
def rec (n c : Nat) : List Nat := (List.range n).map fun i => (c + i % 64) % 256
theorem rec_length (n c : Nat) : (rec n c).length = n := by simp [rec]
theorem rec_at {n c k : Nat} (h : k < n) : ((rec n c).map vb)[k]? = some (.int .u8 (((c : Int) + (k : Int) % 64) % 256)) := by
  have e : (((c + k % 64) % 256 : Nat) : Int) = ((c : Int) + (k : Int) % 64) % 256 := by omega
  unfold rec
  rw [List.getElem?_map, List.getElem?_map, List.getElem?_range h, ← e]
  rfl
theorem rec_byte (n c : Nat) : ∀ x, x ∈ rec n c → x < 256 := by
  intro x hx
  obtain ⟨i, _, rfl⟩ := List.mem_map.1 hx
  exact Nat.mod_lt _ (by decide)
set_option maxHeartbeats 800000 in
theorem walk_no (s n : Int) (c : Nat) (w : World) (h : s < 0 ∨ 300 < s ∨ n < 0 ∨ 1000 < n) : Calls Tryd.prog 9 #[.int .i64 s, .int .i64 n, .int .u8 (c : Int)] w (Yes w) := by
  by_cases h1 : s < 0
  · go_enter Tryd.func9, Tryd.ntmps9
    go_wp2_with fail
    refine (alive_any _).mono ?_; rintro e W1 ⟨rfl, hb1⟩
    have HB1 := Lib.hid hb1
    clear hb1
    go_wp2_with fail
    go_ret
    exact ⟨rfl, HB1.out⟩
  · by_cases h2 : 300 < s
    · go_enter Tryd.func9, Tryd.ntmps9
      go_wp2_with fail
      refine (alive_any _).mono ?_; rintro e W1 ⟨rfl, hb1⟩
      have HB1 := Lib.hid hb1
      clear hb1
      go_wp2_with fail
      go_ret
      exact ⟨rfl, HB1.out⟩
    · by_cases h3 : n < 0
      · go_enter Tryd.func9, Tryd.ntmps9
        go_wp2_with fail
        refine (alive_any _).mono ?_; rintro e W1 ⟨rfl, hb1⟩
        have HB1 := Lib.hid hb1
        clear hb1
        go_wp2_with fail
        go_ret
        exact ⟨rfl, HB1.out⟩
      · have h4 : 1000 < n := by omega
        go_enter Tryd.func9, Tryd.ntmps9
        go_wp2_with fail
        refine (alive_any _).mono ?_; rintro e W1 ⟨rfl, hb1⟩
        have HB1 := Lib.hid hb1
        clear hb1
        go_wp2_with fail
        go_ret
        exact ⟨rfl, HB1.out⟩
set_option maxRecDepth 100000 in
set_option maxHeartbeats 3200000 in
theorem walk (s n c : Nat) (w : World) (hs : s ≤ 300) (hn : n ≤ 1000) (hc : c < 256) : Calls Tryd.prog 9 #[.int .i64 (s : Int), .int .i64 (n : Int), .int .u8 (c : Int)] w (Yes w) := by
  have hm1 := fun W => (make_own n (by omega) W).1
  have hm2 := fun W => (make_own s (by omega) W).1
  have HM2 := Lib.hid fun W => (make_own s (by omega) W).2
  go_enter Tryd.func9, Tryd.ntmps9
  go_wp2_with fail
  refine (alive_any _).mono ?_; rintro e W1 ⟨rfl, hb1⟩
  have HB1 := Lib.hid hb1
  clear hb1
  go_wp2_with fail
  have HF := Lib.hid (Filled.start W1 (.int .u8 0) n 5 ((rec n c).map vb))
  have HB2 := Lib.hid (HB1.out.trans ((Joins.below_alloc1 W1 (.cells (madeCells #[.int .u8 0] n) 5)).mono HB1.out.size))
  have hg0 := HB1.out.size
  generalize hg : W1.heap.size = g at *
  clear hg
  generalize W1.alloc (.cells (madeCells #[.int .u8 0] n) 5) = W2 at *
  go_loopw [9] (fun i wr => ∃ k : Nat, i = .int .i64 k ∧ k ≤ n ∧ Hid (Filled wr g n k 5 ((rec n c).map vb)) ∧ Hid (Below w.heap.size w wr)) (fun i _ => 2000 - (intOf i).toNat)
  case atStart => exact ⟨0, rfl, by omega, HF, HB2⟩
  case round =>
    clear HF HB2
    obtain ⟨k, rfl, hk, hf, hb⟩ := hrel
    by_cases hlt : k < n
    · obtain ⟨u, hu⟩ := hf.out.cell hlt
      have hfr := hf.out.free k
      have e1 := i64_and63 (k : Int)
      have HV := Lib.hid (rec_at (c := c) hlt)
      have dl : decide (k < n) = true := decide_eq_true hlt
      go_wp2_with fail
      go_roundw
      case rel => exact ⟨k + 1, by go_num, by omega, Lib.hid (hf.out.next hlt HV.out), Lib.hid (hb.out.setCell hg0 _)⟩
      case measure => simp [intOf]; omega
    · obtain rfl : k = n := by omega
      have HO := Lib.hid (hf.out.own hg0 (by rw [List.length_map, rec_length]) (by unfold maxLen; omega))
      have HR8 := Lib.hid (rec_byte k c)
      have HRL := Lib.hid (rec_length k c)
      have dl : decide (k < k) = false := by simp
      clear hf
      generalize rec k c = r at *
      have HLR := Lib.hid (Lies.of_own HO.out)
      go_wp2_with fail
      have hba := Joins.below_alloc1 wr (.cells (madeCells #[.int .u8 0] s) 5)
      have hoa := HM2.out wr
      rw [List.length_replicate] at hoa
      have HLA := Lib.hid (Lies.of_own hoa)
      clear hoa
      have HB3 := Lib.hid (hb.out.trans (hba.mono hb.out.size))
      have HLR3 := Lib.hid ((HLR.out.below hba).up hba.size)
      have hzl : (List.replicate s 0).length = s := List.length_replicate
      have hz8 : ∀ x, x ∈ List.replicate s 0 → x < 256 := fun x hx => by rw [List.mem_replicate] at hx; omega
      clear hba HM2 HO HLR hm1 hm2
      generalize hZ : List.replicate s 0 = z at *
      clear hZ
      generalize wr.alloc (.cells (madeCells #[.int .u8 0] s) 5) = W3 at *
      generalize wr.heap.size = ga at *
      have hP1 := put_any 0 (some ⟨ga, 0, none⟩) s z W3 (by decide) HLA.out (by omega) (by unfold maxLen; omega) (by omega) hz8
      rw [show (0 : Int).toNat = 0 from rfl, hzl] at hP1
      have HP1 := Lib.hid hP1
      clear hP1
      refine HP1.out.mono ?_
      rintro e W4 ⟨v4, rfl, ho4, hb4⟩
      obtain ⟨A4, c4, rfl, q1, q2, q3⟩ := own_parts ho4
      have HB4 := Lib.hid (HB3.out.trans (hb4.mono HB3.out.size))
      have HLA4 := Lib.hid ((HLA.out.below hb4).up hb4.size)
      have HLR4 := Lib.hid ((HLR3.out.below hb4).up hb4.size)
      have hpl0 := (put_len 0 z).2
      have hP2 := put_any ((put 0 z).length : Int) (some ⟨g, 0, none⟩) k r W4 (by omega) (by exact HLR4.out) (by rw [HRL.out]; exact Nat.le_refl _) (by unfold maxLen; omega) (by rw [HRL.out]; omega) HR8.out
      rw [show (((put 0 z).length : Nat) : Int).toNat = (put 0 z).length from rfl, HRL.out] at hP2
      have HP2 := Lib.hid hP2
      have hpl1 := (put_len (put 0 z).length r).2
      rw [HRL.out] at hpl1
      have HO4 := Lib.hid (own_lower ho4 HB3.out.size)
      have ho4' := own_at ho4
      have HLOG : Hid (logOf [z, r] = put 0 z ++ put (put 0 z).length r) := Lib.hid (by unfold logOf; simp)
      have HRD : Hid (Rd (logOf [z, r]) 0 false [] 0 [] ([z, r], (logOf [z, r]).length, 0)) := Lib.hid (by
        have h := rd_log [z, r] [] ([z, r], (logOf [z, r]).length, 0)
        rw [List.append_nil] at h
        exact h rd_end)
      have HG8 : Hid (∀ x, x ∈ logOf [z, r] → x < 256) := Lib.hid (logOf_byte (by
        intro l hl
        simp at hl
        rcases hl with rfl | rfl
        · exact hz8
        · exact HR8.out))
      have hb4' := Lib.hid hb4
      clear hP2 ho4 hb4 q3
      generalize put (put 0 z).length r = P2 at *
      generalize put 0 z = P1 at *
      go_wp2_with fail
      refine HP2.out.mono ?_
      rintro e W5 ⟨v5, rfl, ho5, hb5⟩
      obtain ⟨A5, c5, rfl, q4, q5, q6⟩ := own_parts ho5
      obtain ⟨v6, W6, hr6, ho6, on6⟩ := append_bytes (c := c5) (own_later HO4.out hb5) q6 (by omega) (Nat.le_trans HB4.out.size hb5.size)
      obtain ⟨A6, c6, rfl, q7, q8, q9⟩ := own_parts ho6
      have hbb := (hb5.mono HB4.out.size).trans (on6.below (own_later HO4.out hb5) (Nat.le_trans HB4.out.size hb5.size))
      have HB6 := Lib.hid (HB4.out.trans hbb)
      have hb36 := (hb4'.out.trans (hb5.mono hb4'.out.size)).trans (on6.below (own_later ho4' hb5) (Nat.le_trans hb4'.out.size hb5.size))
      have HLA6 := Lib.hid ((HLA.out.below hb36).up hb36.size)
      have HLR6 := Lib.hid ((HLR3.out.below hb36).up hb36.size)
      have hgl : (P1 ++ P2).length ≤ 10000 := by rw [List.length_append]; omega
      rw [← HLOG.out] at q7 q9 hr6 hgl
      have HALL := Lib.hid (all_any A6 c6 (logOf [z, r]) W6 q9 q7 q8 (by omega) HG8.out)
      have HR6 := Lib.hid hr6
      clear hr6 ho5 hb5 q6 ho6 on6 q9 hbb HG8 HLOG HLA4 HLR4 HO4 hb36 hb4' ho4' HLA HLR3
      generalize logOf [z, r] = G at *
      go_wp2_with (at_builtin; refine wpList_append_run rfl _ _ 22 rfl rfl rfl HR6.out ?_)
      refine HALL.out.mono ?_
      rintro e W7 ⟨A7, c7, L7, n7, cl7, rfl, hs7, hr7, hb7⟩
      have e7 := hr7.det HRD.out
      simp only [Prod.mk.injEq] at e7
      obtain ⟨e8, rfl, rfl⟩ := e7
      have HB7 := Lib.hid (HB6.out.trans (hb7.mono HB6.out.size))
      have HLA7 := Lib.hid ((HLA6.out.below hb7).up hb7.size)
      have HLR7 := Lib.hid ((HLR6.out.below hb7).up hb7.size)
      clear hr7 hb7 HLA6 HLR6
      match L7, e8, hs7 with
      | [x, y], e8, hs7 =>
        simp only [List.map_cons, List.map_nil, List.cons.injEq, and_true] at e8
        obtain ⟨hxz, hyr⟩ := e8
        obtain ⟨a7, hA7, _, p0⟩ := hs7.place (i := 0) (e := x) rfl
        obtain ⟨a7', hA7', _, p1⟩ := hs7.place (i := 1) (e := y) rfl
        rw [hA7] at hA7'
        cases hA7'
        subst hA7
        rw [show a7.add 0 = a7 by simp [Addr.add]] at p0
        rw [show a7.add 1 = ⟨a7.block, a7.off + 1, none⟩ by simp [Addr.add]] at p1
        have kx := hs7.ok x (by simp)
        have ky := hs7.ok y (by simp)
        have lx := kx.lies
        have ly := ky.lies
        have la := HLA7.out
        have lr := HLR7.out
        have r0 : ∀ n, Sem.run Tryd.prog (convert 22 9 (.slice x.a x.bs.length x.c)) (W7.drewN n) = .ok (.string (str z)) (W7.drewN n) := fun n => by
          rw [← hxz]
          exact run_string_lies (P := Tryd.prog) (c := x.c) _ _ 5 Tryd.underlying22 Tryd.underlying5 Tryd.underlying9 (lx.below (Joins.below_draws _ _ _))
        have r1 : ∀ n, Sem.run Tryd.prog (convert 22 9 (.slice y.a y.bs.length y.c)) (W7.drewN n) = .ok (.string (str r)) (W7.drewN n) := fun n => by
          rw [← hyr]
          exact run_string_lies (P := Tryd.prog) (c := y.c) _ _ 5 Tryd.underlying22 Tryd.underlying5 Tryd.underlying9 (ly.below (Joins.below_draws _ _ _))
        have r2 : ∀ n, Sem.run Tryd.prog (convert 22 9 (.slice (some ⟨ga, 0, none⟩) s s)) (W7.drewN n) = .ok (.string (str z)) (W7.drewN n) := fun n => by
          have h := run_string_lies (P := Tryd.prog) (c := s) _ _ 5 Tryd.underlying22 Tryd.underlying5 Tryd.underlying9 (la.below (Joins.below_draws _ W7 n))
          rw [hzl] at h
          exact h
        have r3 : ∀ n, Sem.run Tryd.prog (convert 22 9 (.slice (some ⟨g, 0, none⟩) k k)) (W7.drewN n) = .ok (.string (str r)) (W7.drewN n) := fun n => by
          have h := run_string_lies (P := Tryd.prog) (c := k) _ _ 5 Tryd.underlying22 Tryd.underlying5 Tryd.underlying9 (lr.below (Joins.below_draws _ W7 n))
          rw [HRL.out] at h
          exact h
        clear kx ky lx ly la lr hxz hyr hs7 HLA7 HLR7
        generalize str z = S1 at *
        generalize str r = S2 at *
        generalize x.bs.length = m0 at *
        generalize y.bs.length = m1 at *
        rw [show ([x, y] : List E).length = 2 from rfl]
        go_wp2_with fail
        go_quiet (fail)
        go_wp2_with fail
        go_ret
        exact ⟨rfl, HB7.out.trans (Joins.below_draws _ _ _)⟩

set_option maxRecDepth 100000 in
theorem lifted (os : Os) (started : os.Started) (H : Type) (enc : TypeId × Value → H) :
    ReturnsInHanded {} Tryd.checked os 9 .any (fun w args => (Rows.frameMiddleSpec.pre enc Tryd.prog Tryd.f9 Rows.frameMiddleRow.domain false w args ∧ laidMetH Tryd.prog Rows.frameMiddleRow.laid w) ∧ sizedMet enc Tryd.prog Tryd.f9 (OpenSpec.ofChange Rows.frameMiddleSpec) false w args) (Rows.frameMiddleSpec.post enc Tryd.prog Tryd.f9 false true false false) := by
  refine lift_laid (C := Tryd.checked) Rows.frameMiddleRow.laid own started (by kernel_rfl) Tryd.func9
    (ChangeSpec.witness_shaped (enc := enc) (C := Tryd.checked) (os := os) (X := fun w _ => laidMetH Tryd.prog Rows.frameMiddleRow.laid w) false (World.laidAll Tryd.prog os Rows.frameMiddleRow.laid) #[.int .i64 0, .int .i64 0, .int .u8 0] 8 (World.laidAll_os _ _ _)
      (World.shaped_of_ZipB (by kernel_rfl) (by kernel_rfl)) (by kernel_rfl) (by kernel_rfl) (by kernel_rfl)
      (by rw [MakeChecks.laidMetH_plain _ _ _ (by kernel_rfl)]; exact laidMet_laidAll _ (by kernel_rfl) (by kernel_rfl)))
    (by kernel_rfl) (by kernel_rfl) (by kernel_rfl) Tryd.underlying4 rfl ?_ ?_
  · intro ds hds
    match ds, hds with
    | [d1, d2, d3], _ => exact ⟨rfl, rfl, rfl⟩
  · intro W base args ds p hval0 hA0 hlt _
    have hval : ∀ (j : Nat) t v, Tryd.f9.params[j]? = some t → args[j]? = some v → Value.okWide Tryd.prog W .any base t v := hval0
    have hA : DataW.TrodAll enc Tryd.prog W 0 (fun _ => true) true Tryd.f9.params.toList args.toList ds p := hA0
    rw [Tryd.params9] at hA hval
    obtain ⟨v0, vs0, d0, ds0, p0, q0, hargs, rfl, rfl, h0, r0⟩ := trodAll_cons hA
    obtain ⟨v1, vs1, d1, ds1, p1, q1, rfl, rfl, rfl, h1, r1⟩ := trodAll_cons r0
    obtain ⟨v2, vs2, d2, ds2, p2, q2, rfl, rfl, rfl, h2, r2⟩ := trodAll_cons r1
    obtain ⟨rfl, rfl, rfl⟩ := trodAll_nil r2
    obtain rfl : args = #[v0, v1, v2] := by cases args; simp_all
    obtain ⟨a0, rfl, rfl, rfl, w0⟩ := open_int Tryd.underlying3 (hval 0 _ v0 rfl rfl) h0
    have b0 := i64_of w0
    obtain ⟨a1, rfl, rfl, rfl, w1⟩ := open_int Tryd.underlying3 (hval 1 _ v1 rfl rfl) h1
    have b1 := i64_of w1
    obtain ⟨a2, rfl, rfl, rfl, w2⟩ := open_int Tryd.underlying5 (hval 2 _ v2 rfl rfl) h2
    have b2 := u8_of w2
    by_cases h : a0 < 0 ∨ 300 < a0 ∨ a1 < 0 ∨ 1000 < a1
    · obtain ⟨c, rfl⟩ : ∃ c : Nat, a2 = c := ⟨a2.toNat, by omega⟩
      exact walk_no a0 a1 c W h
    · obtain ⟨s, rfl⟩ : ∃ s : Nat, a0 = s := ⟨a0.toNat, by omega⟩
      obtain ⟨n, rfl⟩ : ∃ n : Nat, a1 = n := ⟨a1.toNat, by omega⟩
      obtain ⟨c, rfl⟩ : ∃ c : Nat, a2 = c := ⟨a2.toNat, by omega⟩
      exact walk s n c W (by omega) (by omega) (by omega)

theorem over : Rows.frameMiddleRow.holds Tryd.pinned (OpenSpec.ofChange Rows.frameMiddleSpec) :=
  OpenClaim.holds_of_wide 9 Tryd.f9 rfl rfl rfl rfl rfl rfl rfl ⟨rfl, rfl, rfl, rfl, rfl⟩ rfl rfl rfl rfl rfl (by kernel_rfl) Tryd.func9 (by kernel_rfl)
    (of_decide_eq_true (by kernel_rfl)) (by unfold Func.isWrapper; first | (rw [if_pos (by decide +kernel)]; kernel_rfl) | (rw [if_neg (by decide +kernel)]; exact ⟨rfl, rfl⟩))
    (fun os started H enc _ => lifted os started H enc)

theorem proved : Rows.FrameMiddleCardSaid :=
  Claim7.holds_tied_plain_at .later [] [.data, .pinned] true (true, "b23d7652dd08339ba58d021077a9801cf880c861c5214500fa8176eedb20fa22") false over (fun _ h => by cases h) (by kernel_rfl) (fun _ h => by cases h) frameMiddle_row_tie rfl ⟨rfl, rfl⟩ (by kernel_rfl) rfl
    (fun f fn hf hfn => by
      obtain rfl : f = 9 := Option.some.inj ((show Tryd.prog.funcNamed Rows.frameMiddleRow.func = some 9 by kernel_rfl).symm.trans hf) |>.symm
      obtain rfl : fn = Tryd.f9 := (Option.some.inj (Tryd.func9.symm.trans hfn)).symm
      exact ⟨by kernel_rfl, fun j t ht => by
        rw [Tryd.params9] at ht
        have hm : t ∈ [3, 3, 5] := by simpa using Array.mem_of_getElem? ht
        have hall : ([3, 3, 5].all fun u => !Tryd.prog.wantsStandIn u) = true := by kernel_rfl
        exact (show Tryd.prog.wantsStandIn t = false by simpa using List.all_eq_true.1 hall t hm)⟩)
    (by kernel_rfl)
#print axioms proved
end Go.Proofs.YtkmelhgpngochaaDoor.frameMiddle
