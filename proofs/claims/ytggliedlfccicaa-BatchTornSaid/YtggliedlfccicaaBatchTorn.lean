/- Proved: for any batch, number and bytes, BatchTorn of butterylaw5 answers true (a proper prefix of an encoding gives ErrShort, and an encoding followed by further bytes gives ErrSyntax), and its arguments read as before. Conditions: none beyond what the given row states. -/
import Derived.Test.YtggliedlfccicaaBlaw5
import Derived.Test.YtggliedlfccicaaBenc4
import Derived.Test.YtggliedlfccicaaBrd6
namespace Go.Proofs.Ytggliedlfccicaa.batchTorn
set_option linter.unusedVariables false
set_option linter.unusedSimpArgs false
open Go.ChangeShapes Go.WideShapes Go.ChangeAt Go.RowKit Lift Bt Ik Vn

theorem own : ownKnob Try.prog.godebug = none := by kernel_rfl

theorem Lies_next {w w' : World} {A : Option Addr} {xs : List Value} (h : Lies w w.heap.size A xs) (hb : Below w.heap.size w w') : Lies w' w'.heap.size A xs := (h.below hb).up hb.size
theorem slice_pre (A : Option Addr) (n c k : Nat) (hk : k ≤ n) (hc : n ≤ c) (hm : c ≤ maxLen) : ∀ W : World, Sem.run Try.prog (Instr.slice 28 (.slice A n c) none (some (.int .i64 (k : Int))) none) W = .ok (.slice A k c) W := by
  unfold maxLen at hm
  intro W
  go_simp
  intro h
  omega
theorem bytesE_three (s : Nat) (l : List O) : bytesE s l = 0 ∨ bytesE s l = 1 ∨ bytesE s l = 3 := by
  have h1 : chkO l = 0 ∨ chkO l = 1 ∨ chkO l = 3 := by unfold chkO; split; simp; split <;> simp
  unfold bytesE
  rcases h1 with h1 | h1 | h1
  · rw [h1]; by_cases hf : fits s l.length = true <;> simp [hf]
  · rw [h1]; simp
  · rw [h1]; simp
theorem readed_is {w w' : World} {bs : List Nat} {e : Ending} {er : Nat} (h : readB bs = (er, 0, [])) (hr : Readed w bs e w') : (∃ (A : Option Addr) (c : Nat), e = .returned (.tuple #[.agg #[.int .u64 0, .slice A 0 c], .int .i64 (er : Int)])) ∧ Below w.heap.size w w' := by
  obtain ⟨A, c, L, he, hL, _, hb⟩ := hr
  rw [h] at he hL
  have : L = [] := by
    have := congrArg List.length hL
    exact List.eq_nil_of_length_eq_zero (by simpa [opsO] using this)
  subst this
  exact ⟨⟨A, c, he⟩, hb⟩
theorem encB_byte {s : Nat} {L : List D} {w : World} {R : Nat → Prop} (h : ∀ d, d ∈ L → d.Ok w R ∧ d.o.ok = true) : ∀ x, x ∈ encB s (opsO L) → x < 256 := by
  intro x hx
  unfold encB at hx
  rcases List.mem_append.1 hx with hx | hx
  · rcases List.mem_append.1 hx with hx | hx
    · exact low_byte _ _ x hx
    · exact low_byte _ _ x hx
  · obtain ⟨o, ho, hx⟩ := List.mem_flatMap.1 hx
    obtain ⟨d, hd, rfl⟩ := List.mem_map.1 ho
    obtain ⟨hk, hv⟩ := h d hd
    obtain ⟨h1, h2, h3, h4⟩ := ok_parts hv
    have tx : ∀ t : List Nat, t.length ≤ 4096 → (∀ y, y ∈ t → y < 256) → ∀ y, y ∈ text t → y < 256 := by
      intro t ht hb y hy
      rcases List.mem_append.1 hy with hy | hy
      · exact enc_byte t.length (by omega) y hy
      · exact hb y hy
    unfold encO at hx
    rcases List.mem_cons.1 hx with rfl | hx
    · rcases h4 with ⟨h4, _⟩ | h4 <;> rw [h4] <;> decide
    · rcases List.mem_append.1 hx with hx | hx
      · exact tx d.key (Nat.le_trans h2 (by decide)) hk.k8 x hx
      · split at hx
        · exact tx d.val h3 hk.v8 x hx
        · simp at hx

set_option maxRecDepth 100000 in
set_option maxHeartbeats 800000 in
theorem walk_out (s : Nat) (A A2 : Option Addr) (c c2 : Nat) (L : List D) (off : Int) (ms : List Nat) (w : World) (hs : s < 18446744073709551616) (hO : Ops w w.heap.size A c L) (h : bigB L = true ∨ bytesE s (opsO L) ≠ 0 ∨ off < 0 ∨ ms.length < 1 ∨ 50 < ms.length) : Calls Try.prog 5 #[.agg #[.int .u64 (s : Int), .slice A L.length c], .int .i64 off, .slice A2 ms.length c2] w (Yes w) := by
  have HO := Lib.hid hO
  clear hO
  have hb0 := Joins.below_alloc1 w (.cells #[.int .u64 (s : Int), .slice A L.length c] 25)
  have b0 := Box.new w 25 [.int .u64 (s : Int), .slice A L.length c]
  have hz0 : (w.alloc (.cells #[.int .u64 (s : Int), .slice A L.length c] 25)).heap.size = w.heap.size + 1 := by simp
  go_enter Try.func5, Try.ntmps5
  go_wp2_with fail
  generalize w.alloc (.cells #[.int .u64 (s : Int), .slice A L.length c] 25) = w0 at hb0 b0 hz0 ⊢
  refine (alive_any _).mono ?_; rintro e W1 ⟨rfl, hb1⟩
  have HB1 := Lib.hid (hb0.trans (hb1.mono hb0.size))
  have b1 := b0.below hb1 (by omega)
  have B1 := Lib.hid b1
  have HG : Hid (w.heap.size < W1.heap.size) := Lib.hid (by have := hb1.size; omega)
  obtain ⟨p0, p1, _, _⟩ := b1.facts2
  clear hb0 b0 hz0 hb1 b1
  go_wp2_with fail
  refine (big_any A c _ L W1 (HO.out.next HB1.out)).mono ?_; rintro e w' ⟨rfl, rfl⟩
  go_wp2_with fail
  have O1 := Lib.hid (HO.out.next HB1.out)
  refine (rbytes_any s A c L W1 hs O1.out).mono ?_
  rintro e W2 ⟨v2, rfl, hown2, hb2⟩
  have HB2 := Lib.hid (HB1.out.trans (hb2.mono HB1.out.size))
  have HO2 := Lib.hid hown2
  clear hown2 hb2 p0 p1
  cases hg : bigB L
  · rcases bytesE_three s (opsO L) with he | he | he
    · rw [he]
      by_cases h1 : off < 0
      · clear h
        go_wp2_with fail
        go_ret
        exact ⟨rfl, HB2.out⟩
      · have d1 : decide (off < 0) = false := by simp; omega
        by_cases h2 : ms.length < 1
        · have d2 : decide ((ms.length : Int) < 1) = true := by simp; omega
          clear h
          go_wp2_with fail
          go_ret
          exact ⟨rfl, HB2.out⟩
        · have d2 : decide ((ms.length : Int) < 1) = false := by simp; omega
          have d3 : decide ((50 : Int) < (ms.length : Int)) = true := by simp; rcases h with h | h | h | h | h; simp [hg] at h; exact absurd he h; omega; omega; omega
          clear h
          go_wp2_with fail
          go_ret
          exact ⟨rfl, HB2.out⟩
    · rw [he]
      clear h
      go_wp2_with fail
      go_ret
      exact ⟨rfl, HB2.out⟩
    · rw [he]
      clear h
      go_wp2_with fail
      go_ret
      exact ⟨rfl, HB2.out⟩
  · clear h
    go_wp2_with fail
    go_ret
    exact ⟨rfl, HB2.out⟩

set_option maxRecDepth 100000 in
set_option maxHeartbeats 1600000 in
theorem walk_in (o : Nat) (s : Nat) (A A2 : Option Addr) (c c2 : Nat) (L : List D) (ms : List Nat) (w : World) (hs : s < 18446744073709551616) (hO : Ops w w.heap.size A c L) (h1 : bigB L = false) (h2 : bytesE s (opsO L) = 0) (h3 : o ≤ 9223372036854775807) (h4 : 1 ≤ ms.length) (h5 : ms.length ≤ 50)
    (hl : Lies w w.heap.size A2 (ms.map vb)) (hc : ms.length ≤ c2) (h8 : ∀ x, x ∈ ms → x < 256) : Calls Try.prog 5 #[.agg #[.int .u64 (s : Int), .slice A L.length c], .int .i64 (o : Int), .slice A2 ms.length c2] w (Yes w) := by
  have HL := Lib.hid hl
  have H8 := Lib.hid h8
  have hB8 := encB_byte (s := s) (L := L) (w := w) (R := (· < w.heap.size)) fun d hd => ⟨hO.ok d hd, by
    have hc : chkO (opsO L) = 0 := by unfold bytesE at h2; split at h2; contradiction; rename_i hn; simpa using hn
    exact List.all_eq_true.1 (chk_parts hc).2.2 _ (List.mem_map.2 ⟨d, hd, rfl⟩)⟩
  have hBl : (encB s (opsO L)).length ≤ 500000 := by
    have hc : chkO (opsO L) = 0 := by unfold bytesE at h2; split at h2; contradiction; rename_i hn; simpa using hn
    rw [← chk_o] at hc
    obtain ⟨_, n2, hok⟩ := chk_zero hc
    have := body_len hok
    unfold bodyL at this
    unfold encB
    rw [List.length_append, List.length_append, low_length, low_length]
    omega
  have hBg : 12 ≤ (encB s (opsO L)).length := by unfold encB; rw [List.length_append, List.length_append, low_length, low_length]; omega
  have T1 := Lib.hid fun k hk => read_torn (s := s) (l := opsO L) k h2 hk
  have T2 := Lib.hid (read_good (s := s) (l := opsO L) ms h2)
  have E2 := Lib.hid (show bytesB s (opsO L) = encB s (opsO L) by unfold bytesB; rw [if_pos h2])
  have B8 := Lib.hid hB8
  clear hl h8 hB8
  have HO := Lib.hid hO
  clear hO
  have hb0 := Joins.below_alloc1 w (.cells #[.int .u64 (s : Int), .slice A L.length c] 25)
  have b0 := Box.new w 25 [.int .u64 (s : Int), .slice A L.length c]
  have hz0 : (w.alloc (.cells #[.int .u64 (s : Int), .slice A L.length c] 25)).heap.size = w.heap.size + 1 := by simp
  go_enter Try.func5, Try.ntmps5
  go_wp2_with fail
  generalize w.alloc (.cells #[.int .u64 (s : Int), .slice A L.length c] 25) = w0 at hb0 b0 hz0 ⊢
  refine (alive_any _).mono ?_; rintro e W1 ⟨rfl, hb1⟩
  have HB1 := Lib.hid (hb0.trans (hb1.mono hb0.size))
  have b1 := b0.below hb1 (by omega)
  have B1 := Lib.hid b1
  have HG : Hid (w.heap.size < W1.heap.size) := Lib.hid (by have := hb1.size; omega)
  obtain ⟨p0, p1, _, _⟩ := b1.facts2
  clear hb0 b0 hz0 hb1 b1
  go_wp2_with fail
  refine (big_any A c _ L W1 (HO.out.next HB1.out)).mono ?_; rintro e w' ⟨rfl, rfl⟩
  go_wp2_with fail
  have O1 := Lib.hid (HO.out.next HB1.out)
  refine (rbytes_any s A c L W1 hs O1.out).mono ?_
  rintro e W2 ⟨v2, rfl, hown2, hb2⟩
  have HB2 := Lib.hid (HB1.out.trans (hb2.mono HB1.out.size))
  have HO2 := Lib.hid hown2
  clear hown2 hb2 p0 p1
  rw [h2]
  rw [E2.out] at HO2
  generalize encB s (opsO L) = B at *
  obtain ⟨A3, c3, hv, hc3, hm3, hl3⟩ := own_parts HO2.out
  subst hv
  have HL3 := Lib.hid hl3
  have HC3 := Lib.hid hc3
  have HM3 := Lib.hid hm3
  clear hl3 hc3 hm3 h1 h2
  have d1 : decide ((ms.length : Int) < 1) = false := by simp; omega
  have d2 : decide ((50 : Int) < (ms.length : Int)) = false := by simp; omega
  have d3 : ((B.length : Int) == 0) = false := by rw [beq_eq_false_iff_ne]; omega
  obtain ⟨k, hk⟩ : ∃ k, k = o % B.length := ⟨_, rfl⟩
  have hkl : k < B.length := by rw [hk]; exact Nat.mod_lt _ (by omega)
  have hmod : (o : Int) % (B.length : Int) = (k : Int) := by rw [hk]; exact (Int.natCast_emod o B.length).symm
  have hsl := slice_pre A3 B.length c3 k (Nat.le_of_lt hkl) HC3.out HM3.out
  have htk : (B.take k).length = k := by rw [List.length_take]; omega
  have R1 := Lib.hid fun W (hb : Below W2.heap.size W2 W) => read_all A3 c3 (B.take k) W ((Lies_next HL3.out hb).front (by rw [List.map_take]; exact List.take_prefix _ _)) (by rw [htk]; have := HC3.out; omega) HM3.out (fun x hx => B8.out x (List.mem_of_mem_take hx)) (by omega)
  rw [htk] at R1
  have hT := T1.out k hkl
  have hT1 := Lib.hid hT
  clear hk htk hT T1 E2
  go_wp2_with fail
  refine ((R1.out W2 (Below.refl _ _)).mono fun e w' hh => readed_is hT1.out hh).mono ?_
  rintro e W3 ⟨⟨A4, c4, rfl⟩, hb3⟩
  have hba := Joins.below_alloc1 W3 (.cells #[.int .u64 0, .slice A4 0 c4] 25)
  have h34 := hb3.trans (hba.mono hb3.size)
  obtain ⟨A5, c5, W5, hr5, hown5, hb5⟩ := fresh_bytes A3 c3 _ B (W3.alloc (.cells #[.int .u64 0, .slice A4 0 c4] 25)) (Lies_next HL3.out h34) (by omega)
  obtain ⟨v6, W6, hr6, hown6, hon6⟩ := append_bytes (c := c2) hown5 (HL.out.below (HB2.out.trans ((h34.trans (hb5.mono h34.size)).mono HB2.out.size))) (by omega) hb5.size
  have h56 := hb5.trans (hon6.below hown5 hb5.size)
  have HB6 := Lib.hid (HB2.out.trans ((h34.trans (h56.mono h34.size)).mono HB2.out.size))
  obtain ⟨A6, c6, hv6, hc6, hm6, hl6⟩ := own_parts hown6
  subst hv6
  have hR2 := read_all A6 c6 (B ++ ms) W6 hl6 hc6 hm6 (fun x hx => (List.mem_append.1 hx).elim (B8.out x) (H8.out x)) (by rw [List.length_append]; omega)
  have hm0 : ms ≠ [] := by intro h0; rw [h0] at h4; simp at h4
  have hT2 := T2.out
  rw [if_neg hm0] at hT2
  rw [List.length_append] at hr6 hR2
  have R2 := Lib.hid (hR2.mono fun e w' hh => readed_is hT2 hh)
  have HR5 := Lib.hid hr5
  have HR6 := Lib.hid hr6
  clear hb3 hba h34 hr5 hown5 hb5 hr6 hown6 hon6 h56 hc6 hm6 hl6 hR2 hm0 hT2 R1 T2
  go_wp2_with (at_builtin; first | refine wpList_append_run rfl _ _ 28 rfl rfl rfl HR5.out ?_ | refine wpList_append_run rfl _ _ 28 rfl rfl rfl HR6.out ?_)
  refine R2.out.mono ?_
  rintro e W7 ⟨⟨A7, c7, rfl⟩, hb7⟩
  have HB7 := Lib.hid (HB6.out.trans (hb7.mono HB6.out.size))
  have HB8 := Lib.hid (HB7.out.trans ((Joins.below_alloc1 W7 (.cells #[.int .u64 0, .slice A7 0 c7] 25)).mono HB7.out.size))
  clear hb7 R2
  go_wp2_with (go_at_call 12; refine (num_any _ _).mono ?_; rintro e w' ⟨rfl, rfl⟩)
  go_ret
  exact ⟨rfl, HB8.out⟩

set_option maxRecDepth 100000 in
theorem lifted (os : Os) (started : os.Started) (H : Type) (enc : TypeId × Value → H) :
    ReturnsInHanded {} Try.checked os 5 .any (Rows.batchTornSpec.pre6 enc Try.prog Try.f5 Rows.batchTornRow.domain false) (Rows.batchTornSpec.post enc Try.prog Try.f5 false true false false) := by
  refine lift_true (C := Try.checked) own started (by kernel_rfl) Try.func5
    (ChangeSpec.witness6 (enc := enc) (C := Try.checked) false ⟨#[], #[.agg #[.int .u64 0, .slice none 0 0], .int .i64 0, .slice none 0 0], []⟩ 8 (by kernel_rfl) (by kernel_rfl) (by kernel_rfl) (by kernel_rfl))
    (by kernel_rfl) (by kernel_rfl) (by kernel_rfl) Try.underlying4 rfl ?_ ?_
  · intro ds hds
    match ds, hds with
    | [d1, d2, d3], _ => exact ⟨rfl, rfl, rfl⟩
  · intro W base args ds p hval0 hA0 hlt _
    have hval : ∀ (j : Nat) t v, Try.f5.params[j]? = some t → args[j]? = some v → Value.okWide Try.prog W .any base t v := hval0
    have hA : DataW.TrodAll enc Try.prog W 0 (fun _ => true) true Try.f5.params.toList args.toList ds p := hA0
    rw [Try.params5] at hA hval
    obtain ⟨v0, vs0, d0, ds0, p0, q0, hargs, rfl, rfl, h0, r0⟩ := trodAll_cons hA
    obtain ⟨v1, vs1, d1, ds1, p1, q1, rfl, rfl, rfl, h1, r1⟩ := trodAll_cons r0
    obtain ⟨v2, vs2, d2, ds2, p2, q2, rfl, rfl, rfl, h2, r2⟩ := trodAll_cons r1
    obtain ⟨rfl, rfl, rfl⟩ := trodAll_nil r2
    obtain rfl : args = #[v0, v1, v2] := by cases args; simp_all
    obtain ⟨s0, A0, c0, L0, rfl, hs0, hO0⟩ := Bt.open_batch (hval 0 _ v0 rfl rfl) h0 (fun x hx => hlt x (by simp [hx]))
    obtain ⟨a1, rfl, rfl, rfl, w1⟩ := open_int Try.underlying3 (hval 1 _ v1 rfl rfl) h1
    have b1 := i64_of w1
    obtain ⟨A2, c2, zs2, rfl, hc2, hm2, hl2, hw2⟩ := open_nums Try.underlying28 Try.underlying5 (by kernel_rfl) (hval 2 _ v2 rfl rfl) h2 (fun x hx => hlt x (by simp [hx]))
    obtain ⟨bs2, rfl, hz2⟩ := as_nat zs2 fun n hn => (u8_of (hw2 n hn)).1
    have hbs2 := fun b hb => (u8_of (hw2 _ (hz2 b hb))).2
    rw [List.length_map] at hc2 ⊢
    rw [List.map_map] at hl2
    by_cases h : bigB L0 = true ∨ bytesE s0 (opsO L0) ≠ 0 ∨ a1 < 0 ∨ bs2.length < 1 ∨ 50 < bs2.length
    · exact walk_out s0 A0 A2 c0 c2 L0 a1 bs2 W hs0 hO0 h
    · have g1 : bigB L0 = false := by cases hq : bigB L0; rfl; exact absurd (.inl hq) h
      have g2 : bytesE s0 (opsO L0) = 0 := by rcases Nat.eq_zero_or_pos (bytesE s0 (opsO L0)) with hq | hq; exact hq; exact absurd (.inr (.inl (by omega))) h
      obtain ⟨o, rfl⟩ := Int.eq_ofNat_of_zero_le (show 0 ≤ a1 from by omega)
      exact walk_in o s0 A0 A2 c0 c2 L0 bs2 W hs0 hO0 g1 g2 (by omega) (by omega) (by omega) hl2 hc2 (fun x hx => by have := hbs2 x hx; omega)

theorem over : Rows.batchTornRow.holds Try.pinned (OpenSpec.ofChange Rows.batchTornSpec) :=
  OpenClaim.holds_of_wide 5 Try.f5 rfl rfl rfl rfl rfl rfl rfl ⟨rfl, rfl, rfl, rfl, rfl⟩ rfl rfl rfl rfl rfl (by kernel_rfl) Try.func5 (by kernel_rfl)
    (of_decide_eq_true (by kernel_rfl)) (by unfold Func.isWrapper; first | (rw [if_pos (by decide +kernel)]; kernel_rfl) | (rw [if_neg (by decide +kernel)]; exact ⟨rfl, rfl⟩))
    (fun os started H enc _ => lifted os started H enc)

theorem proved : Rows.BatchTornSaid :=
  over
#print axioms proved
end Go.Proofs.Ytggliedlfccicaa.batchTorn
