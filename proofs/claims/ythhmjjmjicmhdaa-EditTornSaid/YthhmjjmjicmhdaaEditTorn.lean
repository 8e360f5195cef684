/- Proved: for any edit, number and bytes, EditTorn of butterylaw16 answers true (a proper prefix of an encoding gives ErrShort, and an encoding followed by further bytes gives ErrSyntax), and its arguments read as before. Conditions: none beyond what the given row states. -/
import Derived.Test.YthhmjjmjicmhdaaElw
namespace Go.Proofs.Ythhmjjmjicmhdaa.editTorn
set_option linter.unusedVariables false
set_option linter.unusedSimpArgs false
open Go.ChangeShapes Go.WideShapes Go.ChangeAt Go.RowKit Lift Ed Ik

theorem own : ownKnob Try.prog.godebug = none := by kernel_rfl

theorem slice_pre (A : Option Addr) (n c k : Nat) (hk : k ≤ n) (hc : n ≤ c) (hm : c ≤ maxLen) : ∀ W : World, Sem.run Try.prog (Instr.slice 29 (.slice A n c) none (some (.int .i64 (k : Int))) none) W = .ok (.slice A k c) W := by
  unfold maxLen at hm
  intro W
  go_simp
  intro h
  omega
theorem told_is {w w' : World} {e : Ending} {er : Nat} (h : Ed.Told w (er, noE) e w') : (∃ x : X, e = .returned (.tuple #[x.v, .int .i64 (er : Int)])) ∧ Below w.heap.size w w' := by
  obtain ⟨x, he, -, -, hb⟩ := h
  exact ⟨⟨x, he⟩, hb⟩
set_option maxRecDepth 100000 in
set_option maxHeartbeats 1600000 in
theorem walk_out (x : X) (off : Int) (A2 : Option Addr) (c2 : Nat) (ms : List Nat) (w : World) (hX : x.Ok w w.heap.size) (h : bigX x = true ∨ right x.e = false ∨ off < 0 ∨ ms.length < 1 ∨ 50 < ms.length) : Calls Try.prog 5 #[x.v, .int .i64 off, .slice A2 ms.length c2] w (Yes w) := by
  have HX := Lib.hid hX
  have hb0 := Joins.below_alloc1 w x.box
  have b0 : Box (w.alloc x.box) w.heap.size 26 x.cells := Box.new w 26 x.cells
  clear hX
  go_enter Try.func5, Try.ntmps5
  go_wp2_with fail
  refine (alive_any _).mono ?_
  rintro e W1 ⟨rfl, hb1⟩
  have HB1 := Lib.hid (hb0.trans (hb1.mono hb0.size))
  have HX1 := Lib.hid (HX.out.next HB1.out)
  have HBX1 := Lib.hid (b0.below hb1 b0.lt)
  obtain ⟨k0, k1, k2, k3, k4⟩ := box_look HBX1.out
  clear hb0 b0 hb1
  go_wp2_with fail
  refine (big_any x W1 HX1.out).mono ?_
  rintro e W2 ⟨rfl, hb2⟩
  have HB2 := Lib.hid (HB1.out.trans (hb2.mono HB1.out.size))
  have HX2 := Lib.hid (HX1.out.next hb2)
  have HBX2 := Lib.hid (HBX1.out.below hb2 HBX1.out.lt)
  clear k0 k1 k2 k3 k4 hb2
  obtain ⟨k0, k1, k2, k3, k4⟩ := box_look HBX2.out
  have HR := Lib.hid (rbytes_any x W2.heap.size W2 HX2.out (Nat.le_refl _))
  go_wp2_with fail
  refine HR.out.mono ?_
  rintro e W3 ⟨v3, rfl, hown3, hb3⟩
  have HB3 := Lib.hid (HB2.out.trans (hb3.mono HB2.out.size))
  have HO3 := Lib.hid hown3
  obtain ⟨A3, c3, rfl, hc3, hm3, hl3⟩ := own_parts hown3
  have HL3 := Lib.hid hl3
  have HC3 := Lib.hid hc3
  have HM3 := Lib.hid hm3
  clear k0 k1 k2 k3 k4 hb3 hown3 hl3 hc3 hm3 HR
  cases hg : bigX x
  · cases hri : right x.e
    · have h0 := bytesE_no hri
      rw [h0]
      clear h HL3 HO3
      go_wp2_with fail
      go_ret
      exact ⟨rfl, HB3.out⟩
    · have h0 := bytesE_yes hri
      have hpos := encE_pos x.e
      rw [h0] at HC3 ⊢
      have d0 : decide (((encE x.e).length : Int) < 1) = false := by simp; omega
      by_cases h1 : off < 0
      · have d1 : decide (off < 0) = true := decide_eq_true h1
        clear h HL3 HO3
        go_wp2_with fail
        go_ret
        exact ⟨rfl, HB3.out⟩
      · have d1 : decide (off < 0) = false := decide_eq_false h1
        by_cases h2 : ms.length < 1
        · have d2 : decide ((ms.length : Int) < 1) = true := by simp; omega
          clear h HL3 HO3
          go_wp2_with fail
          go_ret
          exact ⟨rfl, HB3.out⟩
        · have d2 : decide ((ms.length : Int) < 1) = false := by simp; omega
          have d3 : decide ((50 : Int) < (ms.length : Int)) = true := by
            refine decide_eq_true ?_
            rcases h with h | h | h | h | h
            · rw [hg] at h; cases h
            · rw [hri] at h; cases h
            · omega
            · omega
            · omega
          clear h HL3 HO3
          go_wp2_with fail
          go_ret
          exact ⟨rfl, HB3.out⟩
  · clear h HL3 HO3
    go_wp2_with fail
    go_ret
    exact ⟨rfl, HB3.out⟩

set_option maxRecDepth 100000 in
set_option maxHeartbeats 3200000 in
theorem walk_in (x : X) (o : Nat) (A2 : Option Addr) (c2 : Nat) (ms : List Nat) (w : World) (hX : x.Ok w w.heap.size) (h1 : bigX x = false) (h2 : right x.e = true) (h3 : o ≤ 9223372036854775807) (h4 : 1 ≤ ms.length) (h5 : ms.length ≤ 50)
    (hl : Lies w w.heap.size A2 (ms.map vb)) (hc : ms.length ≤ c2) (h8 : ∀ y, y ∈ ms → y < 256) : Calls Try.prog 5 #[x.v, .int .i64 (o : Int), .slice A2 ms.length c2] w (Yes w) := by
  have HL := Lib.hid hl
  have H8 := Lib.hid h8
  have HBY := Lib.hid (encE_byt h2 (X.byt hX))
  have hBl := encE_len h2
  have hBg := encE_pos x.e
  have T1 := Lib.hid fun k hk => read_torn h2 (k := k) hk
  have T2 := Lib.hid (read_good h2 ms)
  have E2 := Lib.hid (bytesE_yes h2)
  clear hl h8 h2
  have HX := Lib.hid hX
  have hb0 := Joins.below_alloc1 w x.box
  have b0 : Box (w.alloc x.box) w.heap.size 26 x.cells := Box.new w 26 x.cells
  clear hX
  go_enter Try.func5, Try.ntmps5
  go_wp2_with fail
  refine (alive_any _).mono ?_
  rintro e W1 ⟨rfl, hb1⟩
  have HB1 := Lib.hid (hb0.trans (hb1.mono hb0.size))
  have HX1 := Lib.hid (HX.out.next HB1.out)
  have HBX1 := Lib.hid (b0.below hb1 b0.lt)
  obtain ⟨k0, k1, k2, k3, k4⟩ := box_look HBX1.out
  clear hb0 b0 hb1
  go_wp2_with fail
  refine (big_any x W1 HX1.out).mono ?_
  rintro e W2 ⟨rfl, hb2⟩
  have HB2 := Lib.hid (HB1.out.trans (hb2.mono HB1.out.size))
  have HX2 := Lib.hid (HX1.out.next hb2)
  have HBX2 := Lib.hid (HBX1.out.below hb2 HBX1.out.lt)
  clear k0 k1 k2 k3 k4 hb2
  obtain ⟨k0, k1, k2, k3, k4⟩ := box_look HBX2.out
  have HR := Lib.hid (rbytes_any x W2.heap.size W2 HX2.out (Nat.le_refl _))
  go_wp2_with fail
  refine HR.out.mono ?_
  rintro e W3 ⟨v3, rfl, hown3, hb3⟩
  have HB3 := Lib.hid (HB2.out.trans (hb3.mono HB2.out.size))
  have HO3 := Lib.hid hown3
  obtain ⟨A3, c3, rfl, hc3, hm3, hl3⟩ := own_parts hown3
  have HL3 := Lib.hid hl3
  have HC3 := Lib.hid hc3
  have HM3 := Lib.hid hm3
  clear k0 k1 k2 k3 k4 hb3 hown3 hl3 hc3 hm3 HR
  rw [E2.out] at HO3 HC3 HL3 ⊢
  try rw [h1]
  generalize encE x.e = B at *
  clear h1
  have d0 : decide ((B.length : Int) < 1) = false := by simp; omega
  have d1 : decide ((ms.length : Int) < 1) = false := by simp; omega
  have d2 : decide ((50 : Int) < (ms.length : Int)) = false := by simp; omega
  have d3 : ((B.length : Int) == 0) = false := by rw [beq_eq_false_iff_ne]; omega
  obtain ⟨k, hk⟩ : ∃ k, k = o % B.length := ⟨_, rfl⟩
  have hkl : k < B.length := by rw [hk]; exact Nat.mod_lt _ (by omega)
  have hmod : (o : Int) % (B.length : Int) = (k : Int) := by rw [hk]; exact (Int.natCast_emod o B.length).symm
  have hmod2 : (o : Int).tmod (B.length : Int) = (k : Int) := by rw [hk]; rfl
  have hsl := slice_pre A3 B.length c3 k (Nat.le_of_lt hkl) HC3.out HM3.out
  have htk : (B.take k).length = k := by rw [List.length_take]; omega
  have R1 := Lib.hid (oread_any A3 c3 (B.take k) W3 (HL3.out.front (by rw [List.map_take]; exact List.take_prefix _ _)) (by rw [htk]; have := HC3.out; omega) HM3.out (by omega) (fun y hy => HBY.out y (List.mem_of_mem_take hy)))
  rw [htk, T1.out k hkl] at R1
  clear hk htk T1 E2
  go_wp2_with fail
  refine (R1.out.mono fun e w' hh => told_is hh).mono ?_
  rintro e W4 ⟨⟨y, rfl⟩, hb4⟩
  have hba := Joins.below_alloc1 W4 y.box
  have h34 := hb4.trans (hba.mono hb4.size)
  obtain ⟨A5, c5, W5, hr5, hown5, hb5⟩ := fresh_bytes A3 c3 _ B (W4.alloc y.box) (lies_next HL3.out h34) (by omega)
  obtain ⟨v6, W6, hr6, hown6, hon6⟩ := append_bytes (c := c2) hown5 (HL.out.below (HB3.out.trans ((h34.trans (hb5.mono h34.size)).mono HB3.out.size))) (by omega) hb5.size
  have h56 := hb5.trans (hon6.below hown5 hb5.size)
  have HB6 := Lib.hid (HB3.out.trans ((h34.trans (h56.mono h34.size)).mono HB3.out.size))
  obtain ⟨A6, c6, rfl, hc6, hm6, hl6⟩ := own_parts hown6
  have hR2 := oread_any A6 c6 (B ++ ms) W6 hl6 hc6 hm6 (by rw [List.length_append]; omega) (byt_app HBY.out H8.out)
  have hm0 : ms ≠ [] := by intro h0; rw [h0] at h4; simp at h4
  have hT2 := T2.out
  rw [if_neg hm0] at hT2
  rw [List.length_append] at hr6 hR2
  rw [hT2] at hR2
  have R2 := Lib.hid (hR2.mono fun e w' hh => told_is hh)
  have HR5 := Lib.hid hr5
  have HR6 := Lib.hid hr6
  clear hb4 hba h34 hr5 hown5 hb5 hr6 hown6 hon6 h56 hc6 hm6 hl6 hR2 hm0 hT2 R1 T2
  go_wp2_with (at_builtin; first | refine wpList_append_run rfl _ _ 29 rfl rfl rfl HR5.out ?_ | refine wpList_append_run rfl _ _ 29 rfl rfl rfl HR6.out ?_)
  refine R2.out.mono ?_
  rintro e W7 ⟨⟨z, rfl⟩, hb7⟩
  have HB7 := Lib.hid (HB6.out.trans (hb7.mono HB6.out.size))
  have HB8 := Lib.hid (HB7.out.trans ((Joins.below_alloc1 W7 z.box).mono HB7.out.size))
  clear hb7 R2
  go_wp2_with (go_at_call 19; refine (num_any _ _).mono ?_; rintro e w' ⟨rfl, rfl⟩)
  go_ret
  exact ⟨rfl, HB8.out⟩

set_option maxRecDepth 100000 in
theorem lifted (os : Os) (started : os.Started) (H : Type) (enc : TypeId × Value → H) :
    ReturnsInHanded {} Try.checked os 5 .any (Rows.editTornSpec.pre6 enc Try.prog Try.f5 Rows.editTornRow.domain false) (Rows.editTornSpec.post enc Try.prog Try.f5 false true false false) := by
  refine lift_true (C := Try.checked) own started (by kernel_rfl) Try.func5
    (ChangeSpec.witness6 (enc := enc) (C := Try.checked) false ⟨#[], #[.agg #[.slice none 0 0, .slice none 0 0, .int .i64 0, .int .i64 0, .int .u64 0], .int .i64 0, .slice none 0 0], []⟩ 8 (by kernel_rfl) (by kernel_rfl) (by kernel_rfl) (by kernel_rfl))
    (by kernel_rfl) (by kernel_rfl) (by kernel_rfl) Try.underlying4 rfl ?_ ?_
  · intro ds hds
    match ds, hds with
    | [d1, d2, d3], _ => exact ⟨rfl, rfl, rfl⟩
  · intro W base args ds p hval0 hA0 hlt _
    have hval : ∀ (j : Nat) t v, Try.f5.params[j]? = some t → args[j]? = some v → Value.okWide Try.prog W .any base t v := hval0
    have hA : DataW.TrodAll enc Try.prog W 0 (fun _ => true) true Try.f5.params.toList args.toList ds p := hA0
    rw [Try.params5] at hA hval
    obtain ⟨v0, vs0, d0, ds0, p0, q0, hargs, rfl, rfl, h0, r0⟩ := trodAll_cons hA
    obtain ⟨v1, vs1, d1, ds1, p1, q1, rfl, rfl, rfl, h1, r1⟩ := trodAll_cons r0
    obtain ⟨v2, vs2, d2, ds2, p2, q2, rfl, rfl, rfl, h2, r2⟩ := trodAll_cons r1
    obtain ⟨rfl, rfl, rfl⟩ := trodAll_nil r2
    obtain rfl : args = #[v0, v1, v2] := by cases args; simp_all
    obtain ⟨X0, rfl, hX0⟩ := Ed.open_edit (hval 0 _ v0 rfl rfl) h0 (fun x hx => hlt x (by simp [hx]))
    obtain ⟨a1, rfl, rfl, rfl, w1⟩ := open_int Try.underlying3 (hval 1 _ v1 rfl rfl) h1
    have b1 := i64_of w1
    obtain ⟨A2, c2, zs2, rfl, hc2, hm2, hl2, hw2⟩ := open_nums Try.underlying29 Try.underlying5 (by kernel_rfl) (hval 2 _ v2 rfl rfl) h2 (fun x hx => hlt x (by simp [hx]))
    obtain ⟨bs2, rfl, hz2⟩ := as_nat zs2 fun n hn => (u8_of (hw2 n hn)).1
    have hbs2 := fun b hb => (u8_of (hw2 _ (hz2 b hb))).2
    rw [List.length_map] at hc2 ⊢
    rw [List.map_map] at hl2
    by_cases h : bigX X0 = true ∨ right X0.e = false ∨ a1 < 0 ∨ bs2.length < 1 ∨ 50 < bs2.length
    · exact walk_out X0 a1 A2 c2 bs2 W hX0 h
    · have g1 : bigX X0 = false := by cases hq : bigX X0; rfl; exact absurd (.inl hq) h
      have g2 : right X0.e = true := by cases hq : right X0.e; exact absurd (.inr (.inl hq)) h; rfl
      obtain ⟨o, rfl⟩ := Int.eq_ofNat_of_zero_le (show 0 ≤ a1 from by omega)
      exact walk_in X0 o A2 c2 bs2 W hX0 g1 g2 (by omega) (by omega) (by omega) hl2 hc2 (fun x hx => by have := hbs2 x hx; omega)

theorem over : Rows.editTornRow.holds Try.pinned (OpenSpec.ofChange Rows.editTornSpec) :=
  OpenClaim.holds_of_wide 5 Try.f5 rfl rfl rfl rfl rfl rfl rfl ⟨rfl, rfl, rfl, rfl, rfl⟩ rfl rfl rfl rfl rfl (by kernel_rfl) Try.func5 (by kernel_rfl)
    (of_decide_eq_true (by kernel_rfl)) (by unfold Func.isWrapper; first | (rw [if_pos (by decide +kernel)]; kernel_rfl) | (rw [if_neg (by decide +kernel)]; exact ⟨rfl, rfl⟩))
    (fun os started H enc _ => lifted os started H enc)

theorem proved : Rows.EditTornSaid :=
  over
#print axioms proved
end Go.Proofs.Ythhmjjmjicmhdaa.editTorn
