/- In every world DiskFails answers true and leaves all that was there as it was: so it does for every input; no conditions. -/
import Derived.Test.YtcgicfcefphgkaaDlaw6
namespace Go.Proofs.Ytcgicfcefphgkaa.diskFails
set_option linter.unusedVariables false
set_option linter.unusedSimpArgs false
open Go.ChangeShapes Go.WideShapes Go.ChangeAt Go.RowKit Lift Go.Maps Ik Dk

theorem own : ownKnob Try.prog.godebug = none := by kernel_rfl

theorem append_hit {m : MS} {nm : ByteArray} {b : List Nat} {x : Int} {r : List Int} (h : m.armed = x :: r) (hx : x ≠ 0) : appendM m nm b = (11, { m with armed := r, failed := m.failed + 1 }) := by
  have e : bad m [nm] = 11 := by unfold bad; rw [hit_more h hx]; rfl
  unfold appendM
  rw [e, hit_more h hx, if_pos (by decide)]
theorem append_pass {m : MS} {nm : ByteArray} {b : List Nat} {f : FM} (h : (hit m).1 = false) (hn : nmB nm = true) (hg : get m.fs nm = some f) (hb : f.bs.length + b.length ≤ 16777216) (hr : used m.fs + b.length ≤ m.room) :
    appendM m nm b = (0, { (hit m).2 with fs := put1 m.fs ⟨f.nm, f.bs ++ b, f.syn⟩ }) := by
  have e : bad m [nm] = 0 := by unfold bad; rw [h]; simp [hn]
  unfold appendM
  rw [e, hg, if_neg (by simp), if_neg (by simp [lenOf]; omega), if_neg (by omega)]
theorem nm_f : nmB ⟨#[102]⟩ = true := by decide
/-- The disk of this law. -/
abbrev st (xs : List Nat) (l : List Int) (n : Nat) : MS := ⟨10000, [⟨⟨#[102]⟩, xs, 0⟩], l, n⟩
theorem used_st (xs : List Nat) (l : List Int) (n : Nat) : used (st xs l n).fs = xs.length := by simp [used]
theorem step_hit {xs bs : List Nat} {x : Int} {r : List Int} {n : Nat} (hx : x ≠ 0) : appendM (st xs (x :: r) n) ⟨#[102]⟩ bs = (11, st xs r (n + 1)) := append_hit rfl hx
theorem step_zero {xs bs : List Nat} {r : List Int} {n : Nat} (h : xs.length + bs.length ≤ 10000) : appendM (st xs (0 :: r) n) ⟨#[102]⟩ bs = (0, st (xs ++ bs) r n) := by
  rw [append_pass (f := ⟨⟨#[102]⟩, xs, 0⟩) (by rw [hit_zero rfl]) nm_f (get_head rfl) (by simp only; omega) (by rw [used_st]; exact h), hit_zero rfl]
  exact congrArg (fun l => (0, ({ room := 10000, fs := l, armed := r, failed := n } : MS))) (put_head (f := ⟨⟨#[102]⟩, xs, 0⟩) (f' := ⟨⟨#[102]⟩, xs ++ bs, 0⟩) (l := []) rfl)
theorem step_none {xs bs : List Nat} {n : Nat} (h : xs.length + bs.length ≤ 10000) : appendM (st xs [] n) ⟨#[102]⟩ bs = (0, st (xs ++ bs) [] n) := by
  rw [append_pass (f := ⟨⟨#[102]⟩, xs, 0⟩) (by rw [hit_nil rfl]) nm_f (get_head rfl) (by simp only; omega) (by rw [used_st]; exact h), hit_nil rfl]
  exact congrArg (fun l => (0, ({ room := 10000, fs := l, armed := [], failed := n } : MS))) (put_head (f := ⟨⟨#[102]⟩, xs, 0⟩) (f' := ⟨⟨#[102]⟩, xs ++ bs, 0⟩) (l := []) rfl)
theorem low_free {w0 w : World} {B g : Nat} {S : Nat → Prop} {m : MS} {A : Option Addr} {xs : List Value} (h : Own B w0 w g S m) (hl : Lies w0 B A xs) (hB : B ≤ w0.heap.size) : LiesP w (fun k => ¬ S k ∧ k < w.heap.size) A xs :=
  (hl.below h.2.2).p fun k hk => ⟨fun hs => absurd (h.2.1 k hs) (Nat.not_le_of_lt hk), Nat.lt_of_lt_of_le hk (h.size hB)⟩
set_option maxRecDepth 100000 in
set_option maxHeartbeats 1600000 in
theorem walk (A1 A2 : Option Addr) (c1 c2 : Nat) (zs : List Int) (bs : List Nat) (w : World) (h1 : Lies w w.heap.size A1 (zs.map (Value.int .i64))) (h2 : Lies w w.heap.size A2 (bs.map vb)) (hc1 : zs.length ≤ c1) (hc2 : bs.length ≤ c2) (hw : ∀ x, x ∈ zs → (Lit.int .i64 x).wf = true) (hb8 : ∀ x, x ∈ bs → x < 256) :
    Calls Try.prog 5 #[.slice A1 zs.length c1, .slice A2 bs.length c2] w (Yes w) := by
  have L1 := Lib.hid h1
  have L2 := Lib.hid h2
  have HW := Lib.hid hw
  have H8 := Lib.hid hb8
  clear h1 h2 hw hb8
  go_enter Try.func5, Try.ntmps5
  go_wp2_with fail
  refine (alive_any _).mono ?_; rintro e W1 ⟨rfl, hb1⟩
  have HB1 := Lib.hid hb1
  clear hb1
  by_cases k1 : 30 < zs.length
  · have d1 : decide ((30 : Int) < (zs.length : Int)) = true := by simp; omega
    go_wp2_with fail
    go_ret
    exact ⟨rfl, HB1.out⟩
  · have d1 : decide ((30 : Int) < (zs.length : Int)) = false := by simp; omega
    by_cases k2 : 20 < bs.length
    · have d2 : decide ((20 : Int) < (bs.length : Int)) = true := by simp; omega
      go_wp2_with fail
      go_ret
      exact ⟨rfl, HB1.out⟩
    · have d2 : decide ((20 : Int) < (bs.length : Int)) = false := by simp; omega
      go_wp2_with fail
      refine (new_own 10000 (by decide) W1 HB1.out.size HB1.out).mono ?_
      rintro e W2 ⟨g, S2, rfl, hO2, _, _, _⟩
      have O2 := Lib.hid hO2
      clear hO2
      go_wp2_with fail
      refine (show Calls Try.prog (13) #[.pointer (some ⟨g, 0, none⟩), .string ⟨#[102]⟩, .slice none 0 0] W2 _ from append_any ⟨#[102]⟩ none 0 [] O2.out.1 (by decide) (.inl rfl) (by simp) (by simp) (by simp)).mono ?_
      intro e W3 ht
      obtain ⟨S3, rfl, hO3, _, _⟩ := O2.out.told (O2.out.size (Nat.le_refl _)) ht
      have ea : appendM (newM 10000) ⟨#[102]⟩ [] = (0, st [] [] 0) := append_new rfl nm_f rfl (by decide) (by decide) (by decide)
      rw [ea] at hO3 ⊢
      have O3 := Lib.hid hO3
      obtain ⟨v4, W4, hr4, hown4, hb4, _⟩ := run_append_lies (P := Try.prog) (w := W3) (base := W3.heap.size) (m := zs.length) (c := c1) 33 33 3 (.int .i64 0) 1 8 Try.underlying33 (by kernel_rfl) rfl (by decide)
        (fun u hu => by simp at hu; obtain ⟨_, _, rfl⟩ := hu; rfl) (World.ownsRow_nil _ _ _ _) (L1.out.below hO3.2.2) (by simp) (by unfold maxLen; omega) (by omega) (Nat.le_refl _)
      rw [Nat.zero_add, List.nil_append] at hown4
      obtain ⟨A4, c4, rfl, _, _, hl4⟩ := own_parts hown4
      have hf4 := fail_any A4 c4 zs (hO3.1.below hb4) hl4 (by omega) (fun e => by subst e; exact own_none hown4) HW.out
      have O4 : Hid (Own w.heap.size w W4 g S3 (st [] [] 0)) := Lib.hid ⟨hO3.1.below hb4, hO3.2.1, hO3.2.2.trans (hb4.mono (hO3.size (Nat.le_refl _)))⟩
      have HF4 := Lib.hid hf4
      have HR4 := Lib.hid hr4
      clear ht hO3 ea hr4 hown4 hb4 hl4 hf4 O2
      go_wp2_with (at_builtin; refine wpList_append_run rfl _ _ 33 rfl rfl rfl HR4.out ?_)
      refine HF4.out.mono ?_
      intro e W5 ht
      obtain ⟨S5, rfl, hO5, _, _⟩ := O4.out.done (O4.out.size (Nat.le_refl _)) ht
      have O5 := Lib.hid hO5
      clear ht hO5 HF4 HR4 O3 O4
      go_wp2_with fail
      go_loopw [7, 8, 9] (fun n fl i wr => ∃ (j nn ff : Nat) (xs : List Nat) (S : Nat → Prop), j ≤ zs.length + 2 ∧ i = .int .i64 j ∧ n = .int .i64 nn ∧ fl = .int .i64 ff ∧ nn ≤ j * 20 ∧ ff ≤ j ∧ Hid (Own w.heap.size w wr g S (st xs (zs.drop j) ff)) ∧ Hid (xs.length = nn)) (fun _ _ i _ => zs.length + 3 - (intOf i).toNat)
      case atStart => exact ⟨0, 0, 0, [], S5, by omega, rfl, rfl, rfl, by omega, by omega, O5, Lib.hid rfl⟩
      case round =>
        obtain ⟨j, nn, ff, xs, S, hj, rfl, rfl, rfl, hnn, hff, hO, hx⟩ := hrel
        by_cases hlt : j < zs.length + 2
        · have hap := append_any ⟨#[102]⟩ A2 c2 bs hO.out.1 (by show ff ≤ 1000000; omega) (low_free hO.out L2.out (Nat.le_refl _)) hc2 (by omega) H8.out
          have HAP := Lib.hid hap
          have hxl := hx.out
          clear hap
          by_cases hz : j < zs.length
          · obtain ⟨x, hx1⟩ : ∃ x, zs[j]? = some x := ⟨_, List.getElem?_eq_getElem hz⟩
            have hdr := Ik.drop_cons hx1
            obtain ⟨ad, hA, _, hcell⟩ := L1.out.place (by simp; omega)
            subst hA
            have HC := Lib.hid fun (W : World) (hb : Below w.heap.size w W) => (show W.cell? (ad.add j) = some (.int .i64 x) from (Lies.place (L1.out.below hb) (by simp; omega)).elim fun ad' h' => by cases h'.1; exact h'.2.2 j _ (by rw [List.getElem?_map, hx1]; rfl))
            have dz : decide (j < zs.length) = true := decide_eq_true hz
            have HDR := Lib.hid hdr
            clear hx1 hdr hcell
            by_cases hx0 : x = 0
            · subst hx0
              have E : Hid (appendM (st xs (zs.drop j) ff) ⟨#[102]⟩ bs = (0, st (xs ++ bs) (zs.drop (j + 1)) ff)) := Lib.hid (by rw [HDR.out]; exact step_zero (by omega))
              go_wp2_with fail
              refine HAP.out.mono ?_
              intro e W7 ht
              obtain ⟨S3, rfl, hO3, _, _⟩ := hO.out.told (hO.out.size (Nat.le_refl _)) ht
              rw [E.out] at hO3 ⊢
              have O3 := Lib.hid hO3
              have q := HC.out W7 hO3.2.2
              have hu := used_any hO3.1
              have hf := failed_any hO3.1
              rw [used_st, List.length_append, hxl] at hu
              have HU := Lib.hid hu
              have HFL := Lib.hid hf
              clear ht hO3 hu hf HAP HC
              go_wp2_with (first
                | (go_at_call 19; refine (num_any _ _).mono ?_; rintro e w' ⟨rfl, rfl⟩)
                | (go_at_call 22; refine HU.out.mono ?_; rintro e w' ⟨rfl, rfl⟩)
                | (go_at_call 23; refine HFL.out.mono ?_; rintro e w' ⟨rfl, rfl⟩))
              go_roundw
              case rel => exact ⟨j + 1, nn + bs.length, ff, xs ++ bs, S3, by omega, by go_num, by go_num, by go_num, by omega, by omega, O3, Lib.hid (by rw [List.length_append, hxl])⟩
              case measure => simp [intOf]; omega
            · have E : Hid (appendM (st xs (zs.drop j) ff) ⟨#[102]⟩ bs = (11, st xs (zs.drop (j + 1)) (ff + 1))) := Lib.hid (by rw [HDR.out]; exact step_hit hx0)
              have dx : (x != 0) = true := by rw [bne_iff_ne]; exact hx0
              clear hx0
              go_wp2_with fail
              refine HAP.out.mono ?_
              intro e W7 ht
              obtain ⟨S3, rfl, hO3, _, _⟩ := hO.out.told (hO.out.size (Nat.le_refl _)) ht
              rw [E.out] at hO3 ⊢
              have O3 := Lib.hid hO3
              have q := HC.out W7 hO3.2.2
              have hu := used_any hO3.1
              have hf := failed_any hO3.1
              rw [used_st, hxl] at hu
              have HU := Lib.hid hu
              have HFL := Lib.hid hf
              clear ht hO3 hu hf HAP HC
              go_wp2_with (first
                | (go_at_call 19; refine (num_any _ _).mono ?_; rintro e w' ⟨rfl, rfl⟩)
                | (go_at_call 22; refine HU.out.mono ?_; rintro e w' ⟨rfl, rfl⟩)
                | (go_at_call 23; refine HFL.out.mono ?_; rintro e w' ⟨rfl, rfl⟩))
              go_roundw
              case rel => exact ⟨j + 1, nn, ff + 1, xs, S3, by omega, by go_num, by go_num, by go_num, by omega, by omega, O3, Lib.hid (by exact hxl)⟩
              case measure => simp [intOf]; omega
          · have dz : decide (j < zs.length) = false := decide_eq_false hz
            have E : Hid (appendM (st xs (zs.drop j) ff) ⟨#[102]⟩ bs = (0, st (xs ++ bs) (zs.drop (j + 1)) ff)) := Lib.hid (by rw [List.drop_of_length_le (by omega), List.drop_of_length_le (by omega)]; exact step_none (by omega))
            go_wp2_with fail
            refine HAP.out.mono ?_
            intro e W7 ht
            obtain ⟨S3, rfl, hO3, _, _⟩ := hO.out.told (hO.out.size (Nat.le_refl _)) ht
            rw [E.out] at hO3 ⊢
            have O3 := Lib.hid hO3
            have hu := used_any hO3.1
            have hf := failed_any hO3.1
            rw [used_st, List.length_append, hxl] at hu
            have HU := Lib.hid hu
            have HFL := Lib.hid hf
            clear ht hO3 hu hf HAP
            go_wp2_with (first
              | (go_at_call 19; refine (num_any _ _).mono ?_; rintro e w' ⟨rfl, rfl⟩)
              | (go_at_call 22; refine HU.out.mono ?_; rintro e w' ⟨rfl, rfl⟩)
              | (go_at_call 23; refine HFL.out.mono ?_; rintro e w' ⟨rfl, rfl⟩))
            go_roundw
            case rel => exact ⟨j + 1, nn + bs.length, ff, xs ++ bs, S3, by omega, by go_num, by go_num, by go_num, by omega, by omega, O3, Lib.hid (by rw [List.length_append, hxl])⟩
            case measure => simp [intOf]; omega
        · have e : j = zs.length + 2 := by omega
          subst e
          go_wp2_with fail
          go_ret
          exact ⟨rfl, hO.out.2.2⟩

set_option maxRecDepth 100000 in
theorem lifted (os : Os) (started : os.Started) (H : Type) (enc : TypeId × Value → H) :
    ReturnsInHanded {} Try.checked os 5 .any (Rows.diskFailsSpec.pre6 enc Try.prog Try.f5 Rows.diskFailsRow.domain false) (Rows.diskFailsSpec.post enc Try.prog Try.f5 false true false false) := by
  refine lift_true (C := Try.checked) own started (by kernel_rfl) Try.func5
    (ChangeSpec.witness6 (enc := enc) (C := Try.checked) false ⟨#[], #[.slice none 0 0, .slice none 0 0], []⟩ 8 (by kernel_rfl) (by kernel_rfl) (by kernel_rfl) (by kernel_rfl))
    (by kernel_rfl) (by kernel_rfl) (by kernel_rfl) Try.underlying4 rfl ?_ ?_
  · intro ds hds
    match ds, hds with
    | [d1, d2], _ => exact ⟨rfl, rfl, rfl⟩
  · intro W base args ds p hval0 hA0 hlt _
    have hval : ∀ (j : Nat) t v, Try.f5.params[j]? = some t → args[j]? = some v → Value.okWide Try.prog W .any base t v := hval0
    have hA : DataW.TrodAll enc Try.prog W 0 (fun _ => true) true Try.f5.params.toList args.toList ds p := hA0
    rw [Try.params5] at hA hval
    obtain ⟨v0, vs0, d0, ds0, p0, q0, hargs, rfl, rfl, h0, r0⟩ := trodAll_cons hA
    obtain ⟨v1, vs1, d1, ds1, p1, q1, rfl, rfl, rfl, h1, r1⟩ := trodAll_cons r0
    obtain ⟨rfl, rfl, rfl⟩ := trodAll_nil r1
    obtain rfl : args = #[v0, v1] := by cases args; simp_all
    obtain ⟨A0, c0, zs0, rfl, hc0, hm0, hl0, hw0⟩ := open_nums Try.underlying33 Try.underlying3 (by kernel_rfl) (hval 0 _ v0 rfl rfl) h0 (fun x hx => hlt x (by simp [hx]))
    obtain ⟨A1, c1, zs1, rfl, hc1, hm1, hl1, hw1⟩ := open_nums Try.underlying31 Try.underlying5 (by kernel_rfl) (hval 1 _ v1 rfl rfl) h1 (fun x hx => hlt x (by simp [hx]))
    obtain ⟨bs1, rfl, hz1⟩ := as_nat zs1 fun n hn => (u8_of (hw1 n hn)).1
    have hbs1 := fun b hb => (u8_of (hw1 _ (hz1 b hb))).2
    rw [List.length_map] at hc1 ⊢
    rw [List.map_map] at hl1
    exact walk A0 A1 c0 c1 zs0 bs1 W hl0 hl1 hc0 hc1 hw0 (fun b hb => by have := hbs1 b hb; omega)

theorem over : Rows.diskFailsRow.holds Try.pinned (OpenSpec.ofChange Rows.diskFailsSpec) :=
  OpenClaim.holds_of_wide 5 Try.f5 rfl rfl rfl rfl rfl rfl rfl ⟨rfl, rfl, rfl, rfl, rfl⟩ rfl rfl rfl rfl rfl (by kernel_rfl) Try.func5 (by kernel_rfl)
    (of_decide_eq_true (by kernel_rfl)) (by unfold Func.isWrapper; first | (rw [if_pos (by decide +kernel)]; kernel_rfl) | (rw [if_neg (by decide +kernel)]; exact ⟨rfl, rfl⟩))
    (fun os started H enc _ => lifted os started H enc)

theorem proved : Rows.DiskFailsSaid :=
  over
#print axioms proved
end Go.Proofs.Ytcgicfcefphgkaa.diskFails
