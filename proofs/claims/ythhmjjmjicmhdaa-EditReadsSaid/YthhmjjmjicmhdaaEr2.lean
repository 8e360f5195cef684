/- The document's own reader of edits: int, most, bytes. -/
import Derived.Test.YthhmjjmjicmhdaaEr1
import Derived.Test.YthhmjjmjicmhdaaEfr
import Derived.Deep.DeepCutAuto
import Derived.Deep.Cut
import Derived.StillTailTactics
import Derived.Test.YthhmjjmjicmhdaaMade
namespace Go.Proofs.Ythhmjjmjicmhdaa.Ed
set_option linter.unusedVariables false
set_option linter.unusedSimpArgs false
open Go.RowKit Lift Ik Vn
section
variable {w w' : World} {g : Nat} {A : Option Addr} {c : Nat} {bs : List Nat} {p q er er' : Nat}
theorem cutI_wf (x : Nat) : 0 ≤ cutI x ∧ cutI x ≤ 4611686018427387904 := by unfold cutI; split <;> omega
theorem int_any (h : At w g A c bs p er) : Calls Try.prog (47) #[.pointer (some ⟨g, 0, none⟩)] w fun e w' => ∃ z : Int, e = .returned (.int .i64 z) ∧ 0 ≤ z ∧ z ≤ 4611686018427387904 ∧ Went w g A c bs p er rint z w' := by
  have HN := Lib.hid (number_any h)
  clear h
  go_enter (Try.func47), (Try.ntmps47)
  go_wp2_with fail
  refine HN.out.mono ?_
  rintro e w1 ⟨x, rfl, hx, -, q, er1, h1, hk, hr⟩
  have H : Hid (Went w g A c bs p er rint (cutI x) w1) := Lib.hid ⟨q, er1, h1, hk, hr.bd (rel_ret _)⟩
  clear h1 hk hr HN
  by_cases hb : 4611686018427387904 < x
  · have d1 : decide ((4611686018427387904 : Int) < (x : Int)) = true := decide_eq_true (by omega)
    have d2 : decide (4611686018427387904 < x) = true := decide_eq_true hb
    have HC : Hid (cutI x = 4611686018427387904) := Lib.hid (if_pos hb)
    clear hb
    go_wp2_with fail
    go_ret
    exact ⟨_, rfl, by decide, by decide, by have := H.out; rw [HC.out] at this; exact this⟩
  · have d1 : decide ((4611686018427387904 : Int) < (x : Int)) = false := decide_eq_false (by omega)
    have d2 : decide (4611686018427387904 < x) = false := decide_eq_false hb
    have HC : Hid (cutI x = (x : Int)) := Lib.hid (if_neg hb)
    have HX := Lib.hid hb
    have wr : IntKind.i64.wrap (x : Int) = (x : Int) := IntWalk.i64_in _ (by omega)
    clear hb
    go_wp2_with fail
    go_ret
    exact ⟨_, rfl, by omega, by have := HX.out; omega, by have := H.out; rw [HC.out] at this; exact this⟩
theorem most_any (h : At w g A c bs p er) (n : Nat) (hn : n < 1000000) : Calls Try.prog (46) #[.pointer (some ⟨g, 0, none⟩), .int .i64 (n : Int)] w fun e w' => ∃ m : Nat, e = .returned (.int .i64 (m : Int)) ∧ m ≤ n ∧ Went w g A c bs p er (rmost n) m w' := by
  have HN := Lib.hid (number_any h)
  have u1 := u64_in n (by omega)
  clear h
  go_enter (Try.func46), (Try.ntmps46)
  go_wp2_with fail
  refine HN.out.mono ?_
  rintro e w1 ⟨x, rfl, hx, -, q, er1, h1, hk, hr⟩
  obtain ⟨f0, f1, f2, z0, z1, z2⟩ := h1.box.facts3
  have H1 := Lib.hid h1
  have HK := Lib.hid hk
  have HR := Lib.hid hr
  clear h1 hk hr HN f0 f1 z0 z1
  by_cases h0 : er1 = 0
  · subst h0
    by_cases hb : n < x
    · have d1 : decide (n < x) = true := decide_eq_true hb
      have HB := Lib.hid hb
      clear hb
      go_wp2_with fail
      go_ret
      exact ⟨0, rfl, Nat.zero_le _, q, 2, H1.out.put H1.out.le (by decide) ((Keep.refl (· = g) w1).setCell (p := ⟨g, 2, none⟩) (.inr rfl) _) (H1.out.box.set 2 _), HK.out.trans ((Keep.refl (· = g) w1).setCell (p := ⟨g, 2, none⟩) (.inr rfl) _) fun _ _ => id,
        HR.out.bd (.inr ⟨rfl, .inr ⟨by decide, if_pos HB.out⟩⟩)⟩
    · have d1 : decide (n < x) = false := decide_eq_false hb
      have HB := Lib.hid hb
      have wr : IntKind.i64.wrap (x : Int) = (x : Int) := IntWalk.i64_in _ (by omega)
      clear hb
      go_wp2_with fail
      go_ret
      exact ⟨x, rfl, by have := HB.out; omega, q, 0, H1.out, HK.out, HR.out.bd (.inr ⟨rfl, .inl ⟨rfl, if_neg HB.out⟩⟩)⟩
  · have t1 : ((er1 : Int) == 0) = false := by rw [beq_eq_false_iff_ne]; omega
    have t2 : ((er1 : Int) != 0) = true := by rw [bne_iff_ne]; omega
    have HE := Lib.hid h0
    clear h0
    go_wp2_with fail
    go_ret
    exact ⟨0, rfl, Nat.zero_le _, q, er1, H1.out, HK.out, HR.out.bd (.inl ⟨HE.out, rfl⟩)⟩
set_option maxRecDepth 100000 in
set_option maxHeartbeats 400000 in
theorem bytes_rd (h : At w g A c bs p er) : Calls Try.prog (48) #[.pointer (some ⟨g, 0, none⟩)] w fun e w' => ∃ A1 c1 b, e = .returned (.slice A1 b.length c1) ∧ New w w' A1 c1 b ∧ b.length ≤ 256 ∧ Went w g A c bs p er rbytes b w' := by
  have HN := Lib.hid (most_any h 256 (by decide))
  clear h
  go_enter (Try.func48), (Try.ntmps48)
  go_wp2_with fail
  refine HN.out.mono ?_
  rintro e w1 ⟨m, rfl, hm, q, er1, h1, hk, hr⟩
  obtain ⟨f0, f1, f2, z0, z1, z2⟩ := h1.box.facts3
  have H1 := Lib.hid h1
  have HK := Lib.hid hk
  have HR := Lib.hid hr
  have b1 := h1.le
  have b2 := h1.few
  clear h1 hk hr HN
  by_cases h0 : er1 = 0
  · subst h0
    by_cases hb : bs.length - q < m
    · have d1 : decide ((bs.length : Int) - (q : Int) < (m : Int)) = true := decide_eq_true (by omega)
      have HB := Lib.hid hb
      clear hb
      go_wp2_with fail
      go_quiet (fail)
      have hd := (Joins.below_draws _ _ nq : Below w1.heap.size w1 (w1.drewN nq))
      have H2 := Lib.hid (H1.out.below hd)
      have HK2 := Lib.hid (HK.out.trans (below_keep (S := (· = g)) hd) fun _ _ => id)
      have z2 : (w1.drewN nq).frozen? ⟨g, 2, none⟩ = false := H2.out.box.free 2
      have f2 : (w1.drewN nq).cell? ⟨g, 2, none⟩ = some (.int .i64 (0 : Int)) := H2.out.box.cell 2
      clear hd f0 f1 z0 z1 H1 HK
      generalize w1.drewN nq = w2 at *
      go_wp2_with fail
      go_ret
      exact ⟨none, 0, [], rfl, new_nil _ _, by decide, q, 4, H2.out.put H2.out.le (by decide) ((Keep.refl (· = g) w2).setCell (p := ⟨g, 2, none⟩) (.inr rfl) _) (H2.out.box.set 2 _), HK2.out.trans ((Keep.refl (· = g) w2).setCell (p := ⟨g, 2, none⟩) (.inr rfl) _) fun _ _ => id,
        HR.out.bd (.inr ⟨rfl, .inr ⟨by decide, if_pos (by rw [List.length_drop]; exact HB.out)⟩⟩)⟩
    · have d1 : decide ((bs.length : Int) - (q : Int) < (m : Int)) = false := decide_eq_false (by omega)
      have HB : Hid (q + m ≤ bs.length) := Lib.hid (by omega)
      clear hb
      go_wp2_with fail
      go_quiet (fail)
      have hd := (Joins.below_draws _ _ nq : Below w1.heap.size w1 (w1.drewN nq))
      have H2 := Lib.hid (H1.out.below hd)
      have HK2 := Lib.hid (HK.out.trans (below_keep (S := (· = g)) hd) fun _ _ => id)
      have z1 : (w1.drewN nq).frozen? ⟨g, 1, none⟩ = false := H2.out.box.free 1
      have f1 : (w1.drewN nq).cell? ⟨g, 1, none⟩ = some (.int .i64 (q : Int)) := H2.out.box.cell 1
      clear hd f0 f2 z0 z2 H1 HK
      generalize w1.drewN nq = w2 at *
      go_upto_region 8 with fail
      have hk3 := (Keep.refl (· = g) w2).setCell (p := ⟨g, 1, none⟩) (.inr rfl) (.int .i64 ((q : Int) + (m : Int)))
      have H3 : Hid (At (w2.setCell ⟨g, 1, none⟩ (.int .i64 ((q : Int) + (m : Int)))) g A c bs (q + m) 0) := Lib.hid (H2.out.put HB.out (by decide) hk3 (by have := H2.out.box.set 1 (.int .i64 ((q : Int) + (m : Int))); exact this))
      have HK3 := Lib.hid (HK2.out.trans hk3 fun _ _ => id)
      clear hk3 f1 z1 H2 HK2
      generalize w2.setCell ⟨g, 1, none⟩ (.int .i64 ((q : Int) + (m : Int))) = w3 at *
      have f0 : w3.cell? ⟨g, 0, none⟩ = some (.slice A bs.length c) := H3.out.box.cell 0
      have f1 : w3.cell? ⟨g, 1, none⟩ = some (.int .i64 ((q : Int) + (m : Int))) := by have := H3.out.box.cell 1; simpa using this
      obtain ⟨A', hA', -, hsl⟩ := slice_at A bs.length c q m HB.out H3.out.len H3.out.cap
      have HLS := Lib.hid (sub_lies H3.out.lies HB.out hA')
      have hml : ((bs.drop q).take m).length = m := by rw [List.length_take, List.length_drop]; have := HB.out; omega
      obtain ⟨F, hF⟩ : ∃ F, F = (bs.drop q).take m := ⟨_, rfl⟩
      rw [← hF] at HLS hml
      have HF := Lib.hid hF
      have HFL := Lib.hid hml
      obtain ⟨v, w4, hr4, ho4, hb4, -⟩ := run_append_lies (P := Try.prog) (w := w3.drew) (base := w3.drew.heap.size) (m := m) (c := c - q) 29 29 5 (.int .u8 0) 1 1 Try.underlying29 (by kernel_rfl) rfl (by decide)
        (fun u hu => by simp at hu; obtain ⟨_, _, rfl⟩ := hu; rfl) (World.ownsRow_nil _ _ _ _) HLS.out (by simp [hml]) (by unfold maxLen; omega) (by omega) (Nat.le_refl _)
      rw [Nat.zero_add, List.nil_append] at ho4
      obtain ⟨A4, c4, rfl, hc4, hm4, -⟩ := own_parts ho4
      have HO4 := Lib.hid (LiesP.of_own ho4)
      have HR4 := Lib.hid hr4
      have HB4 := Lib.hid hb4
      have HCL := Lib.hid (show m ≤ c4 ∧ c4 ≤ maxLen from ⟨hc4, hm4⟩)
      clear hml hF hA' ho4 hr4 hb4 hc4 hm4
      have wq : IntKind.i64.wrap (q : Int) = (q : Int) := IntWalk.i64_in _ (by omega)
      go_still_tail 15, (by kernel_rfl)
      change wpList _ _ _ _ _ w3.drew
      go_wp2_with (at_builtin; refine wpList_append_run rfl _ _ 29 rfl rfl rfl HR4.out ?_)
      go_ret
      have hsz : w.heap.size ≤ w3.heap.size := HK3.out.size
      refine ⟨A4, c4, F, by rw [HFL.out]; rfl, ⟨HO4.out.later (fun _ _ => rfl) fun k hk => ⟨Nat.le_trans hsz hk.1, hk.2⟩, by rw [HFL.out]; exact HCL.out.1, HCL.out.2, fun x hx => H3.out.byt x ?_⟩, by rw [HFL.out]; exact hm, q + m, 0, (H3.out.below (Below.refl _ _).drew).below HB4.out, HK3.out.trans (below_keep (((Below.refl _ _).drew).trans HB4.out)) fun _ _ => id, HR.out.bd (.inr ⟨rfl, .inl ⟨rfl, ?_⟩⟩)⟩
      · rw [HF.out] at hx; exact List.mem_of_mem_drop (List.mem_of_mem_take hx)
      · unfold rtake
        rw [if_neg (by rw [List.length_drop]; have := HB.out; omega), HF.out, List.drop_drop]
  · have t2 : ((er1 : Int) != 0) = true := by rw [bne_iff_ne]; omega
    have HE := Lib.hid h0
    clear h0
    go_wp2_with fail
    go_ret
    exact ⟨none, 0, [], rfl, new_nil _ _, by decide, q, er1, H1.out, HK.out, HR.out.bd (.inl ⟨HE.out, rfl⟩)⟩
end
end Go.Proofs.Ythhmjjmjicmhdaa.Ed
