/- Proved: for any bytes, IkeyReads of butterylaw4 answers true (Read of package ikey agrees with the definition, results and errors), and its argument reads as before. Conditions: none beyond what the given row states. -/
import Derived.Test.YthbiphchongmgaaKread
namespace Go.Proofs.Ythbiphchongmgaa.ikeyReads
set_option linter.unusedVariables false
set_option linter.unusedSimpArgs false
open Go.ChangeShapes Go.WideShapes Go.ChangeAt Go.RowKit Lift Ik

theorem own : ownKnob Try.prog.godebug = none := by kernel_rfl

theorem sameK_self (a : K) : sameK a a = true := by simp [sameK]
set_option maxHeartbeats 400000 in
theorem walk_out (A : Option Addr) (c n : Nat) (w : World) (h : 400 < n) : Calls Try.prog 4 #[.slice A n c] w (Yes w) := by
  go_enter Try.func4, Try.ntmps4
  go_wp2_with fail
  refine (alive_any _).mono ?_; rintro e W1 ⟨rfl, hb1⟩
  have HB1 := Lib.hid hb1
  clear hb1
  go_wp2_with fail
  go_ret
  exact ⟨rfl, HB1.out⟩
set_option maxRecDepth 100000 in
set_option maxHeartbeats 800000 in
theorem walk (A : Option Addr) (c : Nat) (bs : List Nat) (w : World) (hl : Lies w w.heap.size A (bs.map vb)) (hc : bs.length ≤ c) (hm : c ≤ maxLen) (hb : ∀ x, x ∈ bs → x < 256) (h : bs.length ≤ 400) :
    Calls Try.prog 4 #[.slice A bs.length c] w (Yes w) := by
  have L := Lib.hid hl
  have H8 := Lib.hid hb
  have HM := Lib.hid hm
  have HC := Lib.hid hc
  clear hl hb hm hc
  go_enter Try.func4, Try.ntmps4
  go_wp2_with fail
  refine (alive_any _).mono ?_; rintro e W1 ⟨rfl, hb1⟩
  have HB1 := Lib.hid hb1
  clear hb1
  obtain ⟨A2, c2, W2, hr2, hown, hb2⟩ := fresh_bytes A c _ bs W1 (L.out.below HB1.out) (by omega)
  obtain ⟨_, _, hv, hc2, hm2, hl2⟩ := own_parts hown
  cases hv
  have HR := Lib.hid hr2
  have HB2 := Lib.hid (HB1.out.trans (hb2.mono HB1.out.size))
  have HD := Lib.hid (read_all A2 c2 bs W2 hl2 hc2 hm2 H8.out (by omega))
  clear hr2 hown hb2 hl2 hc2 hm2
  go_wp2_with (at_builtin; refine wpList_append_run rfl _ _ 22 rfl rfl rfl HR.out ?_)
  refine HD.out.mono ?_; rintro e W3 ⟨A3, c3, rfl, at3, hb3⟩
  have HB3 := Lib.hid (HB2.out.trans (hb3.mono HB2.out.size))
  have AT3 := Lib.hid at3
  clear at3 hb3 HR HD
  generalize hK : resK bs = kb at AT3 ⊢
  generalize hE : resE bs = eb
  have KB := Lib.hid hK
  have EB := Lib.hid hE
  clear hK hE
  go_wp2_with fail
  have hb4 := Joins.below_alloc1 W3 (.cells #[.slice A3 kb.key.length c3, .int .u64 (kb.seq : Int), .int .i64 kb.kind] 25)
  have t4 := Box.new W3 A3 c3 kb
  have hz4 : (W3.alloc (.cells #[.slice A3 kb.key.length c3, .int .u64 (kb.seq : Int), .int .i64 kb.kind] 25)).heap.size = W3.heap.size + 1 := by simp
  have hd5 := rread_all A c bs _ ((L.out.below (HB3.out.trans (hb4.mono HB3.out.size))).up (HB3.out.trans (hb4.mono HB3.out.size)).size) HC.out HM.out H8.out (by omega)
  refine hd5.mono ?_; rintro e W5 ⟨A5, c5, rfl, at5, hb5⟩
  have t5 := t4.later hb5 (by omega)
  have HZ := Lib.hid (show W3.heap.size < W5.heap.size by have := hb5.size; omega)
  have h35 := hb4.trans (hb5.mono hb4.size)
  have HB5 := Lib.hid (HB3.out.trans (h35.mono HB3.out.size))
  have AT4 := Lib.hid (AT3.out.next h35)
  have T5 := Lib.hid t5
  have hb6 := Joins.below_alloc1 W5 (.cells #[.slice A5 kb.key.length c5, .int .u64 (kb.seq : Int), .int .i64 kb.kind] 25)
  obtain ⟨p1, p2, p3⟩ := t5.later hb6 HZ.out
  obtain ⟨q1, q2, q3⟩ := Box.new W5 A5 c5 kb
  rw [KB.out] at at5 ⊢
  rw [EB.out]
  have AT5 := Lib.hid (at5.next hb6)
  have AT6 := Lib.hid (AT4.out.next hb6)
  have HB6 := Lib.hid (HB5.out.trans (hb6.mono HB5.out.size))
  clear hb4 t4 hz4 hd5 at5 hb5 h35 hb6 t5
  go_wp2_with fail
  refine (same_as true A3 A5 c3 c5 kb kb _ (sameK_self kb) AT6.out AT5.out).mono ?_; rintro e W7 ⟨rfl, hb7⟩
  have HB7 := Lib.hid (HB6.out.trans (hb7.mono HB6.out.size))
  clear hb7 p1 p2 p3 q1 q2 q3
  go_wp2_with (go_at_call 14; refine (num_any _ _).mono ?_; rintro e w' ⟨rfl, rfl⟩)
  go_ret
  exact ⟨by first | rfl | simp, HB7.out⟩

set_option maxRecDepth 100000 in
theorem lifted (os : Os) (started : os.Started) (H : Type) (enc : TypeId × Value → H) :
    ReturnsInHanded {} Try.checked os 4 .any (Rows.ikeyReadsSpec.pre6 enc Try.prog Try.f4 Rows.ikeyReadsRow.domain false) (Rows.ikeyReadsSpec.post enc Try.prog Try.f4 false true false false) := by
  refine lift_true (C := Try.checked) own started (by kernel_rfl) Try.func4
    (ChangeSpec.witness6 (enc := enc) (C := Try.checked) false ⟨#[], #[.slice none 0 0], []⟩ 8 (by kernel_rfl) (by kernel_rfl) (by kernel_rfl) (by kernel_rfl))
    (by kernel_rfl) (by kernel_rfl) (by kernel_rfl) Try.underlying4 rfl ?_ ?_
  · intro ds hds
    match ds, hds with
    | [d1], _ => exact ⟨rfl, rfl, rfl⟩
  · intro W base args ds p hval0 hA0 hlt _
    have hval : ∀ (j : Nat) t v, Try.f4.params[j]? = some t → args[j]? = some v → Value.okWide Try.prog W .any base t v := hval0
    have hA : DataW.TrodAll enc Try.prog W 0 (fun _ => true) true Try.f4.params.toList args.toList ds p := hA0
    rw [Try.params4] at hA hval
    obtain ⟨v0, vs0, d0, ds0, p0, q0, hargs, rfl, rfl, h0, r0⟩ := trodAll_cons hA
    obtain ⟨rfl, rfl, rfl⟩ := trodAll_nil r0
    obtain rfl : args = #[v0] := by cases args; simp_all
    obtain ⟨A0, c0, zs0, rfl, hc0, hm0, hl0, hw0⟩ := open_nums Try.underlying22 Try.underlying5 (by kernel_rfl) (hval 0 _ v0 rfl rfl) h0 (fun x hx => hlt x (by simp [hx]))
    obtain ⟨bs0, rfl, hz0⟩ := as_nat zs0 fun n hn => (u8_of (hw0 n hn)).1
    have hbs0 := fun b hb => (u8_of (hw0 _ (hz0 b hb))).2
    rw [List.length_map] at hc0 ⊢
    rw [List.map_map] at hl0
    by_cases h : 400 < bs0.length
    · exact walk_out A0 c0 _ W h
    · exact walk A0 c0 bs0 W hl0 hc0 hm0 (fun x hx => by have := hbs0 x hx; omega) (by omega)

theorem over : Rows.ikeyReadsRow.holds Try.pinned (OpenSpec.ofChange Rows.ikeyReadsSpec) :=
  OpenClaim.holds_of_wide 4 Try.f4 rfl rfl rfl rfl rfl rfl rfl ⟨rfl, rfl, rfl, rfl, rfl⟩ rfl rfl rfl rfl rfl (by kernel_rfl) Try.func4 (by kernel_rfl)
    (of_decide_eq_true (by kernel_rfl)) (by unfold Func.isWrapper; first | (rw [if_pos (by decide +kernel)]; kernel_rfl) | (rw [if_neg (by decide +kernel)]; exact ⟨rfl, rfl⟩))
    (fun os started H enc _ => lifted os started H enc)

theorem proved : Rows.IkeyReadsSaid :=
  over
#print axioms proved
end Go.Proofs.Ythbiphchongmgaa.ikeyReads
