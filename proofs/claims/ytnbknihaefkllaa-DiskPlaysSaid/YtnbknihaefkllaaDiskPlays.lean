/- In every world DiskPlays answers true and leaves all that was there as it was: so it does for every input; no conditions. -/
import Derived.Test.YtnbknihaefkllaaDdoc
import Derived.Test.YtnbknihaefkllaaDbig
namespace Go.Proofs.Ytnbknihaefkllaa.diskPlays
set_option linter.unusedVariables false
set_option linter.unusedSimpArgs false
open Go.ChangeShapes Go.WideShapes Go.ChangeAt Go.RowKit Lift Go.Maps Ik Dl
open Dk (MS FM hit hit_failed sizeM appendM Yes)

theorem own : ownKnob Try.prog.godebug = none := by kernel_rfl

section
variable {B g gr go : Nat} {w0 w : World} {S Sr So : Nat → Prop} {m mo : MS} {rm : Int}
/-- A byte of the call's own, appended to a file of the third disk. -/
theorem other (nm : ByteArray) (T : Tri B w0 w g S m gr Sr rm m go So mo) (hf : mo.failed ≤ 100000) :
    Calls Try.prog (8) #[.pointer (some ⟨go, 0, none⟩), .string nm, .slice (some ⟨w.heap.size, 0, none⟩) 1 1] (w.alloc (.cells #[.int .u8 1] 5)) fun e w' =>
      ∃ (n : Nat) (S' : Nat → Prop) (mo' : MS), e = .returned (.int .i64 (n : Int)) ∧ mo'.failed ≤ mo.failed + 1 ∧ Tri B w0 w' g S m gr Sr rm m go S' mo' := by
  have hb := Joins.below_alloc1 w (.cells #[.int .u8 1] 5)
  have hn : (w.alloc (.cells #[.int .u8 1] 5)).heap[w.heap.size]? = some (.cells #[.int .u8 1] 5) := heap_alloc_new w _
  have hz : (w.alloc (.cells #[.int .u8 1] 5)).heap.size = w.heap.size + 1 := by simp
  have hl : LiesP (w.alloc (.cells #[.int .u8 1] 5)) (fun k => ¬ So k ∧ k < (w.alloc (.cells #[.int .u8 1] 5)).heap.size) (some ⟨w.heap.size, 0, none⟩) ([1].map vb) :=
    .inr ⟨_, rfl, ⟨fun h => Nat.lt_irrefl _ (T.o.lt _ h), by rw [hz]; exact Nat.lt_succ_self _⟩, fun j u hj => (lies_block hn (show w.heap.size < w.heap.size + 1 by omega)).place (by simp) |>.elim fun ad h => by cases h.1; exact h.2.2 j u hj⟩
  have T1 := T.below hb
  have ha := Dk.append_any nm (some ⟨w.heap.size, 0, none⟩) 1 [1] T1.o (by omega) hl (by simp) (by simp) (by simp)
  refine (show Calls Try.prog (8) #[.pointer (some ⟨go, 0, none⟩), .string nm, .slice (some ⟨w.heap.size, 0, none⟩) 1 1] _ _ from ha).mono ?_
  rintro e w' ⟨S', rfl, hA, hK, hS⟩
  exact ⟨_, S', _, rfl, append_failed mo nm [1], T1.oo hA hK hS⟩
end
set_option maxRecDepth 100000 in
set_option maxHeartbeats 3200000 in
theorem walk (rm : Int) (A : Option Addr) (c : Nat) (L : List Ac) (w : World) (hrm : (Lit.int .i64 rm).wf = true) (hA : Acts w w.heap.size A c L) : Calls Try.prog 3 #[.int .i64 rm, .slice A L.length c] w (Yes w) := by
  have HA := Lib.hid hA
  have HRM := Lib.hid hrm
  have hlc := hA.len
  have hcm := hA.cap
  unfold maxLen at hcm
  clear hA hrm
  go_enter Try.func3, Try.ntmps3
  go_wp2_with fail
  refine (Dk.alive_any _).mono ?_; rintro e W1 ⟨rfl, hb1⟩
  have HB1 := Lib.hid hb1
  clear hb1
  go_wp2_with fail
  refine (big_any w.heap.size W1 A c L HB1.out.size (HA.out.below HB1.out)).mono ?_
  rintro e W2 ⟨hb2, hbg⟩
  have HB2 : Hid (Below w.heap.size w W2) := Lib.hid (HB1.out.trans (hb2.mono HB1.out.size))
  clear hb2 HB1
  rcases hbg with rfl | ⟨rfl, hlen, hall⟩
  · go_wp2_with fail
    go_ret
    exact ⟨rfl, HB2.out⟩
  · have HALL := Lib.hid hall
    clear hall
    go_wp2_with fail
    refine (Dk.new_own rm HRM.out W2 HB2.out.size HB2.out).mono ?_
    rintro e W3 ⟨g, S, rfl, hO, _, _, _⟩
    have O3 := Lib.hid hO
    clear hO
    go_wp2_with fail
    refine (Dk.new_own 99 (by decide) W3 (O3.out.size (Nat.le_refl _)) O3.out.2.2).mono ?_
    rintro e W4 ⟨go, So, rfl, hO, _, hSo, hb4⟩
    have O4 := Lib.hid hO
    have HSo := Lib.hid hSo
    have HB4 := Lib.hid hb4
    clear hO hSo hb4
    go_wp2_with fail
    refine (Rk.rnew_any rm HRM.out W4).mono ?_
    rintro e W5 ⟨gr, Sr, rfl, hA, hS, hb5⟩
    have T5 : Hid (Tri w.heap.size w W5 g S (Dk.newM rm) gr Sr rm (Dk.newM rm) go So (Dk.newM 99)) := Lib.hid
      ⟨(O3.out.1.below HB4.out).below hb5, hA, O4.out.1.below hb5, O3.out.2.1, fun k hk => Nat.le_trans (O4.out.size (Nat.le_refl _)) (hS k hk), O4.out.2.1,
        fun k hk hr => by have h1 := O3.out.1.lt k hk; have h2 := hS k hr; have h3 := HB4.out.size; omega,
        fun k hk ho => by have h1 := O3.out.1.lt k hk; have h2 := HSo.out k ho; omega,
        fun k hk ho => by have h1 := O4.out.1.lt k ho; have h2 := hS k hk; omega, O4.out.2.2.trans (hb5.mono (O4.out.size (Nat.le_refl _))), Nat.le_refl _⟩
    clear hA hS hb5 O3 O4 HSo HB4 HB2
    go_wp2_with fail
    go_loopw [10] (fun i wr => ∃ (j : Nat) (S Sr So : Nat → Prop) (m mo : MS), i = .int .i64 (j : Int) ∧ j ≤ L.length ∧ m.failed ≤ 3 * j ∧ mo.failed ≤ j ∧ Hid (Tri w.heap.size w wr g S m gr Sr rm m go So mo)) (fun i _ => L.length + 1 - (intOf i).toNat)
    case atStart => exact ⟨0, _, _, _, _, _, rfl, by omega, Nat.zero_le _, Nat.zero_le _, T5⟩
    case round =>
      obtain ⟨j, S, Sr, So, m, mo, rfl, hj, hf, hfo, T⟩ := hrel
      clear T5
      by_cases hlt : j < L.length
      · have dl : decide (j < L.length) = true := decide_eq_true hlt
        obtain ⟨d, hd⟩ : ∃ d, L[j]? = some d := ⟨_, List.getElem?_eq_getElem hlt⟩
        obtain ⟨ad, p, rfl, hp, hr⟩ := HA.out.reads hd
        have HR := Lib.hid hr
        have HSM := Lib.hid (HALL.out d (List.mem_of_getElem? hd))
        have HOK := Lib.hid (HA.out.ok d (List.mem_of_getElem? hd))
        clear hd hr
        go_wp2_with fail
        refine (other _ T.out (by omega)).mono ?_
        rintro e W6 ⟨n, So', mo', rfl, hmo, hT⟩
        have T6 := Lib.hid hT
        clear hT T
        have hload := (HR.out W6 T6.out.low).load
        obtain ⟨c0, c1, c2, c3, c4, c5, c6⟩ := HR.out W6 T6.out.low
        go_wp2_with fail
        refine (do_any d T6.out HOK.out HSM.out.1 HSM.out.2.1 HSM.out.2.2.1 HSM.out.2.2.2 (by omega)).mono ?_
        rintro e W7 ⟨S7, Sr7, rfl, hT⟩
        have T7 := Lib.hid hT
        have hf7 := do_failed m d
        clear hT T6 hload c0 c1 c2 c3 c4 c5 c6
        generalize doM m d = m7 at *
        have c3 := (HR.out W7 T7.out.low).c3
        go_wp2_with fail
        refine (same_disks d.p T7.out HSM.out.1 (by omega)).mono ?_
        rintro e W8 ⟨rfl, hT⟩
        have T8 := Lib.hid hT
        have hf8 := hit_failed m7
        clear hT T7 c3
        generalize (hit m7).2 = m8 at *
        have c4 := (HR.out W8 T8.out.low).c4
        go_wp2_with fail
        refine (same_disks d.q T8.out HSM.out.2.1 (by omega)).mono ?_
        rintro e W9 ⟨rfl, hT⟩
        have T9 := Lib.hid hT
        have hf9 := hit_failed m8
        clear hT T8 c4
        generalize (hit m8).2 = m9 at *
        go_wp2_with fail
        go_roundw
        case rel => exact ⟨j + 1, _, _, _, _, _, by go_num, by omega, by omega, by omega, T9⟩
        case measure => simp [intOf]; omega
      · obtain rfl : j = L.length := by omega
        have dl : decide (L.length < L.length) = false := decide_eq_false (by omega)
        go_wp2_with fail
        go_ret
        exact ⟨rfl, T.out.low⟩

set_option maxRecDepth 100000 in
theorem lifted (os : Os) (started : os.Started) (H : Type) (enc : TypeId × Value → H) :
    ReturnsInHanded {} Try.checked os 3 .any (Rows.diskPlaysSpec.pre6 enc Try.prog Try.f3 Rows.diskPlaysRow.domain false) (Rows.diskPlaysSpec.post enc Try.prog Try.f3 false true false false) := by
  refine lift_true (C := Try.checked) own started (by kernel_rfl) Try.func3
    (ChangeSpec.witness6 (enc := enc) (C := Try.checked) false ⟨#[], #[.int .i64 0, .slice none 0 0], []⟩ 8 (by kernel_rfl) (by kernel_rfl) (by kernel_rfl) (by kernel_rfl))
    (by kernel_rfl) (by kernel_rfl) (by kernel_rfl) Try.underlying4 rfl ?_ ?_
  · intro ds hds
    match ds, hds with
    | [d1, d2], _ => exact ⟨rfl, rfl, rfl⟩
  · intro W base args ds p hval0 hA0 hlt _
    have hval : ∀ (j : Nat) t v, Try.f3.params[j]? = some t → args[j]? = some v → Value.okWide Try.prog W .any base t v := hval0
    have hA : DataW.TrodAll enc Try.prog W 0 (fun _ => true) true Try.f3.params.toList args.toList ds p := hA0
    rw [Try.params3] at hA hval
    obtain ⟨v0, vs0, d0, ds0, p0, q0, hargs, rfl, rfl, h0, r0⟩ := trodAll_cons hA
    obtain ⟨v1, vs1, d1, ds1, p1, q1, rfl, rfl, rfl, h1, r1⟩ := trodAll_cons r0
    obtain ⟨rfl, rfl, rfl⟩ := trodAll_nil r1
    obtain rfl : args = #[v0, v1] := by cases args; simp_all
    obtain ⟨a0, rfl, rfl, rfl, w0⟩ := open_int Try.underlying3 (hval 0 _ v0 rfl rfl) h0
    have b0 := i64_of w0
    obtain ⟨A1, c1, L1, rfl, hE1⟩ := Dl.open_acts (hval 1 _ v1 rfl rfl) h1 (fun x hx => hlt x (by simp [hx]))
    exact walk a0 A1 c1 L1 W w0 hE1

theorem over : Rows.diskPlaysRow.holds Try.pinned (OpenSpec.ofChange Rows.diskPlaysSpec) :=
  OpenClaim.holds_of_wide 3 Try.f3 rfl rfl rfl rfl rfl rfl rfl ⟨rfl, rfl, rfl, rfl, rfl⟩ rfl rfl rfl rfl rfl (by kernel_rfl) Try.func3 (by kernel_rfl)
    (of_decide_eq_true (by kernel_rfl)) (by unfold Func.isWrapper; first | (rw [if_pos (by decide +kernel)]; kernel_rfl) | (rw [if_neg (by decide +kernel)]; exact ⟨rfl, rfl⟩))
    (fun os started H enc _ => lifted os started H enc)

theorem proved : Rows.DiskPlaysSaid :=
  over
#print axioms proved
end Go.Proofs.Ytnbknihaefkllaa.diskPlays
