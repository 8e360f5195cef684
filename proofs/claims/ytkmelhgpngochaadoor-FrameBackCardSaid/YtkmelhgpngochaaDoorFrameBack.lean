/- Proved: for any rows of bytes, FrameBack of butterylaw7 answers true (records that are written one behind the other are read back as they were, and the end is clean), and its argument reads as before. Conditions: none beyond what the given row states. -/
import Derived.Test.YtkmelhgpngochaaDoorFlaw7
import Derived.Test.YtkmelhgpngochaaDoorLaid
import Derived.Test.YtkmelhgpngochaaDoorTie
import Derived.Test.YtkmelhgpngochaaDoorCards
import Derived.SevenTiedAt
namespace Go.Proofs.YtkmelhgpngochaaDoor.frameBack
set_option linter.unusedVariables false
set_option linter.unusedSimpArgs false
open Go.ChangeShapes Go.WideShapes Go.ChangeAt Go.RowKit Lift Ik Sq Fr

theorem own : ownKnob Tryd.prog.godebug = none := by kernel_rfl

theorem log_len {l : List (List Nat)} {m : Nat} (h : ∀ r, r ∈ l → r.length ≤ m) : (logOf l).length ≤ (21 + 2 * m) * l.length := by
  have key : ∀ (n : Nat) (l : List (List Nat)), l.length = n → (∀ r, r ∈ l → r.length ≤ m) → (logOf l).length ≤ (21 + 2 * m) * n := by
    intro n
    induction n with
    | zero =>
      intro l hl _
      have : l = [] := List.eq_nil_of_length_eq_zero hl
      subst this
      simp [logOf]
    | succ n ih =>
      intro l hl h
      obtain ⟨l', r, rfl⟩ : ∃ l' r, l = l' ++ [r] := ⟨l.dropLast, l.getLast (by intro h0; rw [h0] at hl; simp at hl), (List.dropLast_concat_getLast _).symm⟩
      have h1 := ih l' (by simpa using hl) fun r hr => h r (by simp [hr])
      have h2 := (put_len (logOf l').length r).2
      have h3 := h r (by simp)
      rw [logOf_snoc, List.length_append, Nat.mul_succ]
      omega
  exact key l.length l rfl h
set_option maxRecDepth 100000 in
set_option maxHeartbeats 1600000 in
theorem walk (A : Option Addr) (c : Nat) (L : List E) (w : World) (hQ : Seqs w w.heap.size A c L) : Calls Tryd.prog 5 #[.slice A L.length c] w (Yes w) := by
  have HQ := Lib.hid hQ
  have hLc := hQ.len
  have hLm := hQ.cap
  unfold maxLen at hLm
  clear hQ
  by_cases h20 : 20 < L.length
  · go_enter Tryd.func5, Tryd.ntmps5
    go_wp2_with fail
    refine (alive_any _).mono ?_; rintro e W1 ⟨rfl, hb1⟩
    have HB1 := Lib.hid hb1
    clear hb1
    go_wp2_with fail
    go_ret
    exact ⟨rfl, HB1.out⟩
  · go_enter Tryd.func5, Tryd.ntmps5
    go_wp2_with fail
    refine (alive_any _).mono ?_; rintro e W1 ⟨rfl, hb1⟩
    have HB1 := Lib.hid hb1
    clear hb1
    go_wp2_with fail
    go_loopw [4, 5] (fun b i wr => ∃ j : Nat, j ≤ L.length ∧ i = .int .i64 j ∧ Hid (wr.ownsRow w.heap.size 5 1 b (logOf ((L.take j).map (·.bs))).length ((logOf ((L.take j).map (·.bs))).map vb)) ∧ Hid (∀ r, r ∈ (L.take j).map (·.bs) → r.length ≤ 400) ∧ Hid (Below w.heap.size w wr)) (fun _ i _ => L.length + 1 - (intOf i).toNat)
    case atStart => exact ⟨0, by omega, rfl, Lib.hid (World.ownsRow_nil _ _ _ _), Lib.hid (by simp), HB1⟩
    case round =>
      clear HB1
      obtain ⟨j, hj, rfl, hO, hS, hb⟩ := hrel
      obtain ⟨A4, c4, rfl, k1, k2, k3⟩ := own_parts hO.out
      have HK3 := Lib.hid k3
      have hlog : (logOf ((L.take j).map (·.bs))).length ≤ 16420 := by
        have := log_len hS.out
        rw [List.length_map, List.length_take, Nat.min_eq_left hj] at this
        have : (21 + 2 * 400) * j ≤ 821 * 20 := Nat.mul_le_mul (by decide) (by omega)
        omega
      have k8 : Hid (∀ x, x ∈ logOf ((L.take j).map (·.bs)) → x < 256) := Lib.hid (logOf_byte fun r hr => by
        obtain ⟨e, he, rfl⟩ := List.mem_map.1 hr
        exact (HQ.out.ok e (List.mem_of_mem_take he)).byte)
      clear k3
      by_cases hlt : j < L.length
      · obtain ⟨e, he⟩ : ∃ e, L[j]? = some e := ⟨_, List.getElem?_eq_getElem hlt⟩
        obtain ⟨ad, hA, _, p0⟩ := (HQ.out.below hb.out).place he
        subst hA
        have ke := (HQ.out.below hb.out).ok e (List.mem_of_getElem? he)
        have HLE := Lib.hid ke.lies
        have hec := ke.cap
        have hem := ke.max
        have HE8 := Lib.hid ke.byte
        have hem' := hem
        unfold maxLen at hem'
        have HT : Hid ((L.take (j + 1)).map (·.bs) = (L.take j).map (·.bs) ++ [e.bs]) := Lib.hid (by rw [List.take_add_one, he]; simp)
        have dl : decide (j < L.length) = true := decide_eq_true hlt
        clear ke he
        generalize hbs : (L.take j).map (·.bs) = l at *
        clear hbs
        by_cases h4 : 400 < e.bs.length
        · have d4 : decide (400 < e.bs.length) = true := decide_eq_true h4
          go_wp2_with fail
          go_ret
          exact ⟨rfl, hb.out⟩
        · have d4 : decide (400 < e.bs.length) = false := decide_eq_false h4
          have hp := put_any ((logOf l).length : Int) e.a e.c e.bs wr (by omega) (HLE.out.up hb.out.size) hec hem (by omega) HE8.out
          rw [show (((logOf l).length : Nat) : Int).toNat = (logOf l).length from rfl] at hp
          have HP := Lib.hid hp
          have hpl := (put_len (logOf l).length e.bs).2
          have HN : Hid (logOf (l ++ [e.bs]) = logOf l ++ put (logOf l).length e.bs) := Lib.hid (logOf_snoc l e.bs)
          have HS2 : Hid (∀ r, r ∈ l ++ [e.bs] → r.length ≤ 400) := Lib.hid fun r hr => by
            rcases List.mem_append.1 hr with hr | hr
            · exact hS.out r hr
            · simp at hr; subst hr; omega
          clear hp
          generalize put (logOf l).length e.bs = P at *
          generalize hlo : logOf l = G at *
          go_wp2_with fail
          refine HP.out.mono ?_
          rintro e2 W2 ⟨v2, rfl, ho2, hb2⟩
          obtain ⟨A2, c2, rfl, q1, q2, q3⟩ := own_parts ho2
          obtain ⟨v3, W3, hr3, ho3, on3⟩ := append_bytes (c := c2) (own_later hO.out hb2) q3 (by omega) (Nat.le_trans hb.out.size hb2.size)
          have HR3 := Lib.hid hr3
          have HO3 := Lib.hid ho3
          have HB3 := Lib.hid ((hb.out.trans (hb2.mono hb.out.size)).trans (on3.below (own_later hO.out hb2) (Nat.le_trans hb.out.size hb2.size)))
          clear ho2 hb2 q3 hr3 ho3 on3
          go_wp2_with (at_builtin; refine wpList_append_run rfl _ _ 22 rfl rfl rfl HR3.out ?_)
          go_roundw
          case rel => exact ⟨j + 1, by omega, by go_num, by rw [HT.out, HN.out]; exact HO3, by rw [HT.out]; exact HS2, HB3⟩
          case measure => simp [intOf]; omega
      · obtain rfl : j = L.length := by omega
        have dl : decide (L.length < L.length) = false := by simp
        rw [List.take_length] at k1 hlog HK3 k8 hO ⊢
        have HALL := Lib.hid (all_any A4 c4 (logOf (L.map (·.bs))) wr HK3.out k1 k2 (by omega) k8.out)
        have HRD : Hid (Rd (logOf (L.map (·.bs))) 0 false [] 0 [] (L.map (·.bs), (logOf (L.map (·.bs))).length, 0)) := Lib.hid (by
          have h := rd_log (L.map (·.bs)) [] (L.map (·.bs), (logOf (L.map (·.bs))).length, 0)
          rw [List.append_nil] at h
          exact h rd_end)
        clear hO hS k8 HK3
        generalize logOf (L.map (·.bs)) = G at *
        go_wp2_with fail
        refine HALL.out.mono ?_
        rintro e2 W2 ⟨A5, c5, L5, n5, cl5, rfl, hs5, hr5, hb5⟩
        have e5 := hr5.det HRD.out
        simp only [Prod.mk.injEq] at e5
        obtain ⟨e6, rfl, rfl⟩ := e5
        have HB5 := Lib.hid (hb.out.trans (hb5.mono hb.out.size))
        have HSM := Lib.hid (same_any A A5 c c5 L L5 W2 (((HQ.out.below HB5.out).up HB5.out.size)) hs5 e6.symm (by omega))
        clear hs5 hr5 hb5 e6
        go_wp2_with fail
        refine HSM.out.mono ?_
        rintro e3 W3 ⟨rfl, hb6⟩
        have HB6 := Lib.hid (HB5.out.trans (hb6.mono HB5.out.size))
        clear hb6
        go_wp2_with fail
        go_ret
        exact ⟨rfl, HB6.out⟩

set_option maxRecDepth 100000 in
theorem lifted (os : Os) (started : os.Started) (H : Type) (enc : TypeId × Value → H) :
    ReturnsInHanded {} Tryd.checked os 5 .any (fun w args => (Rows.frameBackSpec.pre enc Tryd.prog Tryd.f5 Rows.frameBackRow.domain false w args ∧ laidMetH Tryd.prog Rows.frameBackRow.laid w) ∧ sizedMet enc Tryd.prog Tryd.f5 (OpenSpec.ofChange Rows.frameBackSpec) false w args) (Rows.frameBackSpec.post enc Tryd.prog Tryd.f5 false true false false) := by
  refine lift_laid (C := Tryd.checked) Rows.frameBackRow.laid own started (by kernel_rfl) Tryd.func5
    (ChangeSpec.witness_shaped (enc := enc) (C := Tryd.checked) (os := os) (X := fun w _ => laidMetH Tryd.prog Rows.frameBackRow.laid w) false (World.laidAll Tryd.prog os Rows.frameBackRow.laid) #[.slice none 0 0] 8 (World.laidAll_os _ _ _)
      (World.shaped_of_ZipB (by kernel_rfl) (by kernel_rfl)) (by kernel_rfl) (by kernel_rfl) (by kernel_rfl)
      (by rw [MakeChecks.laidMetH_plain _ _ _ (by kernel_rfl)]; exact laidMet_laidAll _ (by kernel_rfl) (by kernel_rfl)))
    (by kernel_rfl) (by kernel_rfl) (by kernel_rfl) Tryd.underlying4 rfl ?_ ?_
  · intro ds hds
    match ds, hds with
    | [d1], _ => exact ⟨rfl, rfl, rfl⟩
  · intro W base args ds p hval0 hA0 hlt _
    have hval : ∀ (j : Nat) t v, Tryd.f5.params[j]? = some t → args[j]? = some v → Value.okWide Tryd.prog W .any base t v := hval0
    have hA : DataW.TrodAll enc Tryd.prog W 0 (fun _ => true) true Tryd.f5.params.toList args.toList ds p := hA0
    rw [Tryd.params5] at hA hval
    obtain ⟨v0, vs0, d0, ds0, p0, q0, hargs, rfl, rfl, h0, r0⟩ := trodAll_cons hA
    obtain ⟨rfl, rfl, rfl⟩ := trodAll_nil r0
    obtain rfl : args = #[v0] := by cases args; simp_all
    obtain ⟨A0, c0, L0, rfl, hQ0⟩ := Sq.open_seqs (hval 0 _ v0 rfl rfl) h0 (fun x hx => hlt x (by simp [hx]))
    exact walk A0 c0 L0 W hQ0

theorem over : Rows.frameBackRow.holds Tryd.pinned (OpenSpec.ofChange Rows.frameBackSpec) :=
  OpenClaim.holds_of_wide 5 Tryd.f5 rfl rfl rfl rfl rfl rfl rfl ⟨rfl, rfl, rfl, rfl, rfl⟩ rfl rfl rfl rfl rfl (by kernel_rfl) Tryd.func5 (by kernel_rfl)
    (of_decide_eq_true (by kernel_rfl)) (by unfold Func.isWrapper; first | (rw [if_pos (by decide +kernel)]; kernel_rfl) | (rw [if_neg (by decide +kernel)]; exact ⟨rfl, rfl⟩))
    (fun os started H enc _ => lifted os started H enc)

theorem proved : Rows.FrameBackCardSaid :=
  Claim7.holds_tied_plain_at .later [] [.data, .pinned] true (true, "b23d7652dd08339ba58d021077a9801cf880c861c5214500fa8176eedb20fa22") false over (fun _ h => by cases h) (by kernel_rfl) (fun _ h => by cases h) frameBack_row_tie rfl ⟨rfl, rfl⟩ (by kernel_rfl) rfl
    (fun f fn hf hfn => by
      obtain rfl : f = 5 := Option.some.inj ((show Tryd.prog.funcNamed Rows.frameBackRow.func = some 5 by kernel_rfl).symm.trans hf) |>.symm
      obtain rfl : fn = Tryd.f5 := (Option.some.inj (Tryd.func5.symm.trans hfn)).symm
      exact ⟨by kernel_rfl, fun j t ht => by
        rw [Tryd.params5] at ht
        have hm : t ∈ [26] := by simpa using Array.mem_of_getElem? ht
        have hall : ([26].all fun u => !Tryd.prog.wantsStandIn u) = true := by kernel_rfl
        exact (show Tryd.prog.wantsStandIn t = false by simpa using List.all_eq_true.1 hall t hm)⟩)
    (by kernel_rfl)
#print axioms proved
end Go.Proofs.YtkmelhgpngochaaDoor.frameBack
