/- In every world DiskSwaps answers true and leaves all that was there as it was: so it does for every input; no conditions. -/
import Derived.Test.YtcgicfcefphgkaaDcut
import Derived.Test.YtcgicfcefphgkaaDrename
import Derived.Test.YtcgicfcefphgkaaDlist
namespace Go.Proofs.Ytcgicfcefphgkaa.diskSwaps
set_option linter.unusedVariables false
set_option linter.unusedSimpArgs false
open Go.ChangeShapes Go.WideShapes Go.ChangeAt Go.RowKit Lift Go.Maps Ik Dk

theorem own : ownKnob Try.prog.godebug = none := by kernel_rfl

abbrev oN : ByteArray := ⟨#[111, 108, 100]⟩
abbrev nN : ByteArray := ⟨#[110, 101, 119]⟩
theorem nm_o : nmB oN = true := by decide
theorem nm_n : nmB nN = true := by decide
theorem o_n : oN ≠ nN := by decide
theorem n_o : nN ≠ oN := by decide
theorem n_first : (kl nN).before (kl oN) = true := by decide
abbrev mk (l : List FM) : MS := ⟨10000, l, [], 0⟩
theorem m1 (a : List Nat) (h : a.length ≤ 100) : appendM (newM 10000) oN a = (0, mk [⟨oN, a, 0⟩]) := append_new rfl nm_o rfl (by omega) (by decide) (by show 0 + a.length ≤ 10000; omega)
theorem m2 (a : List Nat) : syncM (mk [⟨oN, a, 0⟩]) oN = (0, mk [⟨oN, a, a.length⟩]) := by
  rw [sync_ok (f := ⟨oN, a, 0⟩) rfl nm_o (get_head rfl)]
  exact congrArg (fun l => (0, mk l)) (put_head (f := ⟨oN, a, 0⟩) (f' := ⟨oN, a, a.length⟩) (l := []) rfl)
theorem m3 (a b : List Nat) (ha : a.length ≤ 100) (hb : b.length ≤ 100) : appendM (mk [⟨oN, a, a.length⟩]) nN b = (0, mk [⟨nN, b, 0⟩, ⟨oN, a, a.length⟩]) := by
  rw [append_new rfl nm_n ((get_tail (f := ⟨oN, a, a.length⟩) o_n).trans rfl) (by omega) (by simp) (by simp [used]; omega)]
  exact congrArg (fun l => (0, mk l)) (show insM ⟨nN, b, 0⟩ [⟨oN, a, a.length⟩] = _ by unfold insM; rw [n_first]; rfl)
theorem m4 (a b : List Nat) : syncM (mk [⟨nN, b, 0⟩, ⟨oN, a, a.length⟩]) nN = (0, mk [⟨nN, b, b.length⟩, ⟨oN, a, a.length⟩]) := by
  rw [sync_ok (f := ⟨nN, b, 0⟩) rfl nm_n (get_head rfl)]
  exact congrArg (fun l => (0, mk l)) ((put_head (f := ⟨nN, b, 0⟩) (f' := ⟨nN, b, b.length⟩) rfl).trans (congrArg (⟨nN, b, b.length⟩ :: ·) ((put_tail (f := ⟨oN, a, a.length⟩) (f' := ⟨nN, b, b.length⟩) (l := []) o_n).trans rfl)))
theorem m5 (a b c : List Nat) (ha : a.length ≤ 100) (hb : b.length ≤ 100) (hc : c.length ≤ 100) : appendM (mk [⟨nN, b, b.length⟩, ⟨oN, a, a.length⟩]) nN c = (0, mk [⟨nN, b ++ c, b.length⟩, ⟨oN, a, a.length⟩]) := by
  rw [append_old (f := ⟨nN, b, b.length⟩) rfl nm_n (get_head rfl) (by simp only; omega) (by simp [used]; omega)]
  exact congrArg (fun l => (0, mk l)) ((put_head (f := ⟨nN, b, b.length⟩) (f' := ⟨nN, b ++ c, b.length⟩) rfl).trans (congrArg (⟨nN, b ++ c, b.length⟩ :: ·) ((put_tail (f := ⟨oN, a, a.length⟩) (f' := ⟨nN, b ++ c, b.length⟩) (l := []) o_n).trans rfl)))
theorem m6 (a b c : List Nat) : renameM (mk [⟨nN, b ++ c, b.length⟩, ⟨oN, a, a.length⟩]) nN oN = (0, mk [⟨oN, b ++ c, b.length⟩]) := by
  have e : bad (mk [⟨nN, b ++ c, b.length⟩, ⟨oN, a, a.length⟩]) [nN, oN] = 0 := bad_ok rfl (by simp [nm_n, nm_o])
  have hm : moved [⟨nN, b ++ c, b.length⟩, ⟨oN, a, a.length⟩] nN oN ⟨nN, b ++ c, b.length⟩ = [⟨oN, b ++ c, b.length⟩] := by
    have d1 : delM [⟨nN, b ++ c, b.length⟩, ⟨oN, a, a.length⟩] nN = [⟨oN, a, a.length⟩] := by
      unfold delM
      rw [List.filter_cons, List.filter_cons]
      simp [o_n]
    have d2 : delM [⟨oN, a, a.length⟩] oN = [] := by
      unfold delM
      simp
    unfold moved
    rw [d1, d2]
    rfl
  unfold renameM onFile
  rw [e, if_neg (by simp), get_head rfl, hit_nil rfl]
  exact congrArg (fun l => (0, mk l)) hm
theorem m7 (b c : List Nat) (n : Int) : crashM (mk [⟨oN, b ++ c, b.length⟩]) n = mk [⟨oN, b ++ cutL n c, (b ++ cutL n c).length⟩] := by
  unfold crashM crm
  simp only [List.map_cons, List.map_nil, take_after]
  rfl
theorem hit1 (l : List FM) : (hit (mk l)).2 = mk l := rfl
theorem r1 (x : List Nat) (n : Nat) (h : x.length ≤ 1000) : readM (mk [⟨oN, x, n⟩]) oN 0 1000 = (0, x) := read_all (f := ⟨oN, x, n⟩) rfl nm_o (get_head rfl) (by simp only; omega)
theorem low_free {w0 w : World} {B g : Nat} {S : Nat → Prop} {m : MS} {A : Option Addr} {xs : List Value} (h : Own B w0 w g S m) (hl : Lies w0 B A xs) (hB : B ≤ w0.heap.size) : LiesP w (fun k => ¬ S k ∧ k < w.heap.size) A xs :=
  (hl.below h.2.2).p fun k hk => ⟨fun hs => absurd (h.2.1 k hs) (Nat.not_le_of_lt hk), Nat.lt_of_lt_of_le hk (h.size hB)⟩
set_option maxRecDepth 100000 in
set_option maxHeartbeats 1600000 in
theorem walk (A1 A2 A3 : Option Addr) (c1 c2 c3 : Nat) (a b c : List Nat) (kp : Int) (w : World) (h1 : Lies w w.heap.size A1 (a.map vb)) (h2 : Lies w w.heap.size A2 (b.map vb)) (h3 : Lies w w.heap.size A3 (c.map vb)) (hc1 : a.length ≤ c1) (hc2 : b.length ≤ c2) (hc3 : c.length ≤ c3)
    (ha8 : ∀ x, x ∈ a → x < 256) (hb8 : ∀ x, x ∈ b → x < 256) (hc8 : ∀ x, x ∈ c → x < 256) (hkp : (Lit.int .i64 kp).wf = true) :
    Calls Try.prog 8 #[.slice A1 a.length c1, .slice A2 b.length c2, .slice A3 c.length c3, .int .i64 kp] w (Yes w) := by
  have L1 := Lib.hid h1
  have L2 := Lib.hid h2
  have L3 := Lib.hid h3
  have H8a := Lib.hid ha8
  have H8b := Lib.hid hb8
  have H8c := Lib.hid hc8
  have HKP := Lib.hid hkp
  clear h1 h2 h3 ha8 hb8 hc8 hkp
  go_enter Try.func8, Try.ntmps8
  go_wp2_with fail
  refine (alive_any _).mono ?_; rintro e W1 ⟨rfl, hb1⟩
  have HB1 := Lib.hid hb1
  clear hb1
  by_cases k1 : 100 < a.length
  · have d1 : decide ((100 : Int) < (a.length : Int)) = true := by simp; omega
    go_wp2_with fail
    go_ret
    exact ⟨rfl, HB1.out⟩
  · have d1 : decide ((100 : Int) < (a.length : Int)) = false := by simp; omega
    by_cases k2 : 100 < b.length
    · have d2 : decide ((100 : Int) < (b.length : Int)) = true := by simp; omega
      go_wp2_with fail
      go_ret
      exact ⟨rfl, HB1.out⟩
    · have d2 : decide ((100 : Int) < (b.length : Int)) = false := by simp; omega
      by_cases k3 : 100 < c.length
      · have d3 : decide ((100 : Int) < (c.length : Int)) = true := by simp; omega
        go_wp2_with fail
        go_ret
        exact ⟨rfl, HB1.out⟩
      · have d3 : decide ((100 : Int) < (c.length : Int)) = false := by simp; omega
        go_wp2_with fail
        refine (new_own 10000 (by decide) W1 HB1.out.size HB1.out).mono ?_
        rintro e W2 ⟨g, S2, rfl, hO2, _, _, _⟩
        have O2 := Lib.hid hO2
        clear hO2
        go_wp2_with fail
        refine (append_any oN A1 c1 a O2.out.1 (show 0 ≤ 1000000 by decide) (low_free O2.out L1.out (Nat.le_refl _)) hc1 (by omega) H8a.out).mono ?_
        intro e W3 ht
        obtain ⟨S3, rfl, hO, _, _⟩ := O2.out.told (O2.out.size (Nat.le_refl _)) ht
        rw [m1 a (by omega)] at hO ⊢
        have O3 := Lib.hid hO
        clear ht hO
        go_wp2_with fail
        refine (sync_any oN O3.out.1 (show 0 ≤ 1000000 by decide)).mono ?_
        intro e W4 ht
        obtain ⟨S4, rfl, hO, _, _⟩ := O3.out.told (O3.out.size (Nat.le_refl _)) ht
        rw [m2 a] at hO ⊢
        have O4 := Lib.hid hO
        clear ht hO
        go_wp2_with fail
        refine (append_any nN A2 c2 b O4.out.1 (show 0 ≤ 1000000 by decide) (low_free O4.out L2.out (Nat.le_refl _)) hc2 (by omega) H8b.out).mono ?_
        intro e W5 ht
        obtain ⟨S5, rfl, hO, _, _⟩ := O4.out.told (O4.out.size (Nat.le_refl _)) ht
        rw [m3 a b (by omega) (by omega)] at hO ⊢
        have O5 := Lib.hid hO
        clear ht hO
        go_wp2_with fail
        refine (sync_any nN O5.out.1 (show 0 ≤ 1000000 by decide)).mono ?_
        intro e W6 ht
        obtain ⟨S6, rfl, hO, _, _⟩ := O5.out.told (O5.out.size (Nat.le_refl _)) ht
        rw [m4 a b] at hO ⊢
        have O6 := Lib.hid hO
        clear ht hO
        go_wp2_with fail
        refine (append_any nN A3 c3 c O6.out.1 (show 0 ≤ 1000000 by decide) (low_free O6.out L3.out (Nat.le_refl _)) hc3 (by omega) H8c.out).mono ?_
        intro e W7 ht
        obtain ⟨S7, rfl, hO, _, _⟩ := O6.out.told (O6.out.size (Nat.le_refl _)) ht
        rw [m5 a b c (by omega) (by omega) (by omega)] at hO ⊢
        have O7 := Lib.hid hO
        clear ht hO
        go_wp2_with fail
        refine (rename_any nN oN O7.out.1 (show 0 ≤ 1000000 by decide)).mono ?_
        intro e W8 ht
        obtain ⟨S8, rfl, hO, _, _⟩ := O7.out.told (O7.out.size (Nat.le_refl _)) ht
        rw [m6 a b c] at hO ⊢
        have O8 := Lib.hid hO
        clear ht hO
        go_wp2_with fail
        have hxl : (b ++ c).length ≤ 1000 := by rw [List.length_append]; omega
        refine (read_any oN 0 1000 (by decide) (by decide) O8.out.1 (show 0 ≤ 1000000 by decide)).mono ?_
        intro e W9 ht
        obtain ⟨Ax, cx, rfl, hlx, hO, _⟩ := O8.out.gave (O8.out.size (Nat.le_refl _)) ht
        rw [r1 (b ++ c) _ hxl] at hlx ⊢
        rw [hit1] at hO
        obtain ⟨x, hx⟩ : ∃ x, x = b ++ c := ⟨_, rfl⟩
        rw [← hx] at hlx ⊢
        have HX := Lib.hid hx
        have O9 := Lib.hid hO
        have LX := Lib.hid hlx
        clear ht hO hlx hx
        go_wp2_with fail
        refine (crash_any kp HKP.out O9.out.1).mono ?_
        intro e W10 ht
        obtain ⟨S10, rfl, hO, hK, hS⟩ := O9.out.done (O9.out.size (Nat.le_refl _)) ht
        rw [m7] at hO
        obtain ⟨y, hy⟩ : ∃ y, y = b ++ cutL kp c := ⟨_, rfl⟩
        rw [← hy] at hO
        have hyl : y.length ≤ 1000 := by rw [hy, List.length_append, cutL_def, List.length_take]; omega
        have HY := Lib.hid hy
        have O10 := Lib.hid hO
        have LX10 := Lib.hid (stays LX.out hK hS)
        clear ht hO hK hS LX hy
        go_wp2_with fail
        refine (read_any oN 0 1000 (by decide) (by decide) O10.out.1 (show 0 ≤ 1000000 by decide)).mono ?_
        intro e W11 ht
        obtain ⟨Ay, cy, rfl, hly, hO, hK⟩ := O10.out.gave (O10.out.size (Nat.le_refl _)) ht
        rw [r1 y _ hyl] at hly ⊢
        rw [hit1] at hO
        have O11 := Lib.hid hO
        have LY := Lib.hid hly
        have LX11 := Lib.hid (stays LX10.out hK fun k hk => .inl hk)
        clear ht hO hly hK LX10
        go_wp2_with fail
        refine (list_any O11.out.1).mono ?_
        rintro e W12 ⟨ss, Al, cl, rfl, hp, _, hb12⟩
        have hsl : ss.length = 1 := hp.length_eq
        rw [hsl]
        have HB12 : Hid (Below w.heap.size w W12) := Lib.hid (O11.out.2.2.trans (hb12.mono (O11.out.size (Nat.le_refl _))))
        have hsz := Nat.le_trans (O11.out.size (Nat.le_refl _)) hb12.size
        have q1 := fun n => run_str (c := cx) (((LX11.out.lies (B := W11.heap.size) fun k hk => hk.2.2).below hb12).up hb12.size |>.below (Joins.below_draws _ W12 n))
        have q2 := fun n => run_str (c := cy) (((LY.out.lies (B := W11.heap.size) fun k hk => hk.2.2).below hb12).up hb12.size |>.below (Joins.below_draws _ W12 n))
        have q4 := fun n => run_str (c := c2) ((L2.out.below HB12.out).below (Joins.below_draws _ W12 n |>.mono hsz))
        have q5 := fun n => run_str (c := c3) ((L3.out.below HB12.out).below (Joins.below_draws _ W12 n |>.mono hsz))
        have q6 := fun n => run_str (c := c3) (((L3.out.below HB12.out).below (Joins.below_draws _ W12 n |>.mono hsz)).front (ys := (cutL kp c).map vb) (by rw [cutL_def, List.map_take]; exact List.take_prefix _ _))
        have hsx : str x = str b ++ str c := by rw [HX.out, str_append]
        have hsy : str y = str b ++ str (cutL kp c) := by rw [HY.out, str_append]
        rw [hsx] at q1
        rw [hsy] at q2
        have hadd := add_run b (cutL kp c) (by omega) (by rw [cutL_def, List.length_take]; omega)
        have hadd2 := add_run b c (by omega) (by omega)
        have HQ : Hid (c.length ≤ 1000) := Lib.hid (by omega)
        clear hp hb12 hsl LX11 LY hsx hsy hxl hyl
        go_wp2_with fail
        go_quiet (first
          | (go_at_call 19; refine Calls.quiet_of_same ((num_any _ _).mono fun e w' hh => ⟨hh.1, hh.2.symm⟩))
          | (go_at_call 20; refine Calls.quiet_of_same ((cut_any _ _ _ kp _ HKP.out (by first | exact hc3) (by have := HQ.out; omega)).mono fun e w' hh => ⟨hh.1, hh.2.symm⟩)))
        go_wp2_with fail
        go_ret
        exact ⟨rfl, HB12.out.trans ((Joins.below_draws _ _ _).mono hsz)⟩

set_option maxRecDepth 100000 in
theorem lifted (os : Os) (started : os.Started) (H : Type) (enc : TypeId × Value → H) :
    ReturnsInHanded {} Try.checked os 8 .any (Rows.diskSwapsSpec.pre6 enc Try.prog Try.f8 Rows.diskSwapsRow.domain false) (Rows.diskSwapsSpec.post enc Try.prog Try.f8 false true false false) := by
  refine lift_true (C := Try.checked) own started (by kernel_rfl) Try.func8
    (ChangeSpec.witness6 (enc := enc) (C := Try.checked) false ⟨#[], #[.slice none 0 0, .slice none 0 0, .slice none 0 0, .int .i64 0], []⟩ 8 (by kernel_rfl) (by kernel_rfl) (by kernel_rfl) (by kernel_rfl))
    (by kernel_rfl) (by kernel_rfl) (by kernel_rfl) Try.underlying4 rfl ?_ ?_
  · intro ds hds
    match ds, hds with
    | [d1, d2, d3, d4], _ => exact ⟨rfl, rfl, rfl⟩
  · intro W base args ds p hval0 hA0 hlt _
    have hval : ∀ (j : Nat) t v, Try.f8.params[j]? = some t → args[j]? = some v → Value.okWide Try.prog W .any base t v := hval0
    have hA : DataW.TrodAll enc Try.prog W 0 (fun _ => true) true Try.f8.params.toList args.toList ds p := hA0
    rw [Try.params8] at hA hval
    obtain ⟨v0, vs0, d0, ds0, p0, q0, hargs, rfl, rfl, h0, r0⟩ := trodAll_cons hA
    obtain ⟨v1, vs1, d1, ds1, p1, q1, rfl, rfl, rfl, h1, r1⟩ := trodAll_cons r0
    obtain ⟨v2, vs2, d2, ds2, p2, q2, rfl, rfl, rfl, h2, r2⟩ := trodAll_cons r1
    obtain ⟨v3, vs3, d3, ds3, p3, q3, rfl, rfl, rfl, h3, r3⟩ := trodAll_cons r2
    obtain ⟨rfl, rfl, rfl⟩ := trodAll_nil r3
    obtain rfl : args = #[v0, v1, v2, v3] := by cases args; simp_all
    obtain ⟨A0, c0, zs0, rfl, hc0, hm0, hl0, hw0⟩ := open_nums Try.underlying31 Try.underlying5 (by kernel_rfl) (hval 0 _ v0 rfl rfl) h0 (fun x hx => hlt x (by simp [hx]))
    obtain ⟨bs0, rfl, hz0⟩ := as_nat zs0 fun n hn => (u8_of (hw0 n hn)).1
    have hbs0 := fun b hb => (u8_of (hw0 _ (hz0 b hb))).2
    rw [List.length_map] at hc0 ⊢
    rw [List.map_map] at hl0
    obtain ⟨A1, c1, zs1, rfl, hc1, hm1, hl1, hw1⟩ := open_nums Try.underlying31 Try.underlying5 (by kernel_rfl) (hval 1 _ v1 rfl rfl) h1 (fun x hx => hlt x (by simp [hx]))
    obtain ⟨bs1, rfl, hz1⟩ := as_nat zs1 fun n hn => (u8_of (hw1 n hn)).1
    have hbs1 := fun b hb => (u8_of (hw1 _ (hz1 b hb))).2
    rw [List.length_map] at hc1 ⊢
    rw [List.map_map] at hl1
    obtain ⟨A2, c2, zs2, rfl, hc2, hm2, hl2, hw2⟩ := open_nums Try.underlying31 Try.underlying5 (by kernel_rfl) (hval 2 _ v2 rfl rfl) h2 (fun x hx => hlt x (by simp [hx]))
    obtain ⟨bs2, rfl, hz2⟩ := as_nat zs2 fun n hn => (u8_of (hw2 n hn)).1
    have hbs2 := fun b hb => (u8_of (hw2 _ (hz2 b hb))).2
    rw [List.length_map] at hc2 ⊢
    rw [List.map_map] at hl2
    obtain ⟨a3, rfl, rfl, rfl, w3⟩ := open_int Try.underlying3 (hval 3 _ v3 rfl rfl) h3
    have b3 := i64_of w3
    exact walk A0 A1 A2 c0 c1 c2 bs0 bs1 bs2 a3 W hl0 hl1 hl2 hc0 hc1 hc2 (fun b hb => by have := hbs0 b hb; omega) (fun b hb => by have := hbs1 b hb; omega) (fun b hb => by have := hbs2 b hb; omega) w3

theorem over : Rows.diskSwapsRow.holds Try.pinned (OpenSpec.ofChange Rows.diskSwapsSpec) :=
  OpenClaim.holds_of_wide 8 Try.f8 rfl rfl rfl rfl rfl rfl rfl ⟨rfl, rfl, rfl, rfl, rfl⟩ rfl rfl rfl rfl rfl (by kernel_rfl) Try.func8 (by kernel_rfl)
    (of_decide_eq_true (by kernel_rfl)) (by unfold Func.isWrapper; first | (rw [if_pos (by decide +kernel)]; kernel_rfl) | (rw [if_neg (by decide +kernel)]; exact ⟨rfl, rfl⟩))
    (fun os started H enc _ => lifted os started H enc)

theorem proved : Rows.DiskSwapsSaid :=
  over
#print axioms proved
end Go.Proofs.Ytcgicfcefphgkaa.diskSwaps
