/- In every world DiskSynced answers true and leaves all that was there as it was: so it does for every input; no conditions. -/
import Derived.Test.YtcgicfcefphgkaaDcut
namespace Go.Proofs.Ytcgicfcefphgkaa.diskSynced
set_option linter.unusedVariables false
set_option linter.unusedSimpArgs false
open Go.ChangeShapes Go.WideShapes Go.ChangeAt Go.RowKit Lift Go.Maps Ik Dk

theorem own : ownKnob Try.prog.godebug = none := by kernel_rfl

abbrev fN : ByteArray := ⟨#[102]⟩
abbrev gN : ByteArray := ⟨#[103]⟩
theorem nm_f : nmB fN = true := by decide
theorem nm_g : nmB gN = true := by decide
theorem f_g : fN ≠ gN := by decide
theorem g_f : (kl gN).before (kl fN) = false := by decide
abbrev s1 (a : List Nat) (n : Nat) : MS := ⟨10000, [⟨fN, a, n⟩], [], 0⟩
abbrev s2 (a c : List Nat) (n k : Nat) : MS := ⟨10000, [⟨fN, a, n⟩, ⟨gN, c, k⟩], [], 0⟩
theorem m1 (a : List Nat) (h : a.length ≤ 200) : appendM (newM 10000) fN a = (0, s1 a 0) := append_new rfl nm_f rfl (by omega) (by decide) (by show 0 + a.length ≤ 10000; omega)
theorem m2 (a : List Nat) : syncM (s1 a 0) fN = (0, s1 a a.length) := by
  rw [sync_ok (f := ⟨fN, a, 0⟩) rfl nm_f (get_head rfl)]
  exact congrArg (fun l => (0, ({ room := 10000, fs := l, armed := [], failed := 0 } : MS))) (put_head (f := ⟨fN, a, 0⟩) (f' := ⟨fN, a, a.length⟩) (l := []) rfl)
theorem m3 (a b : List Nat) (ha : a.length ≤ 200) (hb : b.length ≤ 200) : appendM (s1 a a.length) fN b = (0, s1 (a ++ b) a.length) := by
  rw [append_old (f := ⟨fN, a, a.length⟩) rfl nm_f (get_head rfl) (by simp only; omega) (by simp [used]; omega)]
  exact congrArg (fun l => (0, ({ room := 10000, fs := l, armed := [], failed := 0 } : MS))) (put_head (f := ⟨fN, a, a.length⟩) (f' := ⟨fN, a ++ b, a.length⟩) (l := []) rfl)
theorem m4 (a b c : List Nat) (ha : a.length ≤ 200) (hb : b.length ≤ 200) (hc : c.length ≤ 200) : appendM (s1 (a ++ b) a.length) gN c = (0, s2 (a ++ b) c a.length 0) := by
  rw [append_new rfl nm_g ((get_tail (f := ⟨fN, a ++ b, a.length⟩) f_g).trans rfl) (by omega) (by simp) (by simp [used]; omega)]
  exact congrArg (fun l => (0, ({ room := 10000, fs := l, armed := [], failed := 0 } : MS))) (ins_one ⟨gN, c, 0⟩ ⟨fN, a ++ b, a.length⟩ g_f)
theorem m5 (a b c : List Nat) (n : Int) : crashM (s2 (a ++ b) c a.length 0) n = s2 (a ++ cutL n b) (cutL n c) (a ++ cutL n b).length (cutL n c).length := by
  unfold crashM crm
  simp only [List.map_cons, List.map_nil, take_after, Nat.zero_add]
  rfl
theorem hit2 (x y : List Nat) (n k : Nat) : (hit (s2 x y n k)).2 = s2 x y n k := rfl
theorem m6 (x y : List Nat) : crashM (s2 x y x.length y.length) 0 = s2 x y x.length y.length := by
  unfold crashM crm
  simp
theorem r1 (x y : List Nat) (n k : Nat) (h : x.length ≤ 1000) : readM (s2 x y n k) fN 0 1000 = (0, x) := read_all (f := ⟨fN, x, n⟩) rfl nm_f (get_head rfl) (by simp only; omega)
theorem r2 (x y : List Nat) (n k : Nat) (h : y.length ≤ 1000) : readM (s2 x y n k) gN 0 1000 = (0, y) := read_all (f := ⟨gN, y, k⟩) rfl nm_g ((get_tail (f := ⟨fN, x, n⟩) f_g).trans (get_head rfl)) (by simp only; omega)
theorem low_free {w0 w : World} {B g : Nat} {S : Nat → Prop} {m : MS} {A : Option Addr} {xs : List Value} (h : Own B w0 w g S m) (hl : Lies w0 B A xs) (hB : B ≤ w0.heap.size) : LiesP w (fun k => ¬ S k ∧ k < w.heap.size) A xs :=
  (hl.below h.2.2).p fun k hk => ⟨fun hs => absurd (h.2.1 k hs) (Nat.not_le_of_lt hk), Nat.lt_of_lt_of_le hk (h.size hB)⟩
set_option maxRecDepth 100000 in
set_option maxHeartbeats 1600000 in
theorem walk (A1 A2 A3 : Option Addr) (c1 c2 c3 : Nat) (a b c : List Nat) (kp : Int) (w : World) (h1 : Lies w w.heap.size A1 (a.map vb)) (h2 : Lies w w.heap.size A2 (b.map vb)) (h3 : Lies w w.heap.size A3 (c.map vb)) (hc1 : a.length ≤ c1) (hc2 : b.length ≤ c2) (hc3 : c.length ≤ c3)
    (ha8 : ∀ x, x ∈ a → x < 256) (hb8 : ∀ x, x ∈ b → x < 256) (hc8 : ∀ x, x ∈ c → x < 256) (hkp : (Lit.int .i64 kp).wf = true) :
    Calls Try.prog 4 #[.slice A1 a.length c1, .slice A2 b.length c2, .slice A3 c.length c3, .int .i64 kp] w (Yes w) := by
  have L1 := Lib.hid h1
  have L2 := Lib.hid h2
  have L3 := Lib.hid h3
  have H8a := Lib.hid ha8
  have H8b := Lib.hid hb8
  have H8c := Lib.hid hc8
  have HKP := Lib.hid hkp
  clear h1 h2 h3 ha8 hb8 hc8 hkp
  go_enter Try.func4, Try.ntmps4
  go_wp2_with fail
  refine (alive_any _).mono ?_; rintro e W1 ⟨rfl, hb1⟩
  have HB1 := Lib.hid hb1
  clear hb1
  by_cases k1 : 200 < a.length
  · have d1 : decide ((200 : Int) < (a.length : Int)) = true := by simp; omega
    go_wp2_with fail
    go_ret
    exact ⟨rfl, HB1.out⟩
  · have d1 : decide ((200 : Int) < (a.length : Int)) = false := by simp; omega
    by_cases k2 : 200 < b.length
    · have d2 : decide ((200 : Int) < (b.length : Int)) = true := by simp; omega
      go_wp2_with fail
      go_ret
      exact ⟨rfl, HB1.out⟩
    · have d2 : decide ((200 : Int) < (b.length : Int)) = false := by simp; omega
      by_cases k3 : 200 < c.length
      · have d3 : decide ((200 : Int) < (c.length : Int)) = true := by simp; omega
        go_wp2_with fail
        go_ret
        exact ⟨rfl, HB1.out⟩
      · have d3 : decide ((200 : Int) < (c.length : Int)) = false := by simp; omega
        go_wp2_with fail
        refine (new_own 10000 (by decide) W1 HB1.out.size HB1.out).mono ?_
        rintro e W2 ⟨g, S2, rfl, hO2, _, _, _⟩
        have O2 := Lib.hid hO2
        clear hO2
        go_wp2_with fail
        refine (append_any fN A1 c1 a O2.out.1 (show 0 ≤ 1000000 by decide) (low_free O2.out L1.out (Nat.le_refl _)) hc1 (by omega) H8a.out).mono ?_
        intro e W3 ht
        obtain ⟨S3, rfl, hO, _, _⟩ := O2.out.told (O2.out.size (Nat.le_refl _)) ht
        rw [m1 a (by omega)] at hO ⊢
        have O3 := Lib.hid hO
        clear ht hO
        go_wp2_with fail
        refine (sync_any fN O3.out.1 (show 0 ≤ 1000000 by decide)).mono ?_
        intro e W4 ht
        obtain ⟨S4, rfl, hO, _, _⟩ := O3.out.told (O3.out.size (Nat.le_refl _)) ht
        rw [m2 a] at hO ⊢
        have O4 := Lib.hid hO
        clear ht hO
        go_wp2_with fail
        refine (append_any fN A2 c2 b O4.out.1 (show 0 ≤ 1000000 by decide) (low_free O4.out L2.out (Nat.le_refl _)) hc2 (by omega) H8b.out).mono ?_
        intro e W5 ht
        obtain ⟨S5, rfl, hO, _, _⟩ := O4.out.told (O4.out.size (Nat.le_refl _)) ht
        rw [m3 a b (by omega) (by omega)] at hO ⊢
        have O5 := Lib.hid hO
        clear ht hO
        go_wp2_with fail
        refine (append_any gN A3 c3 c O5.out.1 (show 0 ≤ 1000000 by decide) (low_free O5.out L3.out (Nat.le_refl _)) hc3 (by omega) H8c.out).mono ?_
        intro e W6 ht
        obtain ⟨S6, rfl, hO, _, _⟩ := O5.out.told (O5.out.size (Nat.le_refl _)) ht
        rw [m4 a b c (by omega) (by omega) (by omega)] at hO ⊢
        have O6 := Lib.hid hO
        clear ht hO
        go_wp2_with fail
        refine (crash_any kp HKP.out O6.out.1).mono ?_
        intro e W7 ht
        obtain ⟨S7, rfl, hO, _, _⟩ := O6.out.done (O6.out.size (Nat.le_refl _)) ht
        rw [m5] at hO
        obtain ⟨y, hy⟩ : ∃ y, y = cutL kp c := ⟨_, rfl⟩
        obtain ⟨x, hx⟩ : ∃ x, x = a ++ cutL kp b := ⟨_, rfl⟩
        have hxl : x.length ≤ 1000 := by rw [hx, List.length_append, cutL_def, List.length_take]; omega
        have hyl : y.length ≤ 1000 := by rw [hy, cutL_def, List.length_take]; omega
        rw [← hx, ← hy] at hO
        have O7 := Lib.hid hO
        have HX := Lib.hid hx
        have HY := Lib.hid hy
        clear ht hO hx hy
        go_wp2_with fail
        refine (read_any fN 0 1000 (by decide) (by decide) O7.out.1 (show 0 ≤ 1000000 by decide)).mono ?_
        intro e W8 ht
        obtain ⟨Ax, cx, rfl, hlx, hO, _⟩ := O7.out.gave (O7.out.size (Nat.le_refl _)) ht
        rw [r1 x y _ _ hxl] at hlx ⊢
        rw [hit2] at hO
        have O8 := Lib.hid hO
        have LX := Lib.hid hlx
        clear ht hO hlx
        go_wp2_with fail
        refine (read_any gN 0 1000 (by decide) (by decide) O8.out.1 (show 0 ≤ 1000000 by decide)).mono ?_
        intro e W9 ht
        obtain ⟨Ay, cy, rfl, hly, hO, hK⟩ := O8.out.gave (O8.out.size (Nat.le_refl _)) ht
        rw [r2 x y _ _ hyl] at hly ⊢
        rw [hit2] at hO
        have O9 := Lib.hid hO
        have LY := Lib.hid hly
        have LX9 := Lib.hid (stays LX.out hK fun k hk => .inl hk)
        clear ht hO hly hK LX
        go_wp2_with fail
        refine (crash_any 0 (by decide) O9.out.1).mono ?_
        intro e W10 ht
        obtain ⟨S10, rfl, hO, hK, hS⟩ := O9.out.done (O9.out.size (Nat.le_refl _)) ht
        rw [m6] at hO
        have O10 := Lib.hid hO
        have LX10 := Lib.hid (stays LX9.out hK hS)
        have LY10 := Lib.hid (stays LY.out hK hS)
        clear ht hO hK hS LX9 LY
        go_wp2_with fail
        refine (read_any fN 0 1000 (by decide) (by decide) O10.out.1 (show 0 ≤ 1000000 by decide)).mono ?_
        intro e W11 ht
        obtain ⟨Az, cz, rfl, hlz, hO, hK⟩ := O10.out.gave (O10.out.size (Nat.le_refl _)) ht
        rw [r1 x y _ _ hxl] at hlz ⊢
        rw [hit2] at hO
        have O11 := Lib.hid hO
        have q1 := fun n => run_str (c := cz) (((hlz.lies (B := W11.heap.size) fun k hk => hk.2.2)).below (Joins.below_draws _ W11 n))
        have q2 := fun n => run_str (c := cx) ((((stays LX10.out hK fun k hk => .inl hk).lies (B := W11.heap.size) fun k hk => hk.2.2)).below (Joins.below_draws _ W11 n))
        have q3 := fun n => run_str (c := cy) ((((stays LY10.out hK fun k hk => .inl hk).lies (B := W11.heap.size) fun k hk => hk.2.2)).below (Joins.below_draws _ W11 n))
        have q4 := fun n => run_str (c := c1) ((L1.out.below hO.2.2).below (Joins.below_draws _ W11 n |>.mono (O11.out.size (Nat.le_refl _))))
        have q5 := fun n => run_str (c := c2) (((L2.out.below hO.2.2).below (Joins.below_draws _ W11 n |>.mono (O11.out.size (Nat.le_refl _)))).front (ys := (cutL kp b).map vb) (by rw [cutL_def, List.map_take]; exact List.take_prefix _ _))
        have q6 := fun n => run_str (c := c3) (((L3.out.below hO.2.2).below (Joins.below_draws _ W11 n |>.mono (O11.out.size (Nat.le_refl _)))).front (ys := (cutL kp c).map vb) (by rw [cutL_def, List.map_take]; exact List.take_prefix _ _))
        have hsx : str x = str a ++ str (cutL kp b) := by rw [HX.out, str_append]
        have hsy : str y = str (cutL kp c) := by rw [HY.out]
        rw [hsx] at q1 q2
        rw [hsy] at q3
        have hadd := add_run a (cutL kp b) (by omega) (by rw [cutL_def, List.length_take]; omega)
        have HQ : Hid (a.length ≤ 1000 ∧ b.length ≤ 1000 ∧ c.length ≤ 1000) := Lib.hid (by omega)
        clear ht hO hK hlz LX10 LY10 hsx hsy
        go_wp2_with fail
        go_quiet (first
          | (go_at_call 19; refine Calls.quiet_of_same ((num_any _ _).mono fun e w' hh => ⟨hh.1, hh.2.symm⟩))
          | (go_at_call 20; refine Calls.quiet_of_same ((cut_any _ _ _ kp _ HKP.out (by first | exact hc2 | exact hc3) (by have := HQ.out; omega)).mono fun e w' hh => ⟨hh.1, hh.2.symm⟩)))
        go_wp2_with fail
        go_ret
        exact ⟨rfl, O11.out.2.2.trans ((Joins.below_draws _ _ _).mono (O11.out.size (Nat.le_refl _)))⟩

set_option maxRecDepth 100000 in
theorem lifted (os : Os) (started : os.Started) (H : Type) (enc : TypeId × Value → H) :
    ReturnsInHanded {} Try.checked os 4 .any (Rows.diskSyncedSpec.pre6 enc Try.prog Try.f4 Rows.diskSyncedRow.domain false) (Rows.diskSyncedSpec.post enc Try.prog Try.f4 false true false false) := by
  refine lift_true (C := Try.checked) own started (by kernel_rfl) Try.func4
    (ChangeSpec.witness6 (enc := enc) (C := Try.checked) false ⟨#[], #[.slice none 0 0, .slice none 0 0, .slice none 0 0, .int .i64 0], []⟩ 8 (by kernel_rfl) (by kernel_rfl) (by kernel_rfl) (by kernel_rfl))
    (by kernel_rfl) (by kernel_rfl) (by kernel_rfl) Try.underlying4 rfl ?_ ?_
  · intro ds hds
    match ds, hds with
    | [d1, d2, d3, d4], _ => exact ⟨rfl, rfl, rfl⟩
  · intro W base args ds p hval0 hA0 hlt _
    have hval : ∀ (j : Nat) t v, Try.f4.params[j]? = some t → args[j]? = some v → Value.okWide Try.prog W .any base t v := hval0
    have hA : DataW.TrodAll enc Try.prog W 0 (fun _ => true) true Try.f4.params.toList args.toList ds p := hA0
    rw [Try.params4] at hA hval
    obtain ⟨v0, vs0, d0, ds0, p0, q0, hargs, rfl, rfl, h0, r0⟩ := trodAll_cons hA
    obtain ⟨v1, vs1, d1, ds1, p1, q1, rfl, rfl, rfl, h1, r1⟩ := trodAll_cons r0
    obtain ⟨v2, vs2, d2, ds2, p2, q2, rfl, rfl, rfl, h2, r2⟩ := trodAll_cons r1
    obtain ⟨v3, vs3, d3, ds3, p3, q3, rfl, rfl, rfl, h3, r3⟩ := trodAll_cons r2
    obtain ⟨rfl, rfl, rfl⟩ := trodAll_nil r3
    obtain rfl : args = #[v0, v1, v2, v3] := by cases args; simp_all
    obtain ⟨A0, c0, zs0, rfl, hc0, hm0, hl0, hw0⟩ := open_nums Try.underlying31 Try.underlying5 (by kernel_rfl) (hval 0 _ v0 rfl rfl) h0 (fun x hx => hlt x (by simp [hx]))
    obtain ⟨bs0, rfl, hz0⟩ := as_nat zs0 fun n hn => (u8_of (hw0 n hn)).1
    have hbs0 := fun b hb => (u8_of (hw0 _ (hz0 b hb))).2
    rw [List.length_map] at hc0 ⊢
    rw [List.map_map] at hl0
    obtain ⟨A1, c1, zs1, rfl, hc1, hm1, hl1, hw1⟩ := open_nums Try.underlying31 Try.underlying5 (by kernel_rfl) (hval 1 _ v1 rfl rfl) h1 (fun x hx => hlt x (by simp [hx]))
    obtain ⟨bs1, rfl, hz1⟩ := as_nat zs1 fun n hn => (u8_of (hw1 n hn)).1
    have hbs1 := fun b hb => (u8_of (hw1 _ (hz1 b hb))).2
    rw [List.length_map] at hc1 ⊢
    rw [List.map_map] at hl1
    obtain ⟨A2, c2, zs2, rfl, hc2, hm2, hl2, hw2⟩ := open_nums Try.underlying31 Try.underlying5 (by kernel_rfl) (hval 2 _ v2 rfl rfl) h2 (fun x hx => hlt x (by simp [hx]))
    obtain ⟨bs2, rfl, hz2⟩ := as_nat zs2 fun n hn => (u8_of (hw2 n hn)).1
    have hbs2 := fun b hb => (u8_of (hw2 _ (hz2 b hb))).2
    rw [List.length_map] at hc2 ⊢
    rw [List.map_map] at hl2
    obtain ⟨a3, rfl, rfl, rfl, w3⟩ := open_int Try.underlying3 (hval 3 _ v3 rfl rfl) h3
    have b3 := i64_of w3
    exact walk A0 A1 A2 c0 c1 c2 bs0 bs1 bs2 a3 W hl0 hl1 hl2 hc0 hc1 hc2 (fun b hb => by have := hbs0 b hb; omega) (fun b hb => by have := hbs1 b hb; omega) (fun b hb => by have := hbs2 b hb; omega) w3

theorem over : Rows.diskSyncedRow.holds Try.pinned (OpenSpec.ofChange Rows.diskSyncedSpec) :=
  OpenClaim.holds_of_wide 4 Try.f4 rfl rfl rfl rfl rfl rfl rfl ⟨rfl, rfl, rfl, rfl, rfl⟩ rfl rfl rfl rfl rfl (by kernel_rfl) Try.func4 (by kernel_rfl)
    (of_decide_eq_true (by kernel_rfl)) (by unfold Func.isWrapper; first | (rw [if_pos (by decide +kernel)]; kernel_rfl) | (rw [if_neg (by decide +kernel)]; exact ⟨rfl, rfl⟩))
    (fun os started H enc _ => lifted os started H enc)

theorem proved : Rows.DiskSyncedSaid :=
  over
#print axioms proved
end Go.Proofs.Ytcgicfcefphgkaa.diskSynced
