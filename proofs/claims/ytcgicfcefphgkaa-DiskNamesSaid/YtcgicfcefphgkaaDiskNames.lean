/- In every world DiskNames answers true and leaves all that was there as it was: so it does for every input; no conditions. -/
import Derived.Test.YtcgicfcefphgkaaDcut
import Derived.Test.YtcgicfcefphgkaaDrename
import Derived.Test.YtcgicfcefphgkaaDlist
import Derived.Test.YtcgicfcefphgkaaDnamed
namespace Go.Proofs.Ytcgicfcefphgkaa.diskNames
set_option linter.unusedVariables false
set_option linter.unusedSimpArgs false
open Go.ChangeShapes Go.WideShapes Go.ChangeAt Go.RowKit Lift Go.Maps Ik Dk

theorem own : ownKnob Try.prog.godebug = none := by kernel_rfl

abbrev mk (l : List FM) : MS := ⟨1000, l, [], 0⟩
theorem a_no {x : ByteArray} (h : nmB x = false) : appendM (newM 1000) x [120] = (6, newM 1000) := by
  unfold appendM
  rw [bad_name rfl (by simp [h]), if_pos (by decide), hit_nil rfl]
theorem s_no {x : ByteArray} (h : nmB x = false) : syncM (newM 1000) x = (6, newM 1000) := by
  unfold syncM onFile
  rw [bad_name rfl (by simp [h]), if_pos (by decide), hit_nil rfl]
theorem z_no {x : ByteArray} (h : nmB x = false) : sizeM (newM 1000) x = (6, 0) := by
  unfold sizeM onFile
  rw [bad_name rfl (by simp [h]), if_pos (by decide)]
theorem r_no {m : MS} {x y : ByteArray} (hm : m.armed = []) (h : nmB x = false ∨ nmB y = false) : renameM m x y = (6, m) := by
  unfold renameM onFile
  rw [bad_name hm (by rcases h with h | h <;> simp [h]), if_pos (by decide), hit_nil hm]
theorem a_yes {x : ByteArray} (h : nmB x = true) : appendM (newM 1000) x [120] = (0, mk [⟨x, [120], 0⟩]) := append_new rfl h rfl (by decide) (by decide) (by decide)
theorem s_yes {x : ByteArray} (h : nmB x = true) : syncM (mk [⟨x, [120], 0⟩]) x = (0, mk [⟨x, [120], 1⟩]) := by
  rw [sync_ok (f := ⟨x, [120], 0⟩) rfl h (get_head rfl)]
  exact congrArg (fun l => (0, mk l)) (put_head (f := ⟨x, [120], 0⟩) (f' := ⟨x, [120], 1⟩) (l := []) rfl)
theorem z_yes {x : ByteArray} (h : nmB x = true) : sizeM (mk [⟨x, [120], 1⟩]) x = (0, 1) := file_ok (f := ⟨x, [120], 1⟩) rfl h (get_head rfl)
theorem r_yes {x y : ByteArray} (h : nmB x = true) (h2 : nmB y = true) : renameM (mk [⟨x, [120], 1⟩]) x y = (0, mk [⟨y, [120], 1⟩]) := by
  unfold renameM onFile
  rw [bad_ok rfl (by simp [h, h2]), if_neg (by simp), get_head rfl, hit_nil rfl]
  refine congrArg (fun l => (0, mk l)) ?_
  have d1 : delM [(⟨x, [120], 1⟩ : FM)] x = [] := by unfold delM; simp
  show moved [(⟨x, [120], 1⟩ : FM)] x y ⟨x, [120], 1⟩ = _
  unfold moved
  rw [d1]
  rfl
set_option maxRecDepth 100000 in
set_option maxHeartbeats 1600000 in
theorem walk (x y : ByteArray) (w : World) : Calls Try.prog 7 #[.string x, .string y] w (Yes w) := by
  have kc := fun (W : World) (C : Array Value) (n c : Nat) => Lib.run_convert_bytes_const (P := Try.prog) W 31 5 C n c Try.underlying31 Try.underlying5
  go_enter Try.func7, Try.ntmps7
  go_wp2_with fail
  refine (alive_any _).mono ?_; rintro e W1 ⟨rfl, hb1⟩
  have HB1 := Lib.hid hb1
  clear hb1
  by_cases k1 : 60 < x.size
  · have d1 : decide ((60 : Int) < (x.size : Int)) = true := by simp; omega
    go_wp2_with fail
    go_ret
    exact ⟨rfl, HB1.out⟩
  · have d1 : decide ((60 : Int) < (x.size : Int)) = false := by simp; omega
    by_cases k2 : 60 < y.size
    · have d2 : decide ((60 : Int) < (y.size : Int)) = true := by simp; omega
      go_wp2_with fail
      go_ret
      exact ⟨rfl, HB1.out⟩
    · have d2 : decide ((60 : Int) < (y.size : Int)) = false := by simp; omega
      go_wp2_with fail
      refine (new_own 1000 (by decide) W1 HB1.out.size HB1.out).mono ?_
      rintro e W2 ⟨g, S2, rfl, hO2, hgg, _, _⟩
      have O2 := Lib.hid hO2
      have HSG : Hid (w.heap.size ≤ g) := Lib.hid (Nat.le_trans HB1.out.size hgg)
      have hx60 : x.size ≤ 60 := by omega
      have hy60 : y.size ≤ 60 := by omega
      clear hO2 hgg k1 k2
      cases hx : nmB x
      · go_wp2_with (go_at_call 24; refine (named_any x _ (by omega)).mono ?_; rintro e w' ⟨rfl, rfl⟩)
        have hb3 := Joins.below_alloc1 W2 (.cells #[.int .u8 120] 5 (1, 2))
        have hn3 : (W2.alloc (.cells #[.int .u8 120] 5 (1, 2))).heap[W2.heap.size]? = some (.cells #[.int .u8 120] 5 (1, 2)) := heap_alloc_new W2 _
        have hz3 : (W2.alloc (.cells #[.int .u8 120] 5 (1, 2))).heap.size = W2.heap.size + 1 := by simp
        have hl3 : LiesP (W2.alloc (.cells #[.int .u8 120] 5 (1, 2))) (fun k => ¬ S2 k ∧ k < (W2.alloc (.cells #[.int .u8 120] 5 (1, 2))).heap.size) (some ⟨W2.heap.size, 0, none⟩) ([120].map vb) :=
          .inr ⟨_, rfl, ⟨fun h => Nat.lt_irrefl _ (O2.out.1.lt _ h), by rw [hz3]; exact Nat.lt_succ_self _⟩, fun j u hj => (lies_block hn3 (show W2.heap.size < W2.heap.size + 1 by omega)).place (by simp) |>.elim fun ad h => by cases h.1; exact h.2.2 j u hj⟩
        have O3 : Own w.heap.size w (W2.alloc (.cells #[.int .u8 120] 5 (1, 2))) g S2 (newM 1000) := ⟨O2.out.1.below hb3, O2.out.2.1, O2.out.2.2.trans (hb3.mono (O2.out.size (Nat.le_refl _)))⟩
        have OB3 := Lib.hid O3
        have HA3 := Lib.hid (append_any x (some ⟨W2.heap.size, 0, none⟩) 1 [120] O3.1 (by decide) hl3 (by simp) (by simp) (by simp))
        clear hb3 hn3 hz3 O3 hl3 kc
        refine (show Calls Try.prog (13) #[.pointer (some ⟨g, 0, none⟩), .string x, .slice (some ⟨W2.heap.size, 0, none⟩) 1 1] _ _ from HA3.out).mono ?_
        intro e W4 ht
        obtain ⟨S4, rfl, hO, _, _⟩ := OB3.out.told (OB3.out.size (Nat.le_refl _)) ht
        rw [a_no hx] at hO ⊢
        have O4 := Lib.hid hO
        clear ht hO HA3 OB3
        go_wp2_with fail
        refine (sync_any x O4.out.1 (show 0 ≤ 1000000 by decide)).mono ?_
        intro e W5 ht
        obtain ⟨S5, rfl, hO, _, _⟩ := O4.out.told (O4.out.size (Nat.le_refl _)) ht
        rw [s_no hx] at hO ⊢
        have O5 := Lib.hid hO
        clear ht hO
        go_wp2_with fail
        refine (size_any x O5.out.1 (show 0 ≤ 1000000 by decide)).mono ?_
        rintro e W6 ⟨rfl, hA, hK⟩
        rw [z_no hx]
        have O6 : Hid (Own w.heap.size w W6 g S5 _) := Lib.hid ⟨hA, O5.out.2.1, O5.out.2.2.trans (hK.below (O5.out.size (Nat.le_refl _)) fun k hk => by rw [hk]; exact HSG.out)⟩
        clear hA hK
        go_wp2_with (go_at_call 19; refine (num_any _ _).mono ?_; rintro e w' ⟨rfl, rfl⟩)
        refine (rename_any x y O6.out.1 (show 0 ≤ 1000000 by decide)).mono ?_
        intro e W7 ht
        obtain ⟨S7, rfl, hO, _, _⟩ := O6.out.told (O6.out.size (Nat.le_refl _)) ht
        rw [show renameM (hit (newM 1000)).2 x y = (6, newM 1000) from r_no rfl (.inl hx)] at hO ⊢
        have O7 := Lib.hid hO
        clear ht hO
        go_wp2_with (go_at_call 19; refine (num_any _ _).mono ?_; rintro e w' ⟨rfl, rfl⟩)
        go_ret
        exact ⟨rfl, O7.out.2.2⟩
      · go_wp2_with (go_at_call 24; refine (named_any x _ (by omega)).mono ?_; rintro e w' ⟨rfl, rfl⟩)
        have hb3 := Joins.below_alloc1 W2 (.cells #[.int .u8 120] 5 (1, 2))
        have hn3 : (W2.alloc (.cells #[.int .u8 120] 5 (1, 2))).heap[W2.heap.size]? = some (.cells #[.int .u8 120] 5 (1, 2)) := heap_alloc_new W2 _
        have hz3 : (W2.alloc (.cells #[.int .u8 120] 5 (1, 2))).heap.size = W2.heap.size + 1 := by simp
        have hl3 : LiesP (W2.alloc (.cells #[.int .u8 120] 5 (1, 2))) (fun k => ¬ S2 k ∧ k < (W2.alloc (.cells #[.int .u8 120] 5 (1, 2))).heap.size) (some ⟨W2.heap.size, 0, none⟩) ([120].map vb) :=
          .inr ⟨_, rfl, ⟨fun h => Nat.lt_irrefl _ (O2.out.1.lt _ h), by rw [hz3]; exact Nat.lt_succ_self _⟩, fun j u hj => (lies_block hn3 (show W2.heap.size < W2.heap.size + 1 by omega)).place (by simp) |>.elim fun ad h => by cases h.1; exact h.2.2 j u hj⟩
        have O3 : Own w.heap.size w (W2.alloc (.cells #[.int .u8 120] 5 (1, 2))) g S2 (newM 1000) := ⟨O2.out.1.below hb3, O2.out.2.1, O2.out.2.2.trans (hb3.mono (O2.out.size (Nat.le_refl _)))⟩
        have OB3 := Lib.hid O3
        have HA3 := Lib.hid (append_any x (some ⟨W2.heap.size, 0, none⟩) 1 [120] O3.1 (by decide) hl3 (by simp) (by simp) (by simp))
        clear hb3 hn3 hz3 O3 hl3 kc
        refine (show Calls Try.prog (13) #[.pointer (some ⟨g, 0, none⟩), .string x, .slice (some ⟨W2.heap.size, 0, none⟩) 1 1] _ _ from HA3.out).mono ?_
        intro e W4 ht
        obtain ⟨S4, rfl, hO, _, _⟩ := OB3.out.told (OB3.out.size (Nat.le_refl _)) ht
        rw [a_yes hx] at hO ⊢
        have O4 := Lib.hid hO
        clear ht hO HA3 OB3
        go_wp2_with fail
        refine (sync_any x O4.out.1 (show 0 ≤ 1000000 by decide)).mono ?_
        intro e W5 ht
        obtain ⟨S5, rfl, hO, _, _⟩ := O4.out.told (O4.out.size (Nat.le_refl _)) ht
        rw [s_yes hx] at hO ⊢
        have O5 := Lib.hid hO
        clear ht hO
        go_wp2_with fail
        refine (size_any x O5.out.1 (show 0 ≤ 1000000 by decide)).mono ?_
        rintro e W6 ⟨rfl, hA, hK⟩
        rw [z_yes hx]
        have O6 : Hid (Own w.heap.size w W6 g S5 _) := Lib.hid ⟨hA, O5.out.2.1, O5.out.2.2.trans (hK.below (O5.out.size (Nat.le_refl _)) fun k hk => by rw [hk]; exact HSG.out)⟩
        clear hA hK
        go_wp2_with (go_at_call 19; refine (num_any _ _).mono ?_; rintro e w' ⟨rfl, rfl⟩)
        cases hy : nmB y
        · skip
          refine (rename_any x y O6.out.1 (show 0 ≤ 1000000 by decide)).mono ?_
          intro e W7 ht
          obtain ⟨S7, rfl, hO, _, _⟩ := O6.out.told (O6.out.size (Nat.le_refl _)) ht
          rw [show renameM (hit (mk [⟨x, [120], 1⟩])).2 x y = (6, mk [⟨x, [120], 1⟩]) from r_no rfl (.inr hy)] at hO ⊢
          have O7 := Lib.hid hO
          clear ht hO
          go_wp2_with (first | (go_at_call 24; refine (named_any y _ (by omega)).mono ?_; rintro e w' ⟨rfl, rfl⟩) | (go_at_call 19; refine (num_any _ _).mono ?_; rintro e w' ⟨rfl, rfl⟩))
          go_ret
          exact ⟨rfl, O7.out.2.2⟩
        · skip
          refine (rename_any x y O6.out.1 (show 0 ≤ 1000000 by decide)).mono ?_
          intro e W7 ht
          obtain ⟨S7, rfl, hO, _, _⟩ := O6.out.told (O6.out.size (Nat.le_refl _)) ht
          rw [show renameM (hit (mk [⟨x, [120], 1⟩])).2 x y = (0, mk [⟨y, [120], 1⟩]) from r_yes hx hy] at hO ⊢
          have O7 := Lib.hid hO
          clear ht hO
          go_wp2_with (go_at_call 24; refine (named_any y _ (by omega)).mono ?_; rintro e w' ⟨rfl, rfl⟩)
          refine (list_any O7.out.1).mono ?_
          rintro e W8 ⟨ss, Al, cl, rfl, hp, hl, hb8⟩
          have hss : ss = [y.data.toList] := List.perm_singleton.1 hp
          subst hss
          have hl1 : LiesP W8 (fun k => W7.heap.size ≤ k ∧ k < W8.heap.size) Al [.string y] := by
            have e : ([y.data.toList].mergeSort (fun a b => decide (a ≤ b))).map encStr = [Value.string y] := by
              rw [List.mergeSort_singleton]
              simp [encStr]
            rw [e] at hl
            exact hl
          obtain ⟨ad, rfl, _, hcell⟩ : ∃ ad, Al = some ad ∧ (W7.heap.size ≤ ad.block ∧ ad.block < W8.heap.size) ∧ ∀ j u, [Value.string y][j]? = some u → W8.cell? (ad.add j) = some u := by
            rcases hl1 with h0 | h0
            · simp at h0
            · exact h0
          have c0 : W8.cell? ad = some (.string y) := hcell 0 _ rfl
          rw [show [y.data.toList].length = 1 from rfl]
          have hu := used_any (O7.out.1.below hb8)
          rw [show used (mk [⟨y, [120], 1⟩]).fs = 1 from rfl] at hu
          have HU := Lib.hid hu
          have HB8 : Hid (Below w.heap.size w W8) := Lib.hid (O7.out.2.2.trans (hb8.mono (O7.out.size (Nat.le_refl _))))
          clear hp hl hl1 hb8 hu hcell
          go_wp2_with (first
            | (go_at_call 19; refine (num_any _ _).mono ?_; rintro e w' ⟨rfl, rfl⟩)
            | (go_at_call 22; refine HU.out.mono ?_; rintro e w' ⟨rfl, rfl⟩))
          go_ret
          exact ⟨rfl, HB8.out⟩

set_option maxRecDepth 100000 in
theorem lifted (os : Os) (started : os.Started) (H : Type) (enc : TypeId × Value → H) :
    ReturnsInHanded {} Try.checked os 7 .any (Rows.diskNamesSpec.pre6 enc Try.prog Try.f7 Rows.diskNamesRow.domain false) (Rows.diskNamesSpec.post enc Try.prog Try.f7 false true false false) := by
  refine lift_true (C := Try.checked) own started (by kernel_rfl) Try.func7
    (ChangeSpec.witness6 (enc := enc) (C := Try.checked) false ⟨#[], #[.string ⟨#[]⟩, .string ⟨#[]⟩], []⟩ 8 (by kernel_rfl) (by kernel_rfl) (by kernel_rfl) (by kernel_rfl))
    (by kernel_rfl) (by kernel_rfl) (by kernel_rfl) Try.underlying4 rfl ?_ ?_
  · intro ds hds
    match ds, hds with
    | [d1, d2], _ => exact ⟨rfl, rfl, rfl⟩
  · intro W base args ds p hval0 hA0 hlt _
    have hval : ∀ (j : Nat) t v, Try.f7.params[j]? = some t → args[j]? = some v → Value.okWide Try.prog W .any base t v := hval0
    have hA : DataW.TrodAll enc Try.prog W 0 (fun _ => true) true Try.f7.params.toList args.toList ds p := hA0
    rw [Try.params7] at hA hval
    obtain ⟨v0, vs0, d0, ds0, p0, q0, hargs, rfl, rfl, h0, r0⟩ := trodAll_cons hA
    obtain ⟨v1, vs1, d1, ds1, p1, q1, rfl, rfl, rfl, h1, r1⟩ := trodAll_cons r0
    obtain ⟨rfl, rfl, rfl⟩ := trodAll_nil r1
    obtain rfl : args = #[v0, v1] := by cases args; simp_all
    obtain ⟨s0, rfl, rfl, rfl, hs0⟩ := Go.ChangeMaps.open_string Try.underlying9 (hval 0 _ v0 rfl rfl) h0
    obtain ⟨s1, rfl, rfl, rfl, hs1⟩ := Go.ChangeMaps.open_string Try.underlying9 (hval 1 _ v1 rfl rfl) h1
    exact walk s0 s1 W

theorem over : Rows.diskNamesRow.holds Try.pinned (OpenSpec.ofChange Rows.diskNamesSpec) :=
  OpenClaim.holds_of_wide 7 Try.f7 rfl rfl rfl rfl rfl rfl rfl ⟨rfl, rfl, rfl, rfl, rfl⟩ rfl rfl rfl rfl rfl (by kernel_rfl) Try.func7 (by kernel_rfl)
    (of_decide_eq_true (by kernel_rfl)) (by unfold Func.isWrapper; first | (rw [if_pos (by decide +kernel)]; kernel_rfl) | (rw [if_neg (by decide +kernel)]; exact ⟨rfl, rfl⟩))
    (fun os started H enc _ => lifted os started H enc)

theorem proved : Rows.DiskNamesSaid :=
  over
#print axioms proved
end Go.Proofs.Ytcgicfcefphgkaa.diskNames
