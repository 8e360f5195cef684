/- In every world DiskRoom answers true and leaves all that was there as it was: so it does for every input; no conditions. -/
import Derived.Test.YtcgicfcefphgkaaDcut
import Derived.Test.YtcgicfcefphgkaaSeqs
namespace Go.Proofs.Ytcgicfcefphgkaa.diskRoom
set_option linter.unusedVariables false
set_option linter.unusedSimpArgs false
open Go.ChangeShapes Go.WideShapes Go.ChangeAt Go.RowKit Lift Go.Maps Ik Dk

theorem own : ownKnob Try.prog.godebug = none := by kernel_rfl

theorem At.names {w : World} {g : Nat} {S : Nat → Prop} {m : MS} (h : At w g S m) : m.fs.Pairwise fun a b => a.nm ≠ b.nm := by
  obtain ⟨fs, M, A, c, h⟩ := h
  rw [h.told]
  exact names_apart h.files.sep
theorem get_mem {l : List FM} {nm : ByteArray} {f : FM} (h : Dk.get l nm = some f) : f ∈ l ∧ f.nm = nm := by
  unfold Dk.get at h
  exact ⟨List.mem_of_find?_eq_some h, by simpa using List.find?_some h⟩
/-- What one Append comes to, with room for it. -/
theorem room_fit {m : MS} {nm : ByteArray} {b : List Nat} (hp : m.fs.Pairwise fun a b => a.nm ≠ b.nm) (h : m.armed = []) (hn : nmB nm = true) (hu : used m.fs ≤ 500) (hb : b.length ≤ 200) (hc : m.fs.length < 1000) (hr : used m.fs + b.length ≤ m.room) :
    ∃ l, appendM m nm b = (0, { m with fs := l }) ∧ used l = used m.fs + b.length ∧ l.length ≤ m.fs.length + 1 := by
  cases hg : Dk.get m.fs nm with
  | none =>
    exact ⟨_, append_new h hn hg (by omega) hc hr, by rw [used_insM], by rw [insM_length]; exact Nat.le_refl _⟩
  | some f =>
    obtain ⟨hm, hnm⟩ := get_mem hg
    have h1 := used_mem hm
    have h2 := used_put1 m.fs f ⟨f.nm, f.bs ++ b, f.syn⟩ hp hm rfl
    simp only [List.length_append] at h2
    exact ⟨_, append_old h hn hg (by omega) hr, by omega, by rw [put1_length]; omega⟩
/-- .. and without. -/
theorem room_full {m : MS} {nm : ByteArray} {b : List Nat} (h : m.armed = []) (hn : nmB nm = true) (hu : used m.fs ≤ 500) (hb : b.length ≤ 200) (hc : m.fs.length < 1000) (hr : m.room < used m.fs + b.length) : appendM m nm b = (7, m) := by
  refine append_full h hn ?_ hc hr
  cases hg : Dk.get m.fs nm with
  | none => show 0 + b.length ≤ _; omega
  | some f =>
    have h1 := used_mem (get_mem hg).1
    show f.bs.length + b.length ≤ _
    omega
theorem abc_at (r : Nat) (hr : r < 3) : ∃ nm : ByteArray, nmB nm = true ∧ ∀ W : World, Sem.run Try.prog (Instr.slice 9 (.string ⟨#[97, 98, 99]⟩) (some (.int .i64 (r : Int))) (some (.int .i64 ((r : Int) + 1))) none) W = .ok (.string nm) W := by
  rcases (show r = 0 ∨ r = 1 ∨ r = 2 by omega) with rfl | rfl | rfl
  · exact ⟨⟨#[97]⟩, by decide, fun W => by kernel_rfl⟩
  · exact ⟨⟨#[98]⟩, by decide, fun W => by kernel_rfl⟩
  · exact ⟨⟨#[99]⟩, by decide, fun W => by kernel_rfl⟩
set_option maxRecDepth 100000 in
set_option maxHeartbeats 1600000 in
theorem walk (room : Int) (A : Option Addr) (c : Nat) (L : List Sq.E) (w0 : World) (hr : (Lit.int .i64 room).wf = true) (h : Sq.Seqs w0 w0.heap.size A c L) :
    Calls Try.prog 6 #[.int .i64 room, .slice A L.length c] w0 (Yes w0) := by
  have HQ := Lib.hid h
  have hrb := i64_of hr
  have hcl := h.len
  have hcm := h.cap
  unfold maxLen at hcm
  clear h
  go_enter Try.func6, Try.ntmps6
  go_wp2_with fail
  refine (alive_any _).mono ?_; rintro e W1 ⟨rfl, hb1⟩
  have HB1 := Lib.hid hb1
  clear hb1
  by_cases k1 : room < 0
  · have d1 : decide (room < 0) = true := decide_eq_true k1
    go_wp2_with fail
    go_ret
    exact ⟨rfl, HB1.out⟩
  · obtain ⟨R, rfl⟩ : ∃ R : Nat, room = (R : Int) := ⟨room.toNat, by omega⟩
    have d1 : decide ((R : Int) < 0) = false := decide_eq_false k1
    by_cases k2 : 500 < R
    · have d2 : decide ((500 : Int) < (R : Int)) = true := by simp; omega
      go_wp2_with fail
      go_ret
      exact ⟨rfl, HB1.out⟩
    · have d2 : decide ((500 : Int) < (R : Int)) = false := by simp; omega
      by_cases k3 : 20 < L.length
      · have d3 : decide ((20 : Int) < (L.length : Int)) = true := by simp; omega
        go_wp2_with fail
        go_ret
        exact ⟨rfl, HB1.out⟩
      · have d3 : decide ((20 : Int) < (L.length : Int)) = false := by simp; omega
        go_wp2_with fail
        refine (new_own (R : Int) hr W1 HB1.out.size HB1.out).mono ?_
        rintro e W2 ⟨g, S2, rfl, hO2, _, _, _⟩
        have O2 := Lib.hid hO2
        clear hO2
        go_wp2_with fail
        go_loopw [7, 8] (fun u i wr => ∃ (j uu : Nat) (S : Nat → Prop) (m : MS), j ≤ L.length ∧ i = .int .i64 j ∧ u = .int .i64 uu ∧ uu ≤ R ∧ Hid (Own w0.heap.size w0 wr g S m) ∧ Hid (m.room = R ∧ m.armed = [] ∧ m.failed = 0 ∧ used m.fs = uu ∧ m.fs.length ≤ j)) (fun _ i _ => L.length + 1 - (intOf i).toNat)
        case atStart => exact ⟨0, 0, S2, newM (R : Int), by omega, rfl, rfl, by omega, O2, Lib.hid ⟨by show (R : Int).toNat = R; omega, rfl, rfl, rfl, Nat.le_refl _⟩⟩
        case round =>
          obtain ⟨j, uu, S, m, hj, rfl, rfl, huu, hO, hm⟩ := hrel
          by_cases hlt : j < L.length
          · obtain ⟨el, he⟩ : ∃ el, L[j]? = some el := ⟨_, List.getElem?_eq_getElem hlt⟩
            obtain ⟨ad, hA, _, _⟩ := HQ.out.place he
            subst hA
            have HC := Lib.hid fun (W : World) (hb : Below w0.heap.size w0 W) => (show W.cell? (ad.add j) = some (.slice el.a el.bs.length el.c) from ((HQ.out.below hb).place he).elim fun ad' h' => by cases h'.1; exact h'.2.2)
            have hok := HQ.out.ok el (List.mem_of_getElem? he)
            have q := HC.out wr hO.out.2.2
            have hec := hok.cap
            have HOK := Lib.hid hok
            clear he hok
            by_cases k4 : 200 < el.bs.length
            · have d4 : decide ((200 : Int) < (el.bs.length : Int)) = true := by simp; omega
              go_wp2_with fail
              go_ret
              exact ⟨rfl, hO.out.2.2⟩
            · have d4 : decide ((200 : Int) < (el.bs.length : Int)) = false := by simp; omega
              obtain ⟨r, hr3⟩ : ∃ r, r = j % 3 := ⟨_, rfl⟩
              have hr3l : r < 3 := by omega
              have hmod : Int.tmod (j : Int) 3 = (r : Int) := by rw [Int.tmod_eq_emod_of_nonneg (by omega)]; omega
              have hwr : IntKind.i64.wrap ((r : Int) + 1) = (r : Int) + 1 := by rw [IntKind.wrap_i64]; omega
              have hwr0 : IntKind.i64.wrap (r : Int) = (r : Int) := by rw [IntKind.wrap_i64]; omega
              obtain ⟨nm, hnm, hsl⟩ := abc_at r hr3l
              obtain ⟨m1, m2, m3, m4, m5⟩ := hm.out
              have HAP := Lib.hid fun (W : World) (hO : Own w0.heap.size w0 W g S m) => append_any nm el.a el.c el.bs hO.1 (by rw [m3]; decide) ((HOK.out.lies.below hO.2.2).p fun k hk => ⟨fun hs => absurd (hO.2.1 k hs) (Nat.not_le_of_lt hk), Nat.lt_of_lt_of_le hk (hO.size (Nat.le_refl _))⟩) hec (by omega) HOK.out.byte
              have HAP := Lib.hid (HAP.out wr.drew ⟨hO.out.1.keep (T := fun _ => False) (Keep.refl _ wr).drew fun _ _ => id, hO.out.2.1, hO.out.2.2.drew⟩)
              have HNM := Lib.hid hnm
              have HP := Lib.hid (At.names hO.out.1)
              clear hr3 hnm m1 m2 m3 m4 m5
              go_wp2_with fail
              refine wp_region_held_drew (S := fun w' => Hid (Below w0.heap.size w0 w')) (by kernel_rfl) (Lib.hid hO.out.2.2.drew) (fun hS => ?_)
              refine wpAnyH_take (i := 0) (v := ?_) rfl (by kernel_rfl) (by kernel_rfl) (by kernel_rfl) (fun _ _ _ h => h) (Or.inl ⟨by rfl, ?_⟩) hS ?_
              rotate_left
              · intro w hw
                go_simp
                try with_reducible rfl
              try simp only [Act.put, List.getElem_toArray, List.getElem_cons_succ, List.getElem_cons_zero, List.setIfInBounds_toArray, List.set_cons_zero, List.set_cons_succ]
              refine wpAnyH_take (i := 1) (v := ?_) rfl (by kernel_rfl) (by kernel_rfl) (by kernel_rfl) (fun _ _ _ h => h) (Or.inl ⟨by rfl, ?_⟩) hS ?_
              rotate_left
              · intro w hw
                go_simp
                try with_reducible rfl
              try simp only [Act.put, List.getElem_toArray, List.getElem_cons_succ, List.getElem_cons_zero, List.setIfInBounds_toArray, List.set_cons_zero, List.set_cons_succ]
              refine wpAnyH_take (i := 2) (v := ?_) rfl (by kernel_rfl) (by kernel_rfl) (by kernel_rfl) (fun _ _ _ h => h) (Or.inl ⟨by rfl, ?_⟩) hS ?_
              rotate_left
              · intro w hw
                go_simp
                try with_reducible rfl
              try simp only [Act.put, List.getElem_toArray, List.getElem_cons_succ, List.getElem_cons_zero, List.setIfInBounds_toArray, List.set_cons_zero, List.set_cons_succ]
              refine wpAnyH_take (i := 3) (v := ?_) rfl (by kernel_rfl) (by kernel_rfl) (by kernel_rfl) (fun _ _ _ h => h) (Or.inl ⟨by rfl, ?_⟩) hS ?_
              rotate_left
              · intro w hw
                go_simp
                try with_reducible rfl
              try simp only [Act.put, List.getElem_toArray, List.getElem_cons_succ, List.getElem_cons_zero, List.setIfInBounds_toArray, List.set_cons_zero, List.set_cons_succ]
              refine wpAnyH_take (i := 4) (v := ?_) rfl (by kernel_rfl) (by kernel_rfl) (by kernel_rfl) (fun _ _ _ h => h) (Or.inl ⟨by rfl, ?_⟩) hS ?_
              rotate_left
              · intro w hw
                go_simp
                try with_reducible rfl
              try simp only [Act.put, List.getElem_toArray, List.getElem_cons_succ, List.getElem_cons_zero, List.setIfInBounds_toArray, List.set_cons_zero, List.set_cons_succ]
              refine wpAnyH_take (i := 5) (v := ?_) rfl (by kernel_rfl) (by kernel_rfl) (by kernel_rfl) (fun _ _ _ h => h) (Or.inl ⟨by rfl, ?_⟩) hS ?_
              rotate_left
              · intro w hw
                go_simp
                try with_reducible rfl
              try simp only [Act.put, List.getElem_toArray, List.getElem_cons_succ, List.getElem_cons_zero, List.setIfInBounds_toArray, List.set_cons_zero, List.set_cons_succ]
              refine wpAnyH_take (i := 6) (v := ?_) rfl (by kernel_rfl) (by kernel_rfl) (by kernel_rfl) (fun _ _ _ h => h) (Or.inl ⟨by rfl, ?_⟩) hS ?_
              rotate_left
              · intro w hw
                go_simp
                try with_reducible rfl
              try simp only [Act.put, List.getElem_toArray, List.getElem_cons_succ, List.getElem_cons_zero, List.setIfInBounds_toArray, List.set_cons_zero, List.set_cons_succ]
              refine wpAnyH_take (i := 7) (v := ?_) rfl (by kernel_rfl) (by kernel_rfl) (by kernel_rfl) (fun _ _ _ h => h) (Or.inl ⟨by rfl, ?_⟩) hS ?_
              rotate_left
              · intro w hw
                go_simp
                try with_reducible rfl
              try simp only [Act.put, List.getElem_toArray, List.getElem_cons_succ, List.getElem_cons_zero, List.setIfInBounds_toArray, List.set_cons_zero, List.set_cons_succ]
              refine wpAnyH_take (i := 8) (v := ?_) rfl (by kernel_rfl) (by kernel_rfl) (by kernel_rfl) (fun _ _ _ h => h) (Or.inl ⟨by rfl, ?_⟩) hS ?_
              rotate_left
              · intro w hw
                go_simp
                try with_reducible rfl
              try simp only [Act.put, List.getElem_toArray, List.getElem_cons_succ, List.getElem_cons_zero, List.setIfInBounds_toArray, List.set_cons_zero, List.set_cons_succ]
              refine wpAnyH_take (i := 9) (v := ?_) rfl (by kernel_rfl) (by kernel_rfl) (by kernel_rfl) (fun _ _ _ h => h) (Or.inl ⟨by rfl, ?_⟩) hS ?_
              rotate_left
              · intro w hw
                go_simp
                try with_reducible rfl
              try simp only [Act.put, List.getElem_toArray, List.getElem_cons_succ, List.getElem_cons_zero, List.setIfInBounds_toArray, List.set_cons_zero, List.set_cons_succ]
              refine wpAnyH_take (i := 10) (v := ?_) rfl (by kernel_rfl) (by kernel_rfl) (by kernel_rfl) (fun _ _ _ h => h) (Or.inl ⟨by rfl, ?_⟩) hS ?_
              rotate_left
              · intro w hw
                have q0 := HC.out w hw.out
                go_simp
                try with_reducible rfl
              try simp only [Act.put, List.getElem_toArray, List.getElem_cons_succ, List.getElem_cons_zero, List.setIfInBounds_toArray, List.set_cons_zero, List.set_cons_succ]
              refine wpAnyH_ready (rs := [11]) (by kernel_rfl) (by simp) ?_
              refine AllReadyH.cons rfl (fun K hK => ?_) AllReadyH.nil
              go_simp
              refine HAP.out.mono ?_
              intro e W7 ht
              by_cases k5 : uu + el.bs.length ≤ R
              · skip
                obtain ⟨l, hap, hul, hll⟩ := room_fit (nm := nm) (b := el.bs) HP.out hm.out.2.1 HNM.out (by have := hm.out; omega) (by omega) (by have := hm.out; omega) (by have := hm.out; omega)
                have d5 : decide ((uu : Int) + (el.bs.length : Int) ≤ (R : Int)) = true := by simp; omega
                obtain ⟨S7, rfl, hO7, _, _⟩ := Own.told ⟨hO.out.1.keep (T := fun _ => False) (Keep.refl _ wr).drew fun _ _ => id, hO.out.2.1, hO.out.2.2.drew⟩ (hO.out.size (Nat.le_refl _)) ht
                rw [hap] at hO7 ⊢
                have HU : Hid (used { m with fs := l : MS }.fs = uu + el.bs.length) := Lib.hid (by rw [← hm.out.2.2.2.1]; exact hul)
                have HM : Hid (({ m with fs := l } : MS).room = R ∧ ({ m with fs := l } : MS).armed = [] ∧ ({ m with fs := l } : MS).failed = 0 ∧ used ({ m with fs := l } : MS).fs = uu + el.bs.length ∧ ({ m with fs := l } : MS).fs.length ≤ j + 1) := Lib.hid ⟨hm.out.1, hm.out.2.1, hm.out.2.2.1, HU.out, by have := hm.out.2.2.2.2; show l.length ≤ j + 1; omega⟩
                have hu := used_any hO7.1
                rw [HU.out] at hu
                have HUS := Lib.hid hu
                have q7 := HC.out W7 hO7.2.2
                have HS7 : Hid (Below w0.heap.size w0 W7) := Lib.hid hO7.2.2
                have O7 := Lib.hid hO7
                clear ht hu hap hO7
                go_wp2_with fail
                refine hK.out _ _ HS7 (fun hS => ?_)
                clear hK K
                try simp only [Act.put, List.getElem_toArray, List.getElem_cons_succ, List.getElem_cons_zero, List.setIfInBounds_toArray, List.set_cons_zero, List.set_cons_succ]
                refine wpAnyH_take (i := 12) (v := ?_) rfl (by kernel_rfl) (by kernel_rfl) (by kernel_rfl) (fun _ _ _ h => h) (Or.inl ⟨by rfl, ?_⟩) hS ?_
                rotate_left
                · intro w hw
                  go_simp
                  try with_reducible rfl
                try simp only [Act.put, List.getElem_toArray, List.getElem_cons_succ, List.getElem_cons_zero, List.setIfInBounds_toArray, List.set_cons_zero, List.set_cons_succ]
                refine wpAnyH_done (by kernel_rfl) ?_ _
                go_wp2_with (first
                  | (go_at_call 19; refine (num_any _ _).mono ?_; rintro e w' ⟨rfl, rfl⟩)
                  | (go_at_call 22; refine HUS.out.mono ?_; rintro e w' ⟨rfl, rfl⟩))
                go_roundw
                case rel => exact ⟨j + 1, uu + el.bs.length, S7, _, by omega, by go_num, by go_num, by omega, O7, HM⟩
                case measure => simp [intOf]; omega
              · skip
                have hap := room_full (nm := nm) (b := el.bs) hm.out.2.1 HNM.out (by have := hm.out; omega) (by omega) (by have := hm.out; omega) (by have := hm.out; omega)
                have d5 : decide ((uu : Int) + (el.bs.length : Int) ≤ (R : Int)) = false := by simp; omega
                obtain ⟨S7, rfl, hO7, _, _⟩ := Own.told ⟨hO.out.1.keep (T := fun _ => False) (Keep.refl _ wr).drew fun _ _ => id, hO.out.2.1, hO.out.2.2.drew⟩ (hO.out.size (Nat.le_refl _)) ht
                rw [hap] at hO7 ⊢
                have HU : Hid (used m.fs = uu) := Lib.hid hm.out.2.2.2.1
                have HM : Hid (m.room = R ∧ m.armed = [] ∧ m.failed = 0 ∧ used m.fs = uu ∧ m.fs.length ≤ j + 1) := Lib.hid ⟨hm.out.1, hm.out.2.1, hm.out.2.2.1, HU.out, by have := hm.out.2.2.2.2; omega⟩
                have hu := used_any hO7.1
                rw [HU.out] at hu
                have HUS := Lib.hid hu
                have q7 := HC.out W7 hO7.2.2
                have HS7 : Hid (Below w0.heap.size w0 W7) := Lib.hid hO7.2.2
                have O7 := Lib.hid hO7
                clear ht hu hap hO7
                go_wp2_with fail
                refine hK.out _ _ HS7 (fun hS => ?_)
                clear hK K
                try simp only [Act.put, List.getElem_toArray, List.getElem_cons_succ, List.getElem_cons_zero, List.setIfInBounds_toArray, List.set_cons_zero, List.set_cons_succ]
                refine wpAnyH_take (i := 12) (v := ?_) rfl (by kernel_rfl) (by kernel_rfl) (by kernel_rfl) (fun _ _ _ h => h) (Or.inl ⟨by rfl, ?_⟩) hS ?_
                rotate_left
                · intro w hw
                  go_simp
                  try with_reducible rfl
                try simp only [Act.put, List.getElem_toArray, List.getElem_cons_succ, List.getElem_cons_zero, List.setIfInBounds_toArray, List.set_cons_zero, List.set_cons_succ]
                refine wpAnyH_done (by kernel_rfl) ?_ _
                go_wp2_with (first
                  | (go_at_call 19; refine (num_any _ _).mono ?_; rintro e w' ⟨rfl, rfl⟩)
                  | (go_at_call 22; refine HUS.out.mono ?_; rintro e w' ⟨rfl, rfl⟩))
                go_roundw
                case rel => exact ⟨j + 1, uu, S7, _, by omega, by go_num, by go_num, by omega, O7, HM⟩
                case measure => simp [intOf]; omega
          · obtain rfl : j = L.length := by omega
            go_wp2_with fail
            go_ret
            exact ⟨rfl, hO.out.2.2⟩

set_option maxRecDepth 100000 in
theorem lifted (os : Os) (started : os.Started) (H : Type) (enc : TypeId × Value → H) :
    ReturnsInHanded {} Try.checked os 6 .any (Rows.diskRoomSpec.pre6 enc Try.prog Try.f6 Rows.diskRoomRow.domain false) (Rows.diskRoomSpec.post enc Try.prog Try.f6 false true false false) := by
  refine lift_true (C := Try.checked) own started (by kernel_rfl) Try.func6
    (ChangeSpec.witness6 (enc := enc) (C := Try.checked) false ⟨#[], #[.int .i64 0, .slice none 0 0], []⟩ 8 (by kernel_rfl) (by kernel_rfl) (by kernel_rfl) (by kernel_rfl))
    (by kernel_rfl) (by kernel_rfl) (by kernel_rfl) Try.underlying4 rfl ?_ ?_
  · intro ds hds
    match ds, hds with
    | [d1, d2], _ => exact ⟨rfl, rfl, rfl⟩
  · intro W base args ds p hval0 hA0 hlt _
    have hval : ∀ (j : Nat) t v, Try.f6.params[j]? = some t → args[j]? = some v → Value.okWide Try.prog W .any base t v := hval0
    have hA : DataW.TrodAll enc Try.prog W 0 (fun _ => true) true Try.f6.params.toList args.toList ds p := hA0
    rw [Try.params6] at hA hval
    obtain ⟨v0, vs0, d0, ds0, p0, q0, hargs, rfl, rfl, h0, r0⟩ := trodAll_cons hA
    obtain ⟨v1, vs1, d1, ds1, p1, q1, rfl, rfl, rfl, h1, r1⟩ := trodAll_cons r0
    obtain ⟨rfl, rfl, rfl⟩ := trodAll_nil r1
    obtain rfl : args = #[v0, v1] := by cases args; simp_all
    obtain ⟨a0, rfl, rfl, rfl, w0⟩ := open_int Try.underlying3 (hval 0 _ v0 rfl rfl) h0
    have b0 := i64_of w0
    obtain ⟨A1, c1, L1, rfl, hQ1⟩ := Sq.open_seqs (hval 1 _ v1 rfl rfl) h1 (fun x hx => hlt x (by simp [hx]))
    exact walk a0 A1 c1 L1 W w0 hQ1

theorem over : Rows.diskRoomRow.holds Try.pinned (OpenSpec.ofChange Rows.diskRoomSpec) :=
  OpenClaim.holds_of_wide 6 Try.f6 rfl rfl rfl rfl rfl rfl rfl ⟨rfl, rfl, rfl, rfl, rfl⟩ rfl rfl rfl rfl rfl (by kernel_rfl) Try.func6 (by kernel_rfl)
    (of_decide_eq_true (by kernel_rfl)) (by unfold Func.isWrapper; first | (rw [if_pos (by decide +kernel)]; kernel_rfl) | (rw [if_neg (by decide +kernel)]; exact ⟨rfl, rfl⟩))
    (fun os started H enc _ => lifted os started H enc)

theorem proved : Rows.DiskRoomSaid :=
  over
#print axioms proved
end Go.Proofs.Ytcgicfcefphgkaa.diskRoom
