/- The document's own: has, once, files. -/
import Derived.Test.YthhmjjmjicmhdaaEops
import Derived.Deep.DeepCutAuto
import Derived.BigQuiet
namespace Go.Proofs.Ythhmjjmjicmhdaa.Ed
set_option linter.unusedVariables false
set_option linter.unusedSimpArgs false
open Go.RowKit Lift Ik
abbrev vi (x : Int) : Value := .int .i64 x
theorem take_mem {zs : List Int} {k : Nat} {z n : Int} (hz : zs[k]? = some z) : n ∈ zs.take (k + 1) ↔ n ∈ zs.take k ∨ n = z := by
  rw [List.take_add_one, hz]; simp
theorem take_nodup {zs : List Int} {k : Nat} {z : Int} (hz : zs[k]? = some z) : (zs.take (k + 1)).Nodup ↔ (zs.take k).Nodup ∧ z ∉ zs.take k := by
  rw [List.take_add_one, hz]
  simp only [Option.toList_some, List.nodup_append, List.nodup_cons, List.not_mem_nil, not_false_eq_true, List.nodup_nil, and_true, true_and, List.mem_singleton]
  constructor
  · rintro ⟨h1, h2⟩
    exact ⟨h1, fun h => h2 z h z rfl rfl⟩
  · rintro ⟨h1, h2⟩
    refine ⟨h1, fun a ha b hb e => ?_⟩
    subst hb; subst e
    exact h2 ha
set_option maxRecDepth 100000 in
set_option maxHeartbeats 800000 in
theorem has_any (zs : List Int) (n : Int) (A : Option Addr) (c B : Nat) (w : World) (hl : Lies w B A (zs.map vi)) (hn : zs.length ≤ 1000) :
    Calls Try.prog 61 #[.slice A zs.length c, .int .i64 n] w fun e w' => e = .returned (.bool (decide (n ∈ zs))) ∧ ∃ m, w' = w.drewN m := by
  have HL := Lib.hid hl
  clear hl
  go_enter Try.func61, Try.ntmps61
  go_wp2_with fail
  go_loopw [5] (fun i wr => ∃ k : Nat, k ≤ zs.length ∧ i = .int .i64 (k : Int) ∧ wr = w ∧ Hid (n ∉ zs.take k)) (fun i _ => zs.length + 1 - (intOf i).toNat)
  case atStart => exact ⟨0, Nat.zero_le _, rfl, rfl, Lib.hid (by simp)⟩
  case round =>
    obtain ⟨k, hk, rfl, rfl, hno⟩ := hrel
    by_cases hlt : k < zs.length
    · obtain ⟨z, hz⟩ : ∃ z, zs[k]? = some z := ⟨_, List.getElem?_eq_getElem hlt⟩
      obtain ⟨ad, rfl, -, hc⟩ := HL.out.place (by rw [List.length_map]; omega)
      have hc1 := hc k _ (by rw [List.getElem?_map, hz]; rfl)
      have HZ := Lib.hid hz
      clear hc hz
      by_cases he : z = n
      · have e0 : (z == n) = true := by rw [beq_iff_eq]; exact he
        have HE := Lib.hid he
        clear he
        go_wp2_with fail
        go_ret
        refine ⟨?_, 0, rfl⟩
        have hm : n ∈ zs := by rw [← HE.out]; exact List.mem_of_getElem? HZ.out
        rw [decide_eq_true hm]; rfl
      · have e0 : (z == n) = false := by rw [beq_eq_false_iff_ne]; exact he
        have HE := Lib.hid he
        clear he
        go_wp2_with fail
        go_roundw
        case rel => exact ⟨k + 1, by omega, by go_num, trivial, Lib.hid (by rw [take_mem HZ.out]; exact fun h => h.elim hno.out fun h => HE.out h.symm)⟩
        case measure => simp [intOf]; omega
    · obtain rfl : k = zs.length := by omega
      go_wp2_with fail
      go_ret
      refine ⟨?_, 0, rfl⟩
      have := hno.out
      rw [List.take_length] at this
      rw [decide_eq_false this]; rfl
set_option maxRecDepth 100000 in
set_option maxHeartbeats 800000 in
theorem once_any (zs : List Int) (A : Option Addr) (c B : Nat) (w : World) (hl : Lies w B A (zs.map vi)) (hn : zs.length ≤ 1000) (hc : zs.length ≤ c) (hm : c ≤ maxLen) :
    Calls Try.prog 37 #[.slice A zs.length c] w fun e w' => e = .returned (.bool (decide zs.Nodup)) ∧ ∃ m, w' = w.drewN m := by
  have HL := Lib.hid hl
  clear hl
  unfold maxLen at hm
  go_enter Try.func37, Try.ntmps37
  go_wp2_with fail
  go_loopw [3] (fun i wr => ∃ k m : Nat, k ≤ zs.length ∧ i = .int .i64 (k : Int) ∧ Hid (wr = w.drewN m) ∧ Hid (zs.take k).Nodup) (fun i _ => zs.length + 1 - (intOf i).toNat)
  case atStart => exact ⟨0, 0, Nat.zero_le _, rfl, Lib.hid rfl, Lib.hid (by simp)⟩
  case round =>
    obtain ⟨k, m, hk, rfl, hw, hno⟩ := hrel
    by_cases hlt : k < zs.length
    · obtain ⟨z, hz⟩ : ∃ z, zs[k]? = some z := ⟨_, List.getElem?_eq_getElem hlt⟩
      obtain ⟨ad, rfl, -, hcc⟩ := HL.out.place (by rw [List.length_map]; omega)
      have hc1 : wr.cell? (ad.add k) = some (.int .i64 z) := by rw [hw.out]; exact hcc k _ (by rw [List.getElem?_map, hz]; rfl)
      have HZ := Lib.hid hz
      have HH : Hid (∀ m, Calls Try.prog 61 #[.slice (some ad) k c, .int .i64 z] (wr.drewN m) fun e w' => e = .returned (.bool (decide (z ∈ zs.take k))) ∧ ∃ m', w' = (wr.drewN m).drewN m') := Lib.hid fun q => by
        rw [hw.out]
        have hl' : Lies ((w.drewN m).drewN q) B (some ad) ((zs.take k).map vi) := by
          rw [List.map_take]
          exact (HL.out.later (fun _ _ => rfl)).front (List.take_prefix k _)
        have := has_any (zs.take k) z (some ad) c B _ hl' (by rw [List.length_take]; omega)
        rw [List.length_take, Nat.min_eq_left (by omega)] at this
        exact this
      obtain ⟨b, hb⟩ : ∃ b, b = decide (z ∈ zs.take k) := ⟨_, rfl⟩
      rw [← hb] at HH
      have HB := Lib.hid hb
      have k1 : k ≤ c := by omega
      have k2 : (k : Int) ≤ (c : Int) := by omega
      have k3 : ¬ c < k := by omega
      have k4 : ¬ (c : Int) < (k : Int) := by omega
      clear hcc hz hb
      go_wp2_with fail
      go_quiet (first | (go_at_call 61; refine Calls.quiet_of (HH.out _)))
      rcases b
      · go_wp2_with fail
        go_roundw
        case rel => exact ⟨k + 1, _, by omega, by go_num, Lib.hid (by rw [hw.out, World.drewN_drewN]), Lib.hid ((take_nodup HZ.out).2 ⟨hno.out, of_decide_eq_false HB.out.symm⟩)⟩
        case measure => simp [intOf]; omega
      · go_wp2_with fail
        go_ret
        refine ⟨?_, _, by rw [hw.out, World.drewN_drewN]⟩
        have hd : ¬ zs.Nodup := fun hd => ((take_nodup HZ.out).1 (hd.sublist (List.take_sublist _ _))).2 (of_decide_eq_true HB.out.symm)
        rw [decide_eq_false hd]; rfl
    · obtain rfl : k = zs.length := by omega
      go_wp2_with fail
      go_ret
      refine ⟨?_, m, hw.out⟩
      have := hno.out
      rw [List.take_length] at this
      rw [decide_eq_true this]; rfl
end Go.Proofs.Ythhmjjmjicmhdaa.Ed
