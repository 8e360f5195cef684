/- Package edit: how it finds that no two numbers are equal: slices.Clone, slices.Sort, slices.Compact. -/
import Derived.Test.YthhmjjmjicmhdaaEm
import Derived.Test.YthhmjjmjicmhdaaEops
import Derived.Test.YthhmjjmjicmhdaaOwn
import Derived.Test.YthhmjjmjicmhdaaIsort
import Derived.Lib.OwnBridge
import Derived.Sort.OwnSortedInts
import Derived.Lib.SliceRun
import Derived.Deep.QuietTactic
import Derived.BigQuiet
import Derived.RowKit3
import Derived.LoopTactic
import Derived.Outline
namespace Go.Proofs.Ythhmjjmjicmhdaa.Ed
set_option linter.unusedVariables false
set_option linter.unusedSimpArgs false
open Go.RowKit Lift Ik
abbrev zi (z : Int) : Value := .int .i64 z
/-! ### Mathematics -/
def srt (zs : List Int) : List Int := zs.mergeSort fun x y => decide (x ≤ y)
theorem srt_perm (zs : List Int) : (srt zs).Perm zs := List.mergeSort_perm _ _
theorem srt_len (zs : List Int) : (srt zs).length = zs.length := (srt_perm zs).length_eq
theorem srt_up (zs : List Int) : (srt zs).Pairwise (· ≤ ·) := by
  have h := List.pairwise_mergeSort (le := fun x y : Int => decide (x ≤ y)) (fun a b c h1 h2 => by simp at h1 h2 ⊢; omega) (fun a b => by simp; omega) zs
  exact h.imp fun h => by simpa using h
theorem keeps_at {S : List Int} {j : Nat} (hj : j + 1 < S.length) : Lib.keeps S.toArray (j + 1) = true ↔ S[j + 1]'hj ≠ S[j]'(by omega) := by
  unfold Lib.keeps
  have e1 : S.toArray[j + 1]! = S[j + 1]'hj := by rw [getElem!_pos S.toArray (j + 1) (by simpa using hj)]; simp
  have e2 : S.toArray[j + 1 - 1]! = S[j]'(by omega) := by rw [Nat.add_sub_cancel, getElem!_pos S.toArray j (by simp; omega)]; simp
  rw [e1, e2]
  simp
theorem keeps_iff {S : List Int} (hs : S.Pairwise (· ≤ ·)) : (∀ j, j < S.length → Lib.keeps S.toArray j = true) ↔ S.Nodup := by
  constructor
  · intro h
    have hlt : S.Pairwise (· < ·) := by
      rw [List.pairwise_iff_getElem] at hs ⊢
      intro i j hi hj hij
      obtain ⟨k, rfl⟩ : ∃ k, j = k + 1 := ⟨j - 1, by omega⟩
      have h1 := (keeps_at hj).1 (h _ hj)
      have h2 : S[k]'(by omega) ≤ S[k + 1]'hj := hs k (k + 1) (by omega) hj (by omega)
      rcases Nat.lt_or_ge i k with h3 | h3
      · have h4 := hs i k hi (by omega) h3
        omega
      · obtain rfl : i = k := by omega
        omega
    exact hlt.imp fun h => by omega
  · intro h j hj
    rcases j with _ | j
    · simp [Lib.keeps]
    · rw [keeps_at hj]
      have := List.pairwise_iff_getElem.1 h j (j + 1) (by omega) hj (by omega)
      exact fun e => this e.symm
theorem compact_len (S : List Int) : (Lib.compact S).length ≤ S.length := by
  unfold Lib.compact Lib.compactUpTo
  rw [List.length_map]
  have := List.length_filter_le (Lib.keeps S.toArray) (List.range S.length)
  rwa [List.length_range] at this
theorem compact_full (S : List Int) : (Lib.compact S).length = S.length ↔ ∀ j, j < S.length → Lib.keeps S.toArray j = true := by
  unfold Lib.compact Lib.compactUpTo
  rw [List.length_map]
  constructor
  · intro h j hj
    have h2 : ((List.range S.length).filter (Lib.keeps S.toArray)).length = (List.range S.length).length := by rw [h, List.length_range]
    exact List.length_filter_eq_length_iff.1 h2 j (List.mem_range.2 hj)
  · intro h
    rw [List.filter_eq_self.2 fun j hj => h j (List.mem_range.1 hj), List.length_range]
theorem compact_nodup (zs : List Int) : (Lib.compact (srt zs)).length = zs.length ↔ zs.Nodup := by
  rw [← (srt_perm zs).nodup_iff, ← srt_len zs, compact_full, keeps_iff (srt_up zs)]
/-! ### The library -/
set_option maxRecDepth 100000 in
set_option maxHeartbeats 400000 in
theorem zclone_any (A : Option Addr) (c : Nat) (zs : List Int) (w : World) (hl : Lies w w.heap.size A (zs.map zi)) (hm : zs.length ≤ 1000000) :
    Calls Try.prog 90 #[.slice A zs.length c] w fun e w' => ∃ v, e = .returned v ∧ w'.ownsRow w.heap.size 3 1 v zs.length (zs.map zi) ∧ Below w.heap.size w w' := by
  rcases A with _ | ad
  · have h0 : zs = [] := by
      rcases hl with h | ⟨_, h, _⟩
      · simpa using h
      · cases h
    subst h0
    clear hl hm
    have q22 : ∀ W : World, Sem.run Try.prog (binOp .eql 23 (.slice none 0 c) (.slice none 0 0)) W = .ok (.bool true) W := fun W => Lib.run_eql_slice_nil W _ _ none 0 c 0 0 Try.underlying23
    show Calls Try.prog 90 #[.slice none 0 c] w _
    go_enter Try.func90, Try.ntmps90
    go_wp2_with fail
    go_ret
    exact ⟨_, rfl, World.ownsRow_nil _ _ _ _, Below.refl _ _⟩
  · have HL := Lib.hid hl
    have q22 : ∀ W : World, Sem.run Try.prog (binOp .eql 23 (.slice (some ad) zs.length c) (.slice none 0 0)) W = .ok (.bool false) W := fun W => Lib.run_eql_slice_nil W _ _ (some ad) zs.length c 0 0 Try.underlying23
    clear hl
    have hb0 := Joins.below_alloc1 w (.cells #[] 3)
    have hown : (w.alloc (.cells #[] 3)).ownsRow w.heap.size 3 1 (.slice (some ⟨w.heap.size, 0, none⟩) 0 0) 0 [] :=
      ⟨rfl, .inr ⟨w.heap.size, 0, #[], rfl, Nat.le_refl _, heap_alloc_new w _, Nat.le_refl _, by decide, rfl, rfl⟩⟩
    obtain ⟨v2, W2, hr2, hown2, hb2, hs2⟩ := run_append_lies (P := Try.prog) (m := zs.length) (c := c) 23 23 3 (.int .i64 0) 1 8 Try.underlying23 (by kernel_rfl) rfl (by decide)
      (fun u hu => by simp at hu; obtain ⟨_, _, rfl⟩ := hu; rfl) hown (HL.out.below hb0) (by simp) (by unfold maxLen; omega) (by omega) hb0.size
    rw [Nat.zero_add, List.nil_append] at hown2
    have HO := Lib.hid hown2
    have HB := Lib.hid (hb0.trans hb2)
    have HR := Lib.hid hr2
    clear hown hown2 hb0 hb2 hr2
    go_enter Try.func90, Try.ntmps90
    go_wp2_with (at_builtin; refine wpList_append_run rfl _ _ 23 rfl rfl rfl HR.out ?_)
    go_ret
    exact ⟨_, rfl, HO.out, HB.out⟩
/-- slices.Sort at a slice of the call's own. -/
theorem zsort_any (v : Value) (zs : List Int) (base : Nat) (w : World) (h : w.ownsRow base 3 1 v zs.length (zs.map zi)) (hm : zs.length ≤ 1000000) :
    Calls Try.prog 66 #[v] w fun e w' => e = .returned (.tuple #[]) ∧ w'.ownsRow base 3 1 v (srt zs).length ((srt zs).map zi) ∧ Below base w w' := by
  have hl := srt_len zs
  by_cases hv : v = .slice none 0 0
  · subst hv
    have h0 : zs = [] := by
      rcases h.2 with ⟨_, h0⟩ | ⟨g, cap, cur, hv, _⟩
      · exact List.eq_nil_of_length_eq_zero h0
      · cases hv
    subst h0
    refine (AnyM.slices_Sort_int_none Try.isortD none 0 w).mono ?_
    rintro e w' ⟨rfl, rfl⟩
    exact ⟨rfl, by simpa [srt] using h, Below.refl _ _⟩
  · rcases h.2 with ⟨h1, _⟩ | ⟨g, cap, cur, rfl, hg, hh, hn, hcm, hs, ht⟩
    · exact absurd h1 hv
    · have hglt : g < w.heap.size := (Array.getElem?_eq_some_iff.1 hh).1
      rw [Nat.mul_one] at ht
      refine (AnyM.slices_Sort_int Try.isortD g 0 cap zs w (holds_of_blockI hh ht) hglt (by omega)).mono ?_
      rintro e w' ⟨rfl, n, os, rfl⟩
      refine ⟨rfl, ?_, ?_⟩
      · rw [hl]
        exact ownsRow_sortedI hl hg hh hn hcm hs
      · refine ⟨rfl, rfl, rfl, by simp, fun k hk => ?_⟩
        have := (grownBy_sortedI (w := w) (g := g) (n := n) (os := os) (srt zs).toArray).block k (by omega) (fun e => by simp at e; omega)
        exact this
/-- slices.Compact at a slice of the call's own: how long its answer is. -/
theorem zcompact_any (v : Value) (zs : List Int) (base : Nat) (w : World) (h : w.ownsRow base 3 1 v zs.length (zs.map zi)) (hm : zs.length ≤ 1000000) :
    Calls Try.prog 67 #[v] w fun e w' => ∃ A c, e = .returned (.slice A (Lib.compact zs).length c) ∧ Below base w w' := by
  by_cases hv : v = .slice none 0 0
  · subst hv
    have h0 : zs = [] := by
      rcases h.2 with ⟨_, h0⟩ | ⟨g, cap, cur, hv, _⟩
      · exact List.eq_nil_of_length_eq_zero h0
      · cases hv
    subst h0
    refine (AnyG.slices_Compact_int_empty Try.icompD none 0 w).mono ?_
    rintro e w' ⟨rfl, rfl⟩
    exact ⟨none, 0, rfl, Below.refl _ _⟩
  · obtain ⟨g, cap, rfl, hb, hlt, hn, hcm, _, hH⟩ := Lib.holds_of_ownsRow h hv
    refine (AnyG.slices_Compact_int Try.icompD g 0 cap zs w hH (by omega) hn).mono ?_
    rintro e w' ⟨rfl, q, rfl⟩
    exact ⟨_, _, rfl, Lib.below_putRow (Below.refl _ _) hb⟩
set_option maxRecDepth 100000 in
set_option maxHeartbeats 800000 in
/-- different: no two numbers are equal. -/
theorem different_any (A : Option Addr) (c B : Nat) (zs : List Int) (w : World) (hl : Lies w B A (zs.map zi)) (hB : B ≤ w.heap.size) (hm : zs.length ≤ 100000) :
    Calls Try.prog 72 #[.slice A zs.length c] w fun e w' => e = .returned (.bool (decide zs.Nodup)) ∧ Below w.heap.size w w' := by
  have HC := Lib.hid (zclone_any A c zs w (hl.up hB) (by omega))
  clear hl hB
  go_enter Try.func72, Try.ntmps72
  go_wp2_with fail
  refine HC.out.mono ?_
  rintro e w1 ⟨v, rfl, ho, hb1⟩
  have HB1 := Lib.hid hb1
  have HS := Lib.hid (zsort_any v zs _ _ ho (by omega))
  clear ho hb1 HC
  go_wp2_with fail
  refine HS.out.mono ?_
  rintro e w2 ⟨rfl, ho, hb2⟩
  have HB2 := Lib.hid (HB1.out.trans hb2)
  have hsl := srt_len zs
  have HK := Lib.hid (zcompact_any v (srt zs) _ _ ho (by omega))
  have HN : Hid ((Lib.compact (srt zs)).length = zs.length ↔ zs.Nodup) := Lib.hid (compact_nodup zs)
  obtain ⟨k, hk⟩ : ∃ k, k = (Lib.compact (srt zs)).length := ⟨_, rfl⟩
  rw [← hk] at HK HN
  clear ho hb2 HS HB1 hsl hk
  go_wp2_with fail
  refine HK.out.mono ?_
  rintro e w3 ⟨A3, c3, rfl, hb3⟩
  have HB3 := Lib.hid (HB2.out.trans hb3)
  clear hb3 HK HB2
  go_wp2_with fail
  go_ret
  refine ⟨?_, HB3.out⟩
  congr 2
  by_cases h : zs.Nodup
  · have := HN.out.2 h
    simp [h, this]
  · have h2 : k ≠ zs.length := fun e => h (HN.out.1 e)
    simp [h]
    omega
end Go.Proofs.Ythhmjjmjicmhdaa.Ed
