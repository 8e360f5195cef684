/- The document's own disk: List; two lists of names. -/
import Derived.Test.YtnbknihaefkllaaRread
namespace Go.Proofs.Ytnbknihaefkllaa.Rk
set_option linter.unusedVariables false
set_option linter.unusedSimpArgs false
open Go.RowKit Go.Maps Lift Ik Dk

section
variable {w w' : World} {g : Nat} {S S' T : Nat → Prop} {rm : Int} {m : MS} {L : List D} {A F : Option Addr} {c cf : Nat}
set_option maxRecDepth 100000 in
set_option maxHeartbeats 400000 in
theorem rlist_any (h : At w g S rm m) : Calls Try.prog (35) #[.pointer (some ⟨g, 0, none⟩)] w fun e w' =>
    ∃ A c, e = .returned (.slice A m.fs.length c) ∧ m.fs.length ≤ c ∧ Lies w' w'.heap.size A (m.fs.map fun f => Value.string f.nm) ∧ Below w.heap.size w w' := by
  obtain ⟨L, A, F, c, cf, h⟩ := h
  obtain ⟨c0, c1, c2, c3, f1, f2, f3⟩ := h.facts
  obtain ⟨hcap, hcm⟩ := h.cap
  have hmany := h.many
  have H := Lib.hid h
  have HT := Lib.hid h.told
  have hg := h.lt g h.sg
  have HG := Lib.hid hg
  clear h c0 c2 c3 f1 f2 f3 hg
  go_enter Try.func35, Try.ntmps35
  go_wp2_with fail
  go_loopw [3, 4] (fun v i wr => ∃ j : Nat, j ≤ L.length ∧ i = .int .i64 j ∧ wr.ownsRow w.heap.size 9 1 v j ((L.take j).map fun d => Value.string d.nm) ∧ Hid (Below w.heap.size w wr)) (fun _ i _ => L.length + 1 - (intOf i).toNat)
  case atStart => exact ⟨0, by omega, rfl, by simpa using World.ownsRow_nil _ _ _ _, Lib.hid (Below.refl _ _)⟩
  case round =>
    obtain ⟨j, hj, rfl, hown, hb⟩ := hrel
    have hLr := H.out.keep (T := fun _ => False) (below_keep hb.out) fun _ _ => id
    obtain ⟨_, p1, _⟩ := hLr.facts
    by_cases hlt : j < L.length
    · obtain ⟨d, hd⟩ : ∃ d, L[j]? = some d := ⟨_, List.getElem?_eq_getElem hlt⟩
      obtain ⟨gl, hA, p0, _, _, _, _⟩ := hLr.place hd
      subst hA
      obtain ⟨v', w1, hrun, hown1, hb1, hs1⟩ := run_append_one (P := Try.prog) (u := .string d.nm) 67 67 9 (.string ⟨#[]⟩) 16 Try.underlying67 (by kernel_rfl) rfl rfl hown (by unfold maxLen; omega) (by omega) hb.out.size
      have e : (L.take j).map (fun d => Value.string d.nm) ++ [Value.string d.nm] = (L.take (j + 1)).map fun d => Value.string d.nm := by rw [List.take_add_one, hd]; simp
      rw [e] at hown1
      have dl : decide (j < L.length) = true := decide_eq_true hlt
      have HO1 := Lib.hid hown1
      have HB1 := Lib.hid (hb.out.trans hb1)
      have HR1 := Lib.hid hrun
      clear hown hown1 hb1 hrun hd hLr e
      go_wp2_with (at_builtin; refine wpList_append_run rfl _ _ 67 rfl rfl rfl HR1.out ?_)
      go_roundw
      case rel => exact ⟨j + 1, by omega, by go_num, HO1.out, HB1⟩
      case measure => simp [intOf]; omega
    · obtain rfl : j = L.length := by omega
      have dl : decide (L.length < L.length) = false := decide_eq_false hlt
      have HO1 := Lib.hid hown
      clear hown hLr
      go_wp2_with fail
      go_ret
      have hp := HO1.out
      obtain ⟨A1, c1, rfl, h1, _, h3⟩ := own_parts hp
      have e : m.fs.length = L.length := by rw [HT.out, List.length_map]
      refine ⟨A1, c1, by rw [e]; rfl, by rw [e]; exact h1, ?_, hb.out⟩
      rw [HT.out, List.map_map]
      rw [List.take_length] at h3
      exact h3
set_option maxRecDepth 100000 in
set_option maxHeartbeats 400000 in
theorem same_any (A1 A2 : Option Addr) (c1 c2 : Nat) (ss : List ByteArray) (w : World) (h1 : Lies w w.heap.size A1 (ss.map Value.string)) (h2 : Lies w w.heap.size A2 (ss.map Value.string)) (hn : ss.length ≤ 1000) (hc1 : ss.length ≤ c1) (hc2 : ss.length ≤ c2) :
    Calls Try.prog 33 #[.slice A1 ss.length c1, .slice A2 ss.length c2] w fun e w' => e = .returned (.bool true) ∧ Below w.heap.size w w' := by
  have L1 := Lib.hid h1
  have L2 := Lib.hid h2
  clear h1 h2
  go_enter Try.func33, Try.ntmps33
  go_wp2_with fail
  go_loopw [5] (fun i wr => ∃ j : Nat, j ≤ ss.length ∧ i = .int .i64 j ∧ Hid (Below w.heap.size w wr)) (fun i _ => ss.length + 1 - (intOf i).toNat)
  case atStart => exact ⟨0, by omega, rfl, Lib.hid (Below.refl _ _)⟩
  case round =>
    obtain ⟨j, hj, rfl, hb⟩ := hrel
    by_cases hlt : j < ss.length
    · obtain ⟨s, hd⟩ : ∃ s, ss[j]? = some s := ⟨_, List.getElem?_eq_getElem hlt⟩
      obtain ⟨a1, hA1, _, q1⟩ := (L1.out.below hb.out).place (by rw [List.length_map]; omega)
      obtain ⟨a2, hA2, _, q2⟩ := (L2.out.below hb.out).place (by rw [List.length_map]; omega)
      have r1 := q1 j (.string s) (by rw [List.getElem?_map, hd]; rfl)
      have r2 := q2 j (.string s) (by rw [List.getElem?_map, hd]; rfl)
      subst hA1 hA2
      have dl : decide (j < ss.length) = true := decide_eq_true hlt
      clear q1 q2 hd
      go_wp2_with fail
      go_quiet (fail)
      go_wp2_with fail
      go_roundw
      case rel => exact ⟨j + 1, by omega, by go_num, Lib.hid (hb.out.trans (Joins.below_draws _ _ _))⟩
      case measure => simp [intOf]; omega
    · have dl : decide (j < ss.length) = false := decide_eq_false hlt
      go_wp2_with fail
      go_ret
      exact ⟨rfl, hb.out⟩
/-- The bytes' order is the lists' own. -/
theorem before_lt : ∀ x y : List UInt8, bytesBefore x y = decide (x < y)
  | [], [] => by simp [bytesBefore]
  | _ :: _, [] => by simp [bytesBefore]
  | [], _ :: _ => by simp [bytesBefore]
  | a :: x, b :: y => by
    rw [bytesBefore, before_lt x y]
    simp only [List.cons_lt_cons_iff]
    by_cases h1 : a < b <;> by_cases h2 : a = b <;> by_cases h3 : x < y <;> simp [h1, h2, h3]
/-- The names that both tell. -/
theorem listed_names {ss : List (List UInt8)} (hs : m.fs.Pairwise before) (hp : ss.Perm (m.fs.map fun f => f.nm.data.toList)) : (ss.mergeSort (fun x y => decide (x ≤ y))).map encStr = (m.fs.map fun f => f.nm).map Value.string := by
  have hk : (m.fs.map fun f => f.nm.data.toList).Pairwise (fun a b => a ≤ b) := by
    rw [List.pairwise_map]
    refine hs.imp ?_
    intro a b hab
    have : bytesBefore a.nm.data.toList b.nm.data.toList = true := hab
    rw [before_lt] at this
    exact List.le_of_lt (of_decide_eq_true this)
  have hm : (ss.mergeSort (fun x y => decide (x ≤ y))).Pairwise (fun a b => a ≤ b) := by
    have := List.pairwise_mergeSort (le := fun x y : List UInt8 => decide (x ≤ y)) (fun a b c h1 h2 => by simp only [decide_eq_true_eq] at *; exact List.le_trans h1 h2) (fun a b => by have := List.le_total a b; simpa using this) ss
    exact this.imp fun h => of_decide_eq_true h
  have he : ss.mergeSort (fun x y => decide (x ≤ y)) = m.fs.map fun f => f.nm.data.toList :=
    List.Perm.eq_of_pairwise (le := fun a b => a ≤ b) (fun a b _ _ h1 h2 => List.le_antisymm h1 h2) hm hk ((List.mergeSort_perm _ _).trans hp)
  rw [he, List.map_map, List.map_map]
  apply List.map_congr_left
  intro f _
  simp [encStr, Function.comp]
end
end Go.Proofs.Ytnbknihaefkllaa.Rk
