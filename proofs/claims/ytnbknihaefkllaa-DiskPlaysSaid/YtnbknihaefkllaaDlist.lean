/- What List of package disk answers: maps.Keys and slices.Sorted by the library's contracts. -/
import Derived.Test.YtnbknihaefkllaaDfail
import Derived.Test.YtnbknihaefkllaaShelf
import Derived.Shelf.SlIter.Nil
import Derived.Shelf.SortM.Plain
import Derived.Shelf.SortM.SortNone
namespace Go.Proofs.Ytnbknihaefkllaa.Dk
set_option linter.unusedVariables false
set_option linter.unusedSimpArgs false
open Go.RowKit Go.Maps Lift Ik Go.Sort Go.Shelf

abbrev kf : FuncId := 54
theorem sortsIn (m : Nat) : AnyZ.SortsIn Try.prog Try.sortedD_ren Fence.wide m :=
  ⟨fun blk off cap ss W hH hblk hsz => callsIn_wide.2 (AnyM.slices_Sort_string Try.sortD blk off cap ss W hH hblk hsz),
   fun p cap W => callsIn_wide.2 (AnyM.slices_Sort_string_none Try.sortD p cap W)⟩
theorem keys_any (mb : Option Nat) (W : World) : Calls Try.prog 49 #[.map mb] W fun e w' => e = .returned (.func (.func kf) #[] #[.pointer (some ⟨W.heap.size, 0, none⟩)]) ∧ w' = W.alloc (.cells #[.map mb] 42) :=
  callsIn_wide.1 (AnyZ.keys_in Try.keysD Fence.wide 5 trivial rfl mb W)
set_option maxHeartbeats 1000000 in
theorem sorted_some (b nn : Nat) (D0 : DataW Unit) (w : World) (hown : w.ownsMap Try.prog 9 ptrR b nn D0) (hmax : Maps.size D0 ≤ maxLen) (hbytes : Maps.size D0 * 16 ≤ 140737488355328) :
    Calls Try.prog 48 #[.func (.func kf) #[] #[.pointer (some ⟨w.heap.size, 0, none⟩)]] (w.alloc (.cells #[.map (some b)] 42)) fun e w' => ∃ (v : Value) (ss : List (List UInt8)), e = .returned v ∧ ss.Perm (strKeys D0) ∧
      w'.ownsRow (w.alloc (.cells #[.map (some b)] 42)).heap.size 9 1 v ss.length ((ss.mergeSort (fun x y => decide (x ≤ y))).map encStr) ∧ (v = .slice none 0 0 ↔ ss = []) ∧ Below (w.alloc (.cells #[.map (some b)] 42)).heap.size (w.alloc (.cells #[.map (some b)] 42)) w' := by
  have hbl := hown.lt
  have hseq : SeqGives Fence.wide 2 Try.prog kf #[.pointer (some ⟨w.heap.size, 0, none⟩)] encStr (fun ss => ss.Perm (strKeys D0)) (Maps.size D0) (w.alloc (.cells #[.map (some b)] 42)) :=
    AnyZ.keys_gives (ρ := Try.keysD_ren) { Try.keysD with } Fence.wide _ trivial rfl (by omega) w.heap.size b nn D0 _ (by simp) (by simp) (by
      obtain ⟨es, clock, hb, Ft, hs, hD⟩ := hown
      exact ⟨es, clock, (Below.heap_alloc _ _ b hbl).trans hb, Ft, hs, hD⟩)
  exact callsIn_wide.1 (AnyZ.sorted_in Try.sortedD Fence.wide 5 trivial trivial trivial trivial rfl (by omega) (sortsIn _) (enters_of Try.func53 (by kernel_rfl) rfl) kf #[.pointer (some ⟨w.heap.size, 0, none⟩)] trivial (enters_of Try.func54 (by kernel_rfl) rfl) _ _ hmax hbytes _ hseq)
set_option maxHeartbeats 1000000 in
theorem sorted_none (w : World) :
    Calls Try.prog 48 #[.func (.func kf) #[] #[.pointer (some ⟨w.heap.size, 0, none⟩)]] (w.alloc (.cells #[.map none] 42)) fun e w' => ∃ (v : Value) (ss : List (List UInt8)), e = .returned v ∧ ss = [] ∧
      w'.ownsRow (w.alloc (.cells #[.map none] 42)).heap.size 9 1 v ss.length ((ss.mergeSort (fun x y => decide (x ≤ y))).map encStr) ∧ (v = .slice none 0 0 ↔ ss = []) ∧ Below (w.alloc (.cells #[.map none] 42)).heap.size (w.alloc (.cells #[.map none] 42)) w' := by
  have hseq : SeqGives Fence.wide 2 Try.prog kf #[.pointer (some ⟨w.heap.size, 0, none⟩)] encStr (fun ss : List (List UInt8) => ss = []) 0 (w.alloc (.cells #[.map none] 42)) :=
    AnyZ.keys_gives_nil (ρ := Try.keysD_ren) { Try.keysD with } Fence.wide _ trivial rfl w.heap.size _ (by simp) (by simp)
  exact callsIn_wide.1 (AnyZ.sorted_in Try.sortedD Fence.wide 5 trivial trivial trivial trivial rfl (by omega) (sortsIn _) (enters_of Try.func53 (by kernel_rfl) rfl) kf #[.pointer (some ⟨w.heap.size, 0, none⟩)] trivial (enters_of Try.func54 (by kernel_rfl) rfl) _ 0 (Nat.zero_le _) (by omega) _ hseq)
theorem keys_told (fs : List Fi) : strKeys (.map (fs.map ent) : DataW Unit) = fs.map fun f => f.nm.data.toList := by
  unfold strKeys
  simp only [List.map_map]
  rfl

section
variable {w w' : World} {g : Nat} {S S' T : Nat → Prop} {m : MS} {fs : List Fi} {M : Option Nat} {A : Option Addr} {c : Nat}
/-- The names, in order. -/
def Listed (w : World) (m : MS) (e : Ending) (w' : World) : Prop :=
  ∃ (ss : List (List UInt8)) (A : Option Addr) (c : Nat), e = .returned (.slice A ss.length c) ∧ ss.Perm (m.fs.map fun f => f.nm.data.toList) ∧ LiesP w' (fun k => w.heap.size ≤ k ∧ k < w'.heap.size) A ((ss.mergeSort (fun x y => decide (x ≤ y))).map encStr) ∧ Below w.heap.size w w'
theorem sorted_any (h : Lay w g S m fs M A c) : Calls Try.prog 48 #[.func (.func kf) #[] #[.pointer (some ⟨w.heap.size, 0, none⟩)]] (w.alloc (.cells #[.map M] 42)) (Listed w m) := by
  have ht : (m.fs.map fun f => f.nm.data.toList) = fs.map fun f => f.nm.data.toList := by rw [h.told, List.map_map]; rfl
  have hb0 := Joins.below_alloc1 w (.cells #[.map M] 42)
  have fin : ∀ (v : Value) (ss : List (List UInt8)) (w' : World), w'.ownsRow (w.alloc (.cells #[.map M] 42)).heap.size 9 1 v ss.length ((ss.mergeSort (fun x y => decide (x ≤ y))).map encStr) → ss.Perm (m.fs.map fun f => f.nm.data.toList) →
      Below (w.alloc (.cells #[.map M] 42)).heap.size (w.alloc (.cells #[.map M] 42)) w' → Listed w m (.returned v) w' := by
    intro v ss w' ho hp hb
    have hp2 := ho
    obtain ⟨A, c, rfl, _, _, _⟩ := own_parts hp2
    exact ⟨ss, A, c, rfl, hp, (LiesP.of_own ho).later (fun _ _ => rfl) fun k hk => ⟨Nat.le_trans hb0.size hk.1, hk.2.1⟩, hb0.trans (hb.mono hb0.size)⟩
  rcases h.files.map with ⟨rfl, rfl⟩ | ⟨b, rfl, _, hm⟩
  · refine (sorted_none w).mono ?_
    rintro e w' ⟨v, ss, rfl, rfl, ho, _, hb⟩
    exact fin v [] w' ho (by rw [ht]; exact List.Perm.refl _) hb
  · have hsz : Maps.size (DataW.map (fs.map ent)) ≤ 1000 := by
      have := h.many
      rw [h.told, List.length_map] at this
      simpa [Maps.size] using this
    refine (sorted_some b fs.length _ w hm (by unfold maxLen; omega) (by omega)).mono ?_
    rintro e w' ⟨v, ss, rfl, hp, ho, _, hb⟩
    rw [keys_told] at hp
    exact fin v ss w' ho (by rw [ht]; exact hp) hb
theorem list_any (h : At w g S m) : Calls Try.prog (34) #[.pointer (some ⟨g, 0, none⟩)] w (Listed w m) := by
  obtain ⟨fs, M, A, c, h⟩ := h
  obtain ⟨c0, c1, c2, c3, c4, f1, f2, f3, f4⟩ := h.facts
  have HS := Lib.hid (sorted_any h)
  clear h
  go_enter Try.func34, Try.ntmps34
  go_wp2_with fail
  refine (keys_any M w).mono ?_
  rintro e w' ⟨rfl, rfl⟩
  go_wp2_with fail
  refine HS.out.mono ?_
  rintro e w' ⟨ss, A1, c1', rfl, hp, hl, hb⟩
  have HP := Lib.hid hp
  have HL := Lib.hid hl
  have HB := Lib.hid hb
  clear hp hl hb HS
  go_wp2_with fail
  go_ret
  exact ⟨ss, A1, c1', rfl, HP.out, HL.out, HB.out⟩
end
end Go.Proofs.Ytnbknihaefkllaa.Dk
