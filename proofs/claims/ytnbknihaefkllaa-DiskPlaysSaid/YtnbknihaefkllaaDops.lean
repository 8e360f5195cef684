/- What New, Used, Failed, Sync, Size of package disk answer. -/
import Derived.Test.YtnbknihaefkllaaDsub
import Derived.Lib.MinMax
namespace Go.Proofs.Ytnbknihaefkllaa.Dk
set_option linter.unusedVariables false
set_option linter.unusedSimpArgs false
open Go.RowKit Go.Maps Lift Ik

def newM (room : Int) : MS := ⟨room.toNat, [], [], 0⟩
theorem new_any (room : Int) (hr : (Lit.int .i64 room).wf = true) (w : World) :
    Calls Try.prog 6 #[.int .i64 room] w fun e w' => e = .returned (.pointer (some ⟨w.heap.size, 0, none⟩)) ∧ At w' w.heap.size (· = w.heap.size) (newM room) ∧ Below w.heap.size w w' := by
  have h8 := i64_of hr
  go_enter Try.func6, Try.ntmps6
  go_wp2_with fail
  go_ret
  refine ⟨rfl, ⟨[], none, none, 0, ⟨?_, rfl, ⟨.inl ⟨rfl, rfl⟩, by simp, List.Pairwise.nil⟩, rfl, .inl rfl, Nat.le_refl _, by decide, by simp [newM], fun k hk => by rw [hk]; simp, by unfold newM; simp only; omega, Nat.zero_le _, Nat.zero_le _⟩⟩, Joins.below_alloc1 _ _⟩
  have e : max room 0 = ((newM room).room : Int) := by show max room 0 = (room.toNat : Int); omega
  rw [e]
  exact Box.new w Ty.disk [.int .i64 ((newM room).room : Int), .int .i64 0, .map none, .slice none 0 0, .int .i64 0]

section
variable {w w' : World} {g : Nat} {S S' T : Nat → Prop} {m : MS} {fs : List Fi} {M : Option Nat} {A : Option Addr} {c : Nat}
theorem used_any (h : At w g S m) : Calls Try.prog (29) #[.pointer (some ⟨g, 0, none⟩)] w fun e w' => e = .returned (.int .i64 (used m.fs : Int)) ∧ w = w' := by
  obtain ⟨fs, M, A, c, h⟩ := h
  obtain ⟨c0, c1, c2, c3, c4, f1, f2, f3, f4⟩ := h.facts
  clear h
  go_enter Try.func29, Try.ntmps29
  go_wp2_with fail
  go_ret
  exact ⟨rfl, rfl⟩
theorem failed_any (h : At w g S m) : Calls Try.prog (31) #[.pointer (some ⟨g, 0, none⟩)] w fun e w' => e = .returned (.int .i64 (m.failed : Int)) ∧ w = w' := by
  obtain ⟨fs, M, A, c, h⟩ := h
  obtain ⟨c0, c1, c2, c3, c4, f1, f2, f3, f4⟩ := h.facts
  clear h
  go_enter Try.func31, Try.ntmps31
  go_wp2_with fail
  go_ret
  exact ⟨rfl, rfl⟩

/-- A call on a file that has to be there. -/
def onFile {α : Type} (m : MS) (ns : List ByteArray) (nm : ByteArray) (no : Nat → α) (k : FM → α) : α :=
  if bad m ns ≠ 0 then no (bad m ns) else match get m.fs nm with | none => no 8 | some f => k f
theorem onFile_no {α : Type} {ns : List ByteArray} {nm : ByteArray} {no : Nat → α} {k : FM → α} (ht : m.fs = fs.map Fi.m) (h : gone m ns (look fs nm) ≠ 0) : onFile m ns nm no k = no (gone m ns (look fs nm)) := by
  by_cases hb : bad m ns = 0
  · have e : gone m ns (look fs nm) = if (look fs nm).isSome then 0 else 8 := by unfold gone; simp [hb]
    rw [e] at h ⊢
    unfold onFile
    rw [if_neg (by omega), ht, look_get]
    cases hl : look fs nm with
    | none => rfl
    | some f => rw [hl] at h; simp at h
  · have e : gone m ns (look fs nm) = bad m ns := by unfold gone; rw [if_pos hb]
    unfold onFile
    rw [e, if_pos hb]
theorem onFile_yes {α : Type} {ns : List ByteArray} {nm : ByteArray} {no : Nat → α} {k : FM → α} {f : Fi} (ht : m.fs = fs.map Fi.m) (h : bad m ns = 0) (hl : look fs nm = some f) : onFile m ns nm no k = k f.m := by
  unfold onFile
  rw [if_neg (by omega), ht, look_get, hl]
  rfl
theorem names1 (nm : ByteArray) (hg : g < w.heap.size) : LiesP (w.alloc (.cells #[.string nm] 9)) (fun k => ¬ k = g ∧ k < (w.alloc (.cells #[.string nm] 9)).heap.size) (some ⟨w.heap.size, 0, none⟩) ([nm].map Value.string) :=
  .inr ⟨_, rfl, ⟨by simp only; omega, by simp⟩, fun j u hj => by
    rcases j with _ | j
    · simp at hj
      subst hj
      exact World.cell?_alloc_new w #[.string nm] 9 0
    · simp at hj⟩
/-- Where the file is, asked with one name. -/
theorem find1 (nm : ByteArray) (h : Lay w g S m fs M A c) (hf : m.failed ≤ 1000000) :
    Calls Try.prog (37) #[.pointer (some ⟨g, 0, none⟩), .slice (some ⟨w.heap.size, 0, none⟩) 1 1] (w.alloc (.cells #[.string nm] 9)) fun e w' => ∃ A' c', Keep (· = g) w w' ∧ Lay w' g S (hit m).2 fs M A' c' ∧
      ((∃ f, look fs nm = some f ∧ bad m [nm] = 0 ∧ e = .returned (.tuple #[.pointer (some ⟨f.blk, 0, none⟩), .int .i64 0])) ∨
        (gone m [nm] (look fs nm) ≠ 0 ∧ e = .returned (.tuple #[.pointer none, .int .i64 (gone m [nm] (look fs nm) : Nat)]))) := by
  have hk0 : Keep (fun _ => False) w (w.alloc (.cells #[.string nm] 9)) := below_keep (Joins.below_alloc1 w _)
  refine (find_any g S m fs M A (some ⟨w.heap.size, 0, none⟩) c 1 nm [] _ (h.keep hk0 fun _ _ => id) hf (names1 nm (h.lt g h.sg)) (by simp) (by decide)).mono ?_
  rintro e w' ⟨A', c', hk, hL, hc⟩
  exact ⟨A', c', (below_keep (S := (· = g)) (Joins.below_alloc1 w _)).trans hk fun _ _ h => h, hL, hc⟩
end
end Go.Proofs.Ytnbknihaefkllaa.Dk
