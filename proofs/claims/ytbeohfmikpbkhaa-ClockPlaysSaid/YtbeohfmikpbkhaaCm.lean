/- Plain mathematics of a cache with a hand: slots in a row, the place of the hand, what each call leaves and answers. -/
import Derived.Test.YtbeohfmikpbkhaaLift
namespace Go.Proofs.Ytbeohfmikpbkhaa.Ck
set_option linter.unusedVariables false
set_option linter.unusedSimpArgs false
structure S where
  file : Int
  off : Int
  b : List Nat
  pins : Nat
  mark : Bool
abbrev R := List S × Nat
/-- Is it the slot of this file and offset? -/
def here (f a : Int) (s : S) : Bool := decide (s.file = f ∧ s.off = a)
def used (l : List S) : Nat := (l.map fun s => s.b.length).sum
def pinned (l : List S) : Nat := (l.map fun s => s.pins).sum
def ids (l : List S) : List (Int × Int) := l.map fun s => (s.file, s.off)
/-- How often a file's offset is pinned. -/
def pinOf (l : List S) (f a : Int) : Nat := (l.map fun s => if here f a s then s.pins else 0).sum
/-- A slot goes. -/
def out (c : R) (i : Nat) : R :=
  let l := c.1.eraseIdx i
  let h := if c.2 > i then c.2 - 1 else c.2
  (l, if h ≥ l.length then 0 else h)
def next (c : R) : Nat := (c.2 + 1) % c.1.length
/-- At most k steps of the hand: does a slot go? -/
def sweep : Nat → R → R × Bool
  | 0, c => (c, false)
  | k + 1, c => match c.1[c.2]? with
    | none => (c, false)
    | some x => if 0 < x.pins then sweep k (c.1, next c) else if x.mark then sweep k (c.1.set c.2 { x with mark := false }, next c) else (out c c.2, true)
/-- Slots go until there is room for n bytes. -/
def make (room n : Nat) : Nat → R → R × Bool
  | 0, c => (c, decide (used c.1 + n ≤ room))
  | k + 1, c => if used c.1 + n ≤ room then (c, true) else if (sweep (2 * c.1.length) c).2 then make room n k (sweep (2 * c.1.length) c).1 else ((sweep (2 * c.1.length) c).1, false)
def pin (s : S) : S := { s with pins := s.pins + 1, mark := true }
def unpin (s : S) : S := { s with pins := s.pins - 1 }
def find (l : List S) (f a : Int) : Option Nat := l.findIdx? (here f a)
def getC (c : R) (f a : Int) : R × Option (List Nat) := match find c.1 f a with
  | none => (c, none)
  | some i => ((c.1.modify i pin, c.2), (c.1[i]?).map fun s => s.b)
def putC (room : Nat) (c : R) (f a : Int) (b : List Nat) : R × Bool := match find c.1 f a with
  | some i => ((c.1.modify i pin, c.2), true)
  | none => if (make room b.length c.1.length c).2 then (((make room b.length c.1.length c).1.1 ++ [⟨f, a, b, 1, true⟩], (make room b.length c.1.length c).1.2), true) else ((make room b.length c.1.length c).1, false)
def relC (c : R) (f a : Int) : R × Bool := match find c.1 f a with
  | none => (c, false)
  | some i => match c.1[i]? with
    | none => (c, false)
    | some s => if s.pins = 0 then (c, false) else ((c.1.modify i unpin, c.2), true)
def goes (f : Int) (s : S) : Bool := decide (s.file = f ∧ s.pins = 0)
def dropC (c : R) (f : Int) : R × Nat :=
  let l := c.1.filter fun s => !goes f s
  let h := ((c.1.take c.2).filter fun s => !goes f s).length
  ((l, if h ≥ l.length then 0 else h), (c.1.filter (goes f)).length)
/-- The hand is at a slot, or there is none. -/
def Fine (c : R) : Prop := c.2 < c.1.length ∨ c.1 = [] ∧ c.2 = 0
theorem fine_mod {l : List S} {h : Nat} : Fine (l, if h ≥ l.length then 0 else h) := by
  unfold Fine
  by_cases h1 : h ≥ l.length
  · rw [if_pos h1]
    cases l with
    | nil => exact .inr ⟨rfl, rfl⟩
    | cons x l => exact .inl (by simp)
  · rw [if_neg h1]; exact .inl (by simp only; omega)
theorem fine_out (c : R) (i : Nat) : Fine (out c i) := fine_mod
theorem fine_next {c : R} {l : List S} (hl : l.length = c.1.length) (h : c.2 < c.1.length) : Fine (l, next c) := .inl (by unfold next; simp only; rw [hl]; exact Nat.mod_lt _ (by omega))
/-- What a sweep and evictions keep: l' is l without some slots that nobody has pinned, but for marks. -/
inductive Less : List S → List S → Prop
  | nil : Less [] []
  | keep (x y : S) {l m : List S} : x.file = y.file → x.off = y.off → x.b = y.b → x.pins = y.pins → Less l m → Less (x :: l) (y :: m)
  | gone (y : S) {l m : List S} : y.pins = 0 → Less l m → Less l (y :: m)
namespace Less
theorem refl : ∀ l : List S, Less l l
  | [] => .nil
  | x :: l => .keep x x rfl rfl rfl rfl (refl l)
theorem trans {l m n : List S} (h : Less l m) (g : Less m n) : Less l n := by
  induction g generalizing l with
  | nil => exact h
  | keep x y e1 e2 e3 e4 _ ih =>
    cases h with
    | keep z _ d1 d2 d3 d4 h => exact .keep z y (d1.trans e1) (d2.trans e2) (d3.trans e3) (d4.trans e4) (ih h)
    | gone _ d h => exact .gone y (e4.symm.trans d) (ih h)
  | gone y e _ ih => exact .gone y e (ih h)
theorem erase : ∀ {l : List S} {i : Nat} {x : S}, l[i]? = some x → x.pins = 0 → Less (l.eraseIdx i) l
  | [], _, _, h, _ => by simp at h
  | y :: l, 0, x, h, hp => by
    have e : y = x := by simpa using h
    subst e
    exact .gone y hp (refl l)
  | y :: l, i + 1, x, h, hp => .keep y y rfl rfl rfl rfl (erase (by simpa using h) hp)
theorem unmark : ∀ {l : List S} {i : Nat} {x : S}, l[i]? = some x → Less (l.set i { x with mark := false }) l
  | [], _, _, h => by simp at h
  | y :: l, 0, x, h => by
    have e : y = x := by simpa using h
    subst e
    exact .keep _ y rfl rfl rfl rfl (refl l)
  | y :: l, i + 1, x, h => .keep y y rfl rfl rfl rfl (unmark (by simpa using h))
theorem used {l m : List S} (h : Less l m) : used l ≤ used m := by
  induction h with
  | nil => exact Nat.le_refl _
  | keep x y _ _ e _ _ ih =>
    show x.b.length + Ck.used _ ≤ y.b.length + Ck.used _
    rw [e]; omega
  | gone y _ _ ih =>
    show Ck.used _ ≤ y.b.length + Ck.used _
    omega
theorem pinOf {l m : List S} (h : Less l m) (f a : Int) : pinOf l f a = pinOf m f a := by
  induction h with
  | nil => rfl
  | keep x y e1 e2 _ e4 _ ih =>
    show (if here f a x then x.pins else 0) + Ck.pinOf _ f a = (if here f a y then y.pins else 0) + Ck.pinOf _ f a
    have e : here f a x = here f a y := by unfold here; rw [e1, e2]
    rw [e, e4, ih]
  | gone y e _ ih =>
    show Ck.pinOf _ f a = (if here f a y then y.pins else 0) + Ck.pinOf _ f a
    rw [e, ih]; split <;> omega
theorem pinned {l m : List S} (h : Less l m) : pinned l = pinned m := by
  induction h with
  | nil => rfl
  | keep x y _ _ _ e4 _ ih =>
    show x.pins + Ck.pinned _ = y.pins + Ck.pinned _
    rw [e4, ih]
  | gone y e _ ih =>
    show Ck.pinned _ = y.pins + Ck.pinned _
    rw [e, ih]; omega
theorem ids {l m : List S} (h : Less l m) : (ids l).Sublist (ids m) := by
  induction h with
  | nil => exact List.Sublist.slnil
  | keep x y e1 e2 _ _ _ ih =>
    show ((x.file, x.off) :: Ck.ids _).Sublist ((y.file, y.off) :: Ck.ids _)
    rw [e1, e2]; exact ih.cons_cons _
  | gone y _ _ ih => exact ih.cons _
/-- What is told of each slot is told of those that stay. -/
theorem all {l m : List S} {P : Int → Int → List Nat → Nat → Prop} (h : Less l m) (hm : ∀ s, s ∈ m → P s.file s.off s.b s.pins) : ∀ s, s ∈ l → P s.file s.off s.b s.pins := by
  induction h with
  | nil => intro s hs; cases hs
  | keep x y e1 e2 e3 e4 _ ih =>
    intro s hs
    cases hs with
    | head => rw [e1, e2, e3, e4]; exact hm y (List.mem_cons_self ..)
    | tail _ hs => exact ih (fun s hs => hm s (List.mem_cons_of_mem _ hs)) s hs
  | gone y _ _ ih => exact ih fun s hs => hm s (List.mem_cons_of_mem _ hs)
theorem length {l m : List S} (h : Less l m) : l.length ≤ m.length := by
  induction h with
  | nil => exact Nat.le_refl _
  | keep x y _ _ _ _ _ ih => simp only [List.length_cons]; omega
  | gone y _ _ ih => simp only [List.length_cons]; omega
end Less
theorem sweep_less : ∀ (k : Nat) (c : R), Less (sweep k c).1.1 c.1
  | 0, c => Less.refl _
  | k + 1, c => by
    unfold sweep
    split
    · exact Less.refl _
    · rename_i x hx
      split
      · exact sweep_less k _
      · rename_i hp
        split
        · exact (sweep_less k _).trans (Less.unmark hx)
        · exact Less.erase hx (by omega)
theorem sweep_fine : ∀ (k : Nat) (c : R), Fine c → Fine (sweep k c).1
  | 0, c, h => h
  | k + 1, c, h => by
    unfold sweep
    split
    · exact h
    · rename_i x hx
      have hl : c.2 < c.1.length := (List.getElem?_eq_some_iff.mp hx).1
      split
      · exact sweep_fine k _ (fine_next rfl hl)
      · split
        · exact sweep_fine k _ (fine_next (List.length_set ..) hl)
        · exact fine_out _ _
/-- A sweep that says that a slot goes has one slot less. -/
theorem sweep_gone : ∀ (k : Nat) (c : R), (sweep k c).2 = true → (sweep k c).1.1.length + 1 = c.1.length
  | 0, c, h => by cases h
  | k + 1, c, h => by
    cases hx : c.1[c.2]? with
    | none => simp only [sweep, hx] at h; cases h
    | some x =>
      have hl : c.2 < c.1.length := (List.getElem?_eq_some_iff.mp hx).1
      simp only [sweep, hx] at h ⊢
      by_cases hp : 0 < x.pins
      · simp only [if_pos hp] at h ⊢; exact sweep_gone k _ h
      · simp only [if_neg hp] at h ⊢
        cases hm : x.mark with
        | true =>
          simp only [hm, if_true] at h ⊢
          rw [sweep_gone k _ h]; exact List.length_set ..
        | false =>
          simp only [hm] at h ⊢
          show (c.1.eraseIdx c.2).length + 1 = _
          rw [List.length_eraseIdx, if_pos hl]; omega
theorem sweep_stay : ∀ (k : Nat) (c : R), (sweep k c).2 = false → (sweep k c).1.1.length = c.1.length
  | 0, c, h => rfl
  | k + 1, c, h => by
    cases hx : c.1[c.2]? with
    | none => simp only [sweep, hx]
    | some x =>
      simp only [sweep, hx] at h ⊢
      by_cases hp : 0 < x.pins
      · simp only [if_pos hp] at h ⊢; exact sweep_stay k _ h
      · simp only [if_neg hp] at h ⊢
        cases hm : x.mark with
        | true =>
          simp only [hm, if_true] at h ⊢
          rw [sweep_stay k _ h]; exact List.length_set ..
        | false => simp only [hm] at h; cases h
theorem make_less (room n : Nat) : ∀ (k : Nat) (c : R), Less (make room n k c).1.1 c.1
  | 0, c => Less.refl _
  | k + 1, c => by
    unfold make
    split
    · exact Less.refl _
    · split
      · exact (make_less room n k _).trans (sweep_less _ _)
      · exact sweep_less _ _
theorem make_fine (room n : Nat) : ∀ (k : Nat) (c : R), Fine c → Fine (make room n k c).1
  | 0, c, h => h
  | k + 1, c, h => by
    unfold make
    split
    · exact h
    · split
      · exact make_fine room n k _ (sweep_fine _ _ h)
      · exact sweep_fine _ _ h
theorem make_room (room n : Nat) : ∀ (k : Nat) (c : R), (make room n k c).2 = true → used (make room n k c).1.1 + n ≤ room
  | 0, c, h => of_decide_eq_true h
  | k + 1, c, h => by
    unfold make at h ⊢
    split
    · rename_i hu; exact hu
    · rename_i hu
      rw [if_neg hu] at h
      split
      · rename_i hs
        rw [if_pos hs] at h
        exact make_room room n k _ h
      · rename_i hs
        rw [if_neg hs] at h; cases h
end Go.Proofs.Ytbeohfmikpbkhaa.Ck
