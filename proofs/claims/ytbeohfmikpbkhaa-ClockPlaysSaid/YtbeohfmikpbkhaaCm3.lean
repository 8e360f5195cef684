/- How many pins and slots there are; the row of calls of ClockTurns; slots that are as they were put. -/
import Derived.Test.YtbeohfmikpbkhaaCm2
namespace Go.Proofs.Ytbeohfmikpbkhaa.Ck
set_option linter.unusedVariables false
set_option linter.unusedSimpArgs false
theorem pinned_pin : ∀ {l : List S} {i : Nat} {s : S}, l[i]? = some s → pinned (l.modify i pin) = pinned l + 1
  | [], _, _, h => by simp at h
  | x :: l, 0, s, h => by
    show (x.pins + 1) + pinned l = x.pins + pinned l + 1
    omega
  | x :: l, i + 1, s, h => by
    have := pinned_pin (l := l) (i := i) (s := s) (by simpa using h)
    show x.pins + pinned (l.modify i pin) = x.pins + pinned l + 1
    omega
theorem pinned_unpin : ∀ (l : List S) (i : Nat), pinned (l.modify i unpin) ≤ pinned l
  | [], _ => by simp [pinned]
  | x :: l, 0 => by
    show (x.pins - 1) + pinned l ≤ x.pins + pinned l
    omega
  | x :: l, i + 1 => by
    have := pinned_unpin l i
    show x.pins + pinned (l.modify i unpin) ≤ x.pins + pinned l
    omega
theorem pins_le {l : List S} {s : S} (h : s ∈ l) : s.pins ≤ pinned l := by
  induction l with
  | nil => cases h
  | cons x l ih =>
    show _ ≤ x.pins + pinned l
    cases h with
    | head => omega
    | tail _ h => have := ih h; omega
theorem pinned_more (l m : List S) : pinned (l ++ m) = pinned l + pinned m := by unfold pinned; rw [List.map_append, List.sum_append]
/-- A bound of pins and slots after k calls. -/
structure Few (k : Nat) (c : R) : Prop where
  pins : pinned c.1 ≤ k
  slots : c.1.length ≤ k
theorem few_new : Few 0 ([], 0) := ⟨Nat.le_refl _, Nat.le_refl _⟩
theorem Few.more {k m : Nat} {c : R} (h : Few k c) (hk : k ≤ m) : Few m c := ⟨Nat.le_trans h.pins hk, Nat.le_trans h.slots hk⟩
theorem few_get {k : Nat} {c : R} (h : Few k c) (f a : Int) : Few (k + 1) (getC c f a).1 := by
  unfold getC
  split
  · exact h.more (by omega)
  · rename_i i hi
    obtain ⟨s, hs, _⟩ := find_some hi
    have h1 := h.pins
    have h2 := h.slots
    refine ⟨?_, ?_⟩
    · show pinned (c.1.modify i pin) ≤ _
      rw [pinned_pin hs]; omega
    · show (c.1.modify i pin).length ≤ _
      rw [List.length_modify]; omega
theorem few_rel {k : Nat} {c : R} (h : Few k c) (f a : Int) : Few k (relC c f a).1 := by
  unfold relC
  split
  · exact h
  · split
    · exact h
    · split
      · exact h
      · refine ⟨Nat.le_trans (pinned_unpin _ _) h.pins, ?_⟩
        show (c.1.modify _ unpin).length ≤ _
        rw [List.length_modify]; exact h.slots
theorem few_drop {k : Nat} {c : R} (h : Few k c) (f : Int) : Few k (dropC c f).1 :=
  ⟨Nat.le_trans (Nat.le_of_eq (less_drop f c.1).pinned) h.pins, Nat.le_trans (less_drop f c.1).length h.slots⟩
theorem few_put {k : Nat} {c : R} (h : Few k c) (room : Nat) (f a : Int) (b : List Nat) : Few (k + 1) (putC room c f a b).1 := by
  have hl := make_less room b.length c.1.length c
  have h1 := h.pins
  have h2 := h.slots
  unfold putC
  split
  · rename_i i hi
    obtain ⟨s, hs, _⟩ := find_some hi
    refine ⟨?_, ?_⟩
    · show pinned (c.1.modify i pin) ≤ _
      rw [pinned_pin hs]; omega
    · show (c.1.modify i pin).length ≤ _
      rw [List.length_modify]; omega
  · split
    · refine ⟨?_, ?_⟩
      · show pinned (_ ++ _) ≤ _
        rw [pinned_more, hl.pinned]
        show _ + (1 + 0) ≤ _
        omega
      · have := hl.length
        simp only [List.length_append, List.length_singleton]; omega
    · exact ⟨Nat.le_trans (Nat.le_of_eq hl.pinned) (by omega), Nat.le_trans hl.length (by omega)⟩
/-- ClockTurns: what its calls leave and answer. -/
def filled (n : Nat) : Nat → R
  | 0 => ([], 0)
  | i + 1 => (relC (putC n (filled n i) 7 (i : Int) [1]).1 7 (i : Int)).1
def turns (n asked : Nat) : Bool :=
  let p := putC n (filled n n) 7 (n : Int) [1]
  let c1 := (relC p.1 7 (n : Int)).1
  let g0 := getC c1 7 0
  let g1 := getC g0.1 7 (asked : Int)
  let c2 := if g1.2.isSome then (relC g1.1 7 (asked : Int)).1 else g1.1
  let q := putC n c2 7 ((n + 1 : Nat) : Int) [1]
  let g2 := getC q.1 7 (asked : Int)
  p.2 && q.2 && !g0.2.isSome && (g1.2.isSome == !decide (asked = 0)) && (g2.2.isSome == g1.2.isSome)
theorem turns_ok : ∀ n, n < 21 → 3 ≤ n → ∀ asked, asked < n → turns n asked = true := by decide +kernel
/-- ClockWhole: what is found depends on files and offsets alone. -/
theorem find_ids : ∀ {l m : List S} (f a : Int), ids l = ids m → find l f a = find m f a
  | [], [], _, _, _ => rfl
  | [], y :: m, _, _, h => by cases h
  | x :: l, [], _, _, h => by cases h
  | x :: l, y :: m, f, a, h => by
    obtain ⟨h1, h2⟩ := List.cons.inj (show (x.file, x.off) :: ids l = (y.file, y.off) :: ids m from h)
    have e : here f a x = here f a y := by unfold here; rw [(Prod.mk.inj h1).1, (Prod.mk.inj h1).2]
    have ih := find_ids f a h2
    unfold find at ih ⊢
    rw [List.findIdx?_cons, List.findIdx?_cons, e, ih]
/-- All that is there is as it was put, and nobody has it pinned. -/
structure Tells (was : Int → Int → List Nat) (l : List S) : Prop where
  bytes : ∀ s, s ∈ l → s.b = was s.file s.off
  free : ∀ s, s ∈ l → s.pins = 0
  place : ∀ s, s ∈ l → 0 ≤ s.file ∧ s.file < 4 ∧ 0 ≤ s.off ∧ s.off < 4
theorem tells_new (was : Int → Int → List Nat) : Tells was [] := ⟨fun _ h => (by cases h), fun _ h => (by cases h), fun _ h => (by cases h)⟩
theorem Tells.less {was : Int → Int → List Nat} {l m : List S} (h : Less l m) (g : Tells was m) : Tells was l :=
  ⟨h.all (P := fun f a b _ => b = was f a) g.bytes, h.all (P := fun _ _ _ p => p = 0) g.free, h.all (P := fun f a _ _ => 0 ≤ f ∧ f < 4 ∧ 0 ≤ a ∧ a < 4) g.place⟩
theorem Tells.pinned {was : Int → Int → List Nat} : ∀ {l : List S}, Tells was l → Ck.pinned l = 0
  | [], _ => rfl
  | x :: l, h => by
    show x.pins + Ck.pinned l = 0
    rw [h.free x (List.mem_cons_self ..), Tells.pinned (l := l) ⟨fun s hs => h.bytes s (List.mem_cons_of_mem _ hs), fun s hs => h.free s (List.mem_cons_of_mem _ hs), fun s hs => h.place s (List.mem_cons_of_mem _ hs)⟩]
def touch (s : S) : S := { s with mark := true }
theorem unpin_pin (s : S) : unpin (pin s) = touch s := by cases s; rfl
theorem modify_two (g h : S → S) : ∀ (l : List S) (i : Nat), (l.modify i g).modify i h = l.modify i fun s => h (g s)
  | [], _ => by simp
  | x :: l, 0 => by simp
  | x :: l, i + 1 => by have := modify_two g h l i; simp only [List.modify_succ_cons, this]
theorem mem_modify {g : S → S} : ∀ {l : List S} {i : Nat} {s : S}, s ∈ l.modify i g → s ∈ l ∨ ∃ t, t ∈ l ∧ s = g t
  | [], _, _, h => by simp at h
  | x :: l, 0, s, h => by
    rw [List.modify_zero_cons] at h
    cases h with
    | head => exact .inr ⟨x, List.mem_cons_self .., rfl⟩
    | tail _ h => exact .inl (List.mem_cons_of_mem _ h)
  | x :: l, i + 1, s, h => by
    rw [List.modify_succ_cons] at h
    cases h with
    | head => exact .inl (List.mem_cons_self ..)
    | tail _ h =>
      rcases mem_modify h with h | ⟨t, ht, e⟩
      · exact .inl (List.mem_cons_of_mem _ h)
      · exact .inr ⟨t, List.mem_cons_of_mem _ ht, e⟩
theorem Tells.touch {was : Int → Int → List Nat} {l : List S} (h : Tells was l) (i : Nat) : Tells was (l.modify i touch) := by
  refine ⟨?_, ?_, ?_⟩ <;> intro s hs <;> rcases mem_modify hs with hs | ⟨t, ht, e⟩
  · exact h.bytes s hs
  · subst e; exact h.bytes t ht
  · exact h.free s hs
  · subst e; exact h.free t ht
  · exact h.place s hs
  · subst e; exact h.place t ht
/-- A pin that is given back. -/
theorem rel_pin {c : R} {f a : Int} {i : Nat} (h : find c.1 f a = some i) : relC (c.1.modify i pin, c.2) f a = ((c.1.modify i touch, c.2), true) := by
  obtain ⟨s, hs, _⟩ := find_some h
  have e : find (c.1.modify i pin) f a = some i := (find_ids f a (ids_modify (g := pin) (fun _ => rfl) (fun _ => rfl) _ _)).trans h
  have g : (c.1.modify i pin)[i]? = some (pin s) := by rw [List.getElem?_modify, hs]; simp
  unfold relC
  rw [show (c.1.modify i pin, c.2).1 = c.1.modify i pin from rfl, e]
  simp only [g]
  rw [if_neg (by show ¬ (s.pins + 1 = 0); omega), modify_two]
  simp only [unpin_pin]
/-- Got and given back. -/
theorem get_rel {was : Int → Int → List Nat} {c : R} (h : Tells was c.1) (f a : Int) : ((getC c f a).2 = none → getC c f a = (c, none) ∧ find c.1 f a = none) ∧ (∀ b, (getC c f a).2 = some b → b = was f a ∧ Tells was (relC (getC c f a).1 f a).1.1) := by
  unfold getC
  cases hf : find c.1 f a with
  | none => exact ⟨fun _ => ⟨rfl, rfl⟩, fun b e => (by cases e)⟩
  | some i =>
    obtain ⟨s, hs, e1, e2⟩ := find_some hf
    simp only [hs, Option.map_some]
    refine ⟨fun e => (by cases e), fun b e => ⟨?_, ?_⟩⟩
    · rw [← Option.some.inj e, h.bytes s (List.mem_of_getElem? hs), e1, e2]
    · rw [rel_pin hf]; exact h.touch i
/-- Put and given back. -/
theorem put_rel {was : Int → Int → List Nat} {room : Nat} {c : R} (hi : Inv room c) (h : Tells was c.1) (f a : Int) (b : List Nat) (hp : 0 ≤ f ∧ f < 4 ∧ 0 ≤ a ∧ a < 4) (now : Int → Int → List Nat)
    (hn : ∀ x y, now x y = if x = f ∧ y = a ∧ find c.1 f a = none ∧ (putC room c f a b).2 = true then b else was x y) :
    ((putC room c f a b).2 = true → Tells now (relC (putC room c f a b).1 f a).1.1) ∧ ((putC room c f a b).2 = false → Tells now (putC room c f a b).1.1) := by
  have hl := make_less room b.length c.1.length c
  unfold putC at hn ⊢
  cases hf : find c.1 f a with
  | some i =>
    refine ⟨fun _ => ?_, fun e => (by cases e)⟩
    have e : now = was := by funext x y; rw [hn, if_neg (fun e => by rw [hf] at e; cases e.2.2.1)]
    rw [e]
    show Tells was (relC (c.1.modify i pin, c.2) f a).1.1
    rw [rel_pin hf]; exact h.touch i
  | none =>
    simp only [hf] at hn ⊢
    have hne := find_none hf
    by_cases hm : (make room b.length c.1.length c).2 = true
    · simp only [if_pos hm] at hn ⊢
      refine ⟨fun _ => ?_, fun e => (by cases e)⟩
      have hg := Tells.less hl h
      have hno : find (make room b.length c.1.length c).1.1 f a = none := by
        refine List.findIdx?_eq_none_iff.mpr ?_
        intro s hs
        cases hh : here f a s with
        | false => rfl
        | true =>
          exfalso
          obtain ⟨t, ht, e⟩ := List.mem_map.mp (hl.ids.subset (List.mem_map_of_mem hs))
          have hs2 := here_iff.mp hh
          exact hne t ht ⟨(congrArg Prod.fst e).trans hs2.1, (congrArg Prod.snd e).trans hs2.2⟩
      have hfi : find ((make room b.length c.1.length c).1.1 ++ [⟨f, a, b, 1, true⟩]) f a = some (make room b.length c.1.length c).1.1.length := by
        unfold find at hno ⊢
        rw [List.findIdx?_append, hno]
        simp [here]
      unfold relC
      simp only [hfi]
      rw [List.getElem?_append_right (Nat.le_refl _), Nat.sub_self]
      simp only [List.getElem?_cons_zero]
      rw [if_neg (by decide)]
      have he : ((make room b.length c.1.length c).1.1 ++ [(⟨f, a, b, 1, true⟩ : S)]).modify (make room b.length c.1.length c).1.1.length unpin = (make room b.length c.1.length c).1.1 ++ [(⟨f, a, b, 0, true⟩ : S)] := by
        generalize (make room b.length c.1.length c).1.1 = L
        induction L with
        | nil => rfl
        | cons x L ih => rw [List.cons_append, List.length_cons, List.modify_succ_cons, ih, List.cons_append]
      show Tells now (List.modify _ _ unpin)
      rw [he]
      have hold : ∀ s, s ∈ (make room b.length c.1.length c).1.1 → now s.file s.off = was s.file s.off := by
        intro s hs
        rw [hn, if_neg]
        rintro ⟨e1, e2, _⟩
        obtain ⟨t, ht, e⟩ := List.mem_map.mp (hl.ids.subset (List.mem_map_of_mem hs))
        exact hne t ht ⟨(congrArg Prod.fst e).trans e1, (congrArg Prod.snd e).trans e2⟩
      refine ⟨?_, ?_, ?_⟩ <;> intro s hs <;> rcases List.mem_append.mp hs with hs | hs
      · rw [hold s hs]; exact hg.bytes s hs
      · have e := List.mem_singleton.mp hs
        subst e
        show b = now f a
        exact ((hn f a).trans (if_pos ⟨rfl, rfl, by first | rfl | trivial, by first | rfl | trivial⟩)).symm
      · exact hg.free s hs
      · rw [List.mem_singleton.mp hs]
      · exact hg.place s hs
      · rw [List.mem_singleton.mp hs]; exact hp
    · simp only [if_neg hm] at hn ⊢
      refine ⟨fun e => (by cases e), fun _ => ?_⟩
      have e : now = was := by funext x y; rw [hn, if_neg (fun e => by cases e.2.2.2)]
      rw [e]
      exact Tells.less hl h
end Go.Proofs.Ytbeohfmikpbkhaa.Ck
