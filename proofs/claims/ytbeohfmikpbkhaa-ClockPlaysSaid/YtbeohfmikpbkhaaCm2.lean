/- What each call of a cache leaves: how often a slot is pinned, how many bytes there are, that no slot is there twice. -/
import Derived.Test.YtbeohfmikpbkhaaCm
namespace Go.Proofs.Ytbeohfmikpbkhaa.Ck
set_option linter.unusedVariables false
set_option linter.unusedSimpArgs false
theorem here_iff {f a : Int} {s : S} : here f a s = true ↔ s.file = f ∧ s.off = a := by unfold here; exact decide_eq_true_iff
theorem find_some {l : List S} {f a : Int} {i : Nat} (h : find l f a = some i) : ∃ s, l[i]? = some s ∧ s.file = f ∧ s.off = a := by
  obtain ⟨hi, hh, _⟩ := List.findIdx?_eq_some_iff_getElem.mp h
  exact ⟨l[i], List.getElem?_eq_getElem hi, here_iff.mp hh⟩
theorem find_none {l : List S} {f a : Int} (h : find l f a = none) : ∀ s, s ∈ l → ¬ (s.file = f ∧ s.off = a) := by
  intro s hs he
  have := List.findIdx?_eq_none_iff.mp h s hs
  rw [here_iff.mpr he] at this; cases this
theorem pinOf_none {f a : Int} : ∀ {l : List S}, (∀ s, s ∈ l → ¬ (s.file = f ∧ s.off = a)) → pinOf l f a = 0
  | [], _ => rfl
  | x :: l, h => by
    show (if here f a x then x.pins else 0) + pinOf l f a = 0
    rw [if_neg fun e => h x (List.mem_cons_self ..) (here_iff.mp e), pinOf_none fun s hs => h s (List.mem_cons_of_mem _ hs)]
/-- A slot that is there once: as often as it says itself. -/
theorem pinOf_at : ∀ {l : List S} {i : Nat} {s : S}, (ids l).Nodup → l[i]? = some s → pinOf l s.file s.off = s.pins
  | [], _, _, _, h => by simp at h
  | x :: l, 0, s, hn, h => by
    have e : x = s := by simpa using h
    subst e
    show (if here x.file x.off x then x.pins else 0) + pinOf l x.file x.off = x.pins
    rw [if_pos (here_iff.mpr ⟨rfl, rfl⟩), pinOf_none]
    · omega
    · intro s hs he
      have hm : (s.file, s.off) ∈ ids l := List.mem_map.mpr ⟨s, hs, rfl⟩
      rw [he.1, he.2] at hm
      exact (List.nodup_cons.mp hn).1 hm
  | x :: l, i + 1, s, hn, h => by
    have h' : l[i]? = some s := by simpa using h
    have hm : (s.file, s.off) ∈ ids l := List.mem_map.mpr ⟨s, List.mem_of_getElem? h', rfl⟩
    show (if here s.file s.off x then x.pins else 0) + pinOf l s.file s.off = s.pins
    rw [if_neg, pinOf_at (List.nodup_cons.mp hn).2 h']
    · omega
    · intro e
      obtain ⟨e1, e2⟩ := here_iff.mp e
      apply (List.nodup_cons.mp hn).1
      show (x.file, x.off) ∈ ids l
      rw [e1, e2]; exact hm
theorem ids_modify {g : S → S} (h1 : ∀ s, (g s).file = s.file) (h2 : ∀ s, (g s).off = s.off) : ∀ (l : List S) (i : Nat), ids (l.modify i g) = ids l
  | [], _ => by simp [ids]
  | x :: l, 0 => by simp [ids, h1, h2]
  | x :: l, i + 1 => by
    have := ids_modify h1 h2 l i
    simp only [ids] at this
    simp [ids, this]
theorem used_modify {g : S → S} (h : ∀ s, (g s).b = s.b) : ∀ (l : List S) (i : Nat), used (l.modify i g) = used l
  | [], _ => by simp [used]
  | x :: l, 0 => by simp [used, h]
  | x :: l, i + 1 => by
    have := used_modify h l i
    simp only [used] at this
    simp [used, this]
theorem pinOf_pin (f a : Int) : ∀ {l : List S} {i : Nat} {s : S}, l[i]? = some s → pinOf (l.modify i pin) f a = pinOf l f a + (if here f a s then 1 else 0)
  | [], _, _, h => by simp at h
  | x :: l, 0, s, h => by
    have e : x = s := by simpa using h
    subst e
    show (if here f a (pin x) then (pin x).pins else 0) + pinOf l f a = (if here f a x then x.pins else 0) + pinOf l f a + _
    have e : here f a (pin x) = here f a x := rfl
    rw [e]
    show (if here f a x then x.pins + 1 else 0) + pinOf l f a = _
    split <;> omega
  | x :: l, i + 1, s, h => by
    have := pinOf_pin f a (l := l) (i := i) (s := s) (by simpa using h)
    show (if here f a x then x.pins else 0) + pinOf (l.modify i pin) f a = (if here f a x then x.pins else 0) + pinOf l f a + _
    rw [this]; omega
theorem pinOf_unpin (f a : Int) : ∀ {l : List S} {i : Nat} {s : S}, l[i]? = some s → 0 < s.pins → pinOf (l.modify i unpin) f a + (if here f a s then 1 else 0) = pinOf l f a
  | [], _, _, h, _ => by simp at h
  | x :: l, 0, s, h, hp => by
    have e : x = s := by simpa using h
    subst e
    show (if here f a (unpin x) then (unpin x).pins else 0) + pinOf l f a + _ = (if here f a x then x.pins else 0) + pinOf l f a
    have e : here f a (unpin x) = here f a x := rfl
    rw [e]
    show (if here f a x then x.pins - 1 else 0) + pinOf l f a + _ = _
    split <;> omega
  | x :: l, i + 1, s, h, hp => by
    have := pinOf_unpin f a (l := l) (i := i) (s := s) (by simpa using h) hp
    show (if here f a x then x.pins else 0) + pinOf (l.modify i unpin) f a + _ = (if here f a x then x.pins else 0) + pinOf l f a
    omega
theorem pinOf_more (f a : Int) (l m : List S) : pinOf (l ++ m) f a = pinOf l f a + pinOf m f a := by unfold pinOf; rw [List.map_append, List.sum_append]
theorem used_more (l m : List S) : used (l ++ m) = used l + used m := by unfold used; rw [List.map_append, List.sum_append]
theorem less_drop (f : Int) : ∀ l : List S, Less (l.filter fun s => !goes f s) l
  | [] => .nil
  | x :: l => by
    rw [List.filter_cons]
    cases hg : goes f x with
    | true => rw [if_neg (by simp)]; exact .gone x (of_decide_eq_true hg).2 (less_drop f l)
    | false => rw [if_pos (by simp)]; exact .keep x x rfl rfl rfl rfl (less_drop f l)
/-- What is so of every cache that was made with this room. -/
structure Inv (room : Nat) (c : R) : Prop where
  fine : Fine c
  room : used c.1 ≤ room
  once : (ids c.1).Nodup
theorem inv_new (room : Nat) : Inv room ([], 0) := ⟨.inr ⟨rfl, rfl⟩, Nat.zero_le _, List.nodup_nil⟩
theorem inv_modify {room : Nat} {c : R} {g : S → S} (h : Inv room c) (h1 : ∀ s, (g s).file = s.file) (h2 : ∀ s, (g s).off = s.off) (h3 : ∀ s, (g s).b = s.b) (i : Nat) : Inv room (c.1.modify i g, c.2) := by
  refine ⟨?_, ?_, ?_⟩
  · rcases h.fine with hf | ⟨hf, h0⟩
    · exact .inl (by simp only; rw [List.length_modify]; exact hf)
    · exact .inr ⟨by simp only; rw [hf]; simp, h0⟩
  · show used (c.1.modify i g) ≤ room
    rw [used_modify h3]; exact h.room
  · show (ids (c.1.modify i g)).Nodup
    rw [ids_modify h1 h2]; exact h.once
theorem inv_get {room : Nat} {c : R} (h : Inv room c) (f a : Int) : Inv room (getC c f a).1 := by
  unfold getC
  split
  · exact h
  · exact inv_modify (g := pin) h (fun _ => rfl) (fun _ => rfl) (fun _ => rfl) _
theorem inv_rel {room : Nat} {c : R} (h : Inv room c) (f a : Int) : Inv room (relC c f a).1 := by
  unfold relC
  split
  · exact h
  · split
    · exact h
    · split
      · exact h
      · exact inv_modify (g := unpin) h (fun _ => rfl) (fun _ => rfl) (fun _ => rfl) _
theorem inv_drop {room : Nat} {c : R} (h : Inv room c) (f : Int) : Inv room (dropC c f).1 :=
  ⟨fine_mod, Nat.le_trans (less_drop f c.1).used h.room, h.once.sublist (less_drop f c.1).ids⟩
theorem inv_put {room : Nat} {c : R} (h : Inv room c) (f a : Int) (b : List Nat) : Inv room (putC room c f a b).1 := by
  unfold putC
  have hl := make_less room b.length c.1.length c
  have hf := make_fine room b.length c.1.length c h.fine
  have hr := make_room room b.length c.1.length c
  split
  · exact inv_modify (g := pin) h (fun _ => rfl) (fun _ => rfl) (fun _ => rfl) _
  · rename_i hn
    split
    · rename_i hm
      refine ⟨?_, ?_, ?_⟩
      · rcases hf with hf | ⟨hf, h0⟩
        · exact .inl (by simp only [List.length_append]; omega)
        · exact .inl (by simp only [List.length_append, List.length_singleton]; omega)
      · show used (_ ++ _) ≤ room
        rw [used_more]
        show _ + (b.length + 0) ≤ room
        have := hr hm
        omega
      · show (ids (_ ++ _)).Nodup
        unfold ids
        rw [List.map_append]
        refine List.nodup_append.mpr ⟨h.once.sublist hl.ids, by simp, ?_⟩
        intro x hx y hy e
        have hy : y = (f, a) := by simpa using hy
        obtain ⟨s, hs, e2⟩ := List.mem_map.mp (hl.ids.subset hx)
        rw [e, hy] at e2
        exact find_none hn s hs ⟨congrArg Prod.fst e2, congrArg Prod.snd e2⟩
    · exact ⟨hf, Nat.le_trans hl.used h.room, h.once.sublist hl.ids⟩
/-- What the calls tell of how often each is pinned. -/
theorem get_pins {room : Nat} {c : R} (h : Inv room c) (f a x y : Int) : ((getC c f a).2.isSome = true → pinOf (getC c f a).1.1 x y = pinOf c.1 x y + (if f = x ∧ a = y then 1 else 0)) ∧ ((getC c f a).2.isSome = false → pinOf c.1 f a = 0 ∧ (getC c f a).1 = c) := by
  unfold getC
  split
  · rename_i hn
    exact ⟨fun e => (by cases e), fun _ => ⟨pinOf_none (find_none hn), rfl⟩⟩
  · rename_i i hi
    obtain ⟨s, hs, e1, e2⟩ := find_some hi
    simp only [hs, Option.map_some, Option.isSome_some]
    refine ⟨fun _ => ?_, fun e => (by cases e)⟩
    rw [pinOf_pin x y hs]
    subst e1; subst e2
    simp only [here, decide_eq_true_eq]
theorem put_pins {room : Nat} {c : R} (h : Inv room c) (f a : Int) (b : List Nat) (x y : Int) : ((putC room c f a b).2 = true → pinOf (putC room c f a b).1.1 x y = pinOf c.1 x y + (if f = x ∧ a = y then 1 else 0)) ∧ ((putC room c f a b).2 = false → pinOf c.1 f a = 0 ∧ pinOf (putC room c f a b).1.1 x y = pinOf c.1 x y) := by
  have hl := make_less room b.length c.1.length c
  unfold putC
  split
  · rename_i i hi
    obtain ⟨s, hs, e1, e2⟩ := find_some hi
    refine ⟨fun _ => ?_, fun e => (by cases e)⟩
    show pinOf (c.1.modify i pin) x y = _
    rw [pinOf_pin x y hs]
    subst e1; subst e2
    simp only [here, decide_eq_true_eq]
  · rename_i hn
    split
    · refine ⟨fun _ => ?_, fun e => (by cases e)⟩
      show pinOf (_ ++ _) x y = _
      rw [pinOf_more, hl.pinOf x y]
      show _ + ((if here x y ⟨f, a, b, 1, true⟩ then 1 else 0) + 0) = _
      simp only [here, decide_eq_true_eq]; omega
    · exact ⟨fun e => (by cases e), fun _ => ⟨pinOf_none (find_none hn), hl.pinOf x y⟩⟩
theorem rel_pins {room : Nat} {c : R} (h : Inv room c) (f a x y : Int) : (relC c f a).2 = decide (0 < pinOf c.1 f a) ∧ pinOf (relC c f a).1.1 x y = pinOf c.1 x y - (if f = x ∧ a = y ∧ 0 < pinOf c.1 f a then 1 else 0) := by
  unfold relC
  split
  · rename_i hn
    have e := pinOf_none (find_none hn)
    rw [e]; simp
  · rename_i i hi
    obtain ⟨s, hs, e1, e2⟩ := find_some hi
    have hp := pinOf_at h.once hs
    rw [e1, e2] at hp
    simp only [hs]
    by_cases h0 : s.pins = 0
    · rw [if_pos h0, hp, h0]; simp
    · rw [if_neg h0, hp]
      refine ⟨(decide_eq_true (by omega)).symm, ?_⟩
      show pinOf (c.1.modify i unpin) x y = _
      have := pinOf_unpin x y hs (by omega)
      subst e1; subst e2
      simp only [here, decide_eq_true_eq] at this
      by_cases hc : s.file = x ∧ s.off = y
      · rw [if_pos hc] at this; rw [if_pos ⟨hc.1, hc.2, by omega⟩]; omega
      · rw [if_neg hc] at this; rw [if_neg (fun e => hc ⟨e.1, e.2.1⟩)]; omega
theorem drop_pins (c : R) (f x y : Int) : pinOf (dropC c f).1.1 x y = pinOf c.1 x y := (less_drop f c.1).pinOf x y
/-- Of sixteen pairs each slot is one: how often all are pinned. -/
theorem pinned_all : ∀ {l : List S}, (∀ s, s ∈ l → 0 ≤ s.file ∧ s.file < 4 ∧ 0 ≤ s.off ∧ s.off < 4) → pinned l = ((List.range 16).map fun x => pinOf l ((x / 4 : Nat) : Int) ((x % 4 : Nat) : Int)).sum
  | [], _ => rfl
  | s :: l, h => by
    have ih := pinned_all (l := l) fun t ht => h t (List.mem_cons_of_mem _ ht)
    have hs := h s (List.mem_cons_self ..)
    show s.pins + pinned l = ((List.range 16).map fun x => (if here ((x / 4 : Nat) : Int) ((x % 4 : Nat) : Int) s then s.pins else 0) + pinOf l ((x / 4 : Nat) : Int) ((x % 4 : Nat) : Int)).sum
    have hsum : ∀ (L : List Nat) (p q : Nat → Nat), (L.map fun x => p x + q x).sum = (L.map p).sum + (L.map q).sum := by
      intro L p q
      induction L with
      | nil => rfl
      | cons x L ihL => simp only [List.map_cons, List.sum_cons, ihL]; omega
    rw [hsum, ← ih]
    obtain ⟨F, hF⟩ := Int.eq_ofNat_of_zero_le hs.1
    obtain ⟨G, hG⟩ := Int.eq_ofNat_of_zero_le hs.2.2.1
    have h1 : F < 4 := by omega
    have h2 : G < 4 := by omega
    have e : ∀ x : Nat, (if here ((x / 4 : Nat) : Int) ((x % 4 : Nat) : Int) s then s.pins else 0) = if x = 4 * F + G then s.pins else 0 := by
      intro x
      have e2 : (here ((x / 4 : Nat) : Int) ((x % 4 : Nat) : Int) s = true) = (x = 4 * F + G) := by
        apply propext
        rw [here_iff, hF, hG]
        constructor
        · rintro ⟨a1, a2⟩; omega
        · intro a1; subst a1; constructor <;> omega
      simp only [e2]
    simp only [e]
    have hk : ∀ (n k p : Nat), ((List.range n).map fun x => if x = k then p else 0).sum = if k < n then p else 0 := by
      intro n k p
      induction n with
      | zero => simp
      | succ n ihn =>
        rw [List.range_succ, List.map_append, List.sum_append, ihn]
        simp only [List.map_cons, List.map_nil, List.sum_cons, List.sum_nil]
        by_cases hk : k < n
        · rw [if_pos hk, if_neg (by omega), if_pos (by omega)]; omega
        · rw [if_neg hk]
          by_cases he : n = k
          · rw [if_pos he, if_pos (by omega)]; omega
          · rw [if_neg he, if_neg (by omega)]; rfl
    rw [hk, if_pos (by omega)]
end Go.Proofs.Ytbeohfmikpbkhaa.Ck
