/- Sixteen rows of the call's own beside a cache. -/
import Derived.Test.YtbeohfmikpbkhaaCoT
import Derived.Test.YtbeohfmikpbkhaaCact
namespace Go.Proofs.Ytbeohfmikpbkhaa.Ck
set_option linter.unusedVariables false
set_option linter.unusedSimpArgs false
open Go.RowKit Go.Maps Lift Ik
/-- The rows 'was' lie in the blocks Q, told in the box hp. -/
def Plc (w : World) (hp : Nat) (Q : Nat → Prop) (was : Int → Int → List Nat) : Prop :=
  ∃ V : Nat → Nat → Value, Box w hp 42 ((List.range 16).map fun x => V (x / 4) (x % 4)) ∧
    ∀ a b : Nat, a < 4 → b < 4 → ∃ A c, V a b = .slice A (was a b).length c ∧ LiesP w (fun k => Q k ∧ k ≠ hp) A ((was a b).map vb)
def set2 (was : Int → Int → List Nat) (a b : Nat) (bs : List Nat) : Int → Int → List Nat := fun x y => if x = (a : Int) ∧ y = (b : Int) then bs else was x y
section
variable {w w' : World} {hp : Nat} {Q : Nat → Prop} {was : Int → Int → List Nat}
theorem plc_new (hb : Box w hp 42 (List.replicate 16 (.slice none 0 0))) : Plc w hp Q (fun _ _ => []) := ⟨fun _ _ => .slice none 0 0, hb, fun a b _ _ => ⟨none, 0, rfl, .inl rfl⟩⟩
theorem Plc.stay (h : Plc w hp Q was) (hq : Q hp) (hs : Stay Q w w') : Plc w' hp Q was := by
  obtain ⟨V, h1, h2⟩ := h
  refine ⟨V, h1.at_block (hs _ hq), fun a b ha hb => ?_⟩
  obtain ⟨A, c, e, hl⟩ := h2 a b ha hb
  exact ⟨A, c, e, hl.later (fun k hk => hs k hk.1) fun _ h => h⟩
theorem Plc.more {S : Nat → Prop} (h : Plc w hp Q was) (hS : ∀ k, Q k → S k) : Plc w hp S was := by
  obtain ⟨V, h1, h2⟩ := h
  refine ⟨V, h1, fun a b ha hb => ?_⟩
  obtain ⟨A, c, e, hl⟩ := h2 a b ha hb
  exact ⟨A, c, e, hl.later (fun _ _ => rfl) fun k h => ⟨hS k h.1, h.2⟩⟩
theorem Plc.at (h : Plc w hp Q was) {a b : Nat} (ha : a < 4) (hb : b < 4) : ∃ A c, w.cell? ⟨hp, a * 4 + b, none⟩ = some (.slice A (was a b).length c) ∧ w.frozen? ⟨hp, a * 4 + b, none⟩ = false ∧ LiesP w Q A ((was a b).map vb) := by
  obtain ⟨V, h1, h2⟩ := h
  obtain ⟨A, c, e, hl⟩ := h2 a b ha hb
  refine ⟨A, c, ?_, h1.free _, hl.later (fun _ _ => rfl) fun k h => h.1⟩
  rw [h1.cell, List.getElem?_map, List.getElem?_range (by omega), Option.map_some, show (a * 4 + b) / 4 = a by omega, show (a * 4 + b) % 4 = b by omega, e]
theorem Plc.set (h : Plc w hp Q was) {a b c : Nat} {A : Option Addr} {bs : List Nat} (ha : a < 4) (hb : b < 4) (hl : LiesP w (fun k => Q k ∧ k ≠ hp) A (bs.map vb)) : Plc (w.setCell ⟨hp, a * 4 + b, none⟩ (.slice A bs.length c)) hp Q (set2 was a b bs) := by
  obtain ⟨V, h1, h2⟩ := h
  have hoff : ∀ k, k ≠ hp → (w.setCell ⟨hp, a * 4 + b, none⟩ (.slice A bs.length c)).heap[k]? = w.heap[k]? := fun k hk => heap_setCell_other w _ k _ hk
  refine ⟨fun x y => if x = a ∧ y = b then .slice A bs.length c else V x y, ?_, fun x y hx hy => ?_⟩
  · have := h1.set (a * 4 + b) (.slice A bs.length c)
    have e : ((List.range 16).map fun x => V (x / 4) (x % 4)).set (a * 4 + b) (.slice A bs.length c) = (List.range 16).map fun x => if x / 4 = a ∧ x % 4 = b then .slice A bs.length c else V (x / 4) (x % 4) := by
      apply List.ext_getElem?
      intro i
      by_cases hi : i < 16
      · rw [List.getElem?_map, List.getElem?_range hi, Option.map_some]
        by_cases he : a * 4 + b = i
        · subst he
          rw [List.getElem?_set_self (by simp; omega), if_pos ⟨by omega, by omega⟩]
        · rw [List.getElem?_set_ne he, List.getElem?_map, List.getElem?_range hi, Option.map_some, if_neg]
          rintro ⟨h1, h2⟩
          omega
      · rw [List.getElem?_eq_none (by simp; omega), List.getElem?_eq_none (by simp; omega)]
    rw [e] at this
    exact this
  · by_cases hxy : x = a ∧ y = b
    · obtain ⟨rfl, rfl⟩ := hxy
      refine ⟨A, c, ?_, ?_⟩
      · unfold set2
        show (if x = x ∧ y = y then Value.slice A bs.length c else V x y) = _
        rw [if_pos ⟨rfl, rfl⟩, if_pos ⟨rfl, rfl⟩]
      · unfold set2
        rw [if_pos ⟨rfl, rfl⟩]
        exact hl.later (fun k hk => hoff k hk.2) fun _ h => h
    · obtain ⟨A', c', e, hl'⟩ := h2 x y hx hy
      refine ⟨A', c', ?_, ?_⟩
      · unfold set2
        show (if x = a ∧ y = b then Value.slice A bs.length c else V x y) = _
        rw [if_neg hxy, if_neg (by omega)]; exact e
      · unfold set2
        rw [if_neg (by omega)]
        exact hl'.later (fun k hk => hoff k hk.2) fun _ h => h
end
/-- The cache, the rows, and the call that a round is about. -/
structure Fr (W w : World) (g hp ha room : Nat) (Q : Nat → Prop) (was : Int → Int → List Nat) (d : Ac) (r : R) : Prop where
  two : Two W w g Q room r
  qh : Q hp
  qa : Q ha
  ne : ha ≠ hp
  bx : Box w ha 30 d.cells
  pl : Plc w hp Q was
section
variable {W w w' : World} {g hp ha room : Nat} {Q : Nat → Prop} {was : Int → Int → List Nat} {d : Ac} {r r' : R}
theorem Fr.stay (h : Fr W w g hp ha room Q was d r) (h2 : Two W w' g Q room r') (hs : Stay Q w w') : Fr W w' g hp ha room Q was d r' :=
  ⟨h2, h.qh, h.qa, h.ne, h.bx.at_block (hs _ h.qa), h.pl.stay h.qh hs⟩
theorem Fr.below (h : Fr W w g hp ha room Q was d r) (hb : Below w.heap.size w w') : Fr W w' g hp ha room Q was d r := h.stay (h.two.below hb) (h.two.stay hb)
theorem Fr.got {S : Nat → Prop} (h : Fr W w g hp ha room Q was d r) (h2 : Two W w' g S room r') (hS : ∀ k, Q k → S k) (hs : Stay Q w w') : Fr W w' g hp ha room S was d r' :=
  ⟨h2, hS _ h.qh, hS _ h.qa, h.ne, h.bx.at_block (hs _ h.qa), (h.pl.stay h.qh hs).more hS⟩
theorem two_got (h : Two W w g Q room r) (f a : Int) (hf : wf64 f) (ha : wf64 a) (hp : pinned r.1 + 1 ≤ 1000) :
    Calls Try.prog (11) #[pt g, .int .i64 f, .int .i64 a] w fun e w' => ∃ A c bs, bs = (getC r f a).2.getD [] ∧ e = .returned (.tuple #[.slice A bs.length c, .bool (getC r f a).2.isSome]) ∧
      LiesP w' (fun k => Q k ∨ (w.heap.size ≤ k ∧ k < w'.heap.size)) A (bs.map vb) ∧ Two W w' g (fun k => Q k ∨ (w.heap.size ≤ k ∧ k < w'.heap.size)) room (getC r f a).1 ∧ Stay Q w w' := by
  obtain ⟨Y, h, hR⟩ := h
  refine (get_any f a hf ha h.oc hp).mono ?_
  rintro e w' ⟨A, c, bs, h1, h2, h3, h4, h5⟩
  refine ⟨A, c, bs, h1, h2, (LiesP.of_own h3).later (fun _ _ => rfl) fun k hk => .inr ⟨hk.1, hk.2.1⟩, ⟨Y, ⟨h4, h.ge, h.be.trans (h5.below h.be.size h.ge)⟩, fun k hk => ?_⟩, fun k hk => h5.block k (hR k hk).1 (hR k hk).2.1⟩
  rcases hk with hk | ⟨hk, hk2⟩
  · exact ⟨Nat.lt_of_lt_of_le (hR k hk).1 h5.size, (hR k hk).2⟩
  · exact ⟨hk2, fun hy => Nat.not_lt_of_le hk (h.oc.lt k hy), Nat.le_trans h.be.size hk⟩
/-- A new row is told. -/
theorem Fr.set {a b c : Nat} {A : Option Addr} {bs : List Nat} (h : Fr W w g hp ha room Q was d r) (hb : Below w.heap.size w w') (ho : w'.ownsRow w.heap.size 5 1 (.slice A bs.length c) bs.length (bs.map vb)) (h4 : a < 4) (h5 : b < 4) :
    ∃ S, Fr W (w'.setCell ⟨hp, a * 4 + b, none⟩ (.slice A bs.length c)) g hp ha room S (set2 was a b bs) d r := by
  obtain ⟨Y, h0, hR⟩ := id h.two
  have hlt := (hR hp h.qh).1
  have h1 : Fr W w' g hp ha room Q was d r := h.below hb
  have t2 : Two W w' g (fun k => Q k ∨ (w.heap.size ≤ k ∧ k < w'.heap.size)) room r := h.two.more hb fun k hk => hk
  refine ⟨fun k => Q k ∨ (w.heap.size ≤ k ∧ k < w'.heap.size), t2.set (p := ⟨hp, a * 4 + b, none⟩) (.inl h.qh) _, .inl h.qh, .inl h.qa, h.ne, h1.bx.setOther h.ne _, ?_⟩
  refine Plc.set (h1.pl.more fun k hk => .inl hk) h4 h5 ((LiesP.of_own ho).later (fun _ _ => rfl) fun k hk => ⟨.inr ⟨hk.1, hk.2.1⟩, fun e => ?_⟩)
  rw [e] at hk
  exact Nat.not_lt_of_le hk.1 hlt
end
theorem get_none {was : Int → Int → List Nat} {c : R} (h : Tells was c.1) {f a : Int} (hn : (getC c f a).2.isSome = false) : (getC c f a).1 = c ∧ find c.1 f a = none := by
  have h0 : (getC c f a).2 = none := by cases hq : (getC c f a).2 with
    | none => rfl
    | some b => rw [hq] at hn; cases hn
  obtain ⟨h1, h2⟩ := (get_rel h f a).1 h0
  exact ⟨by rw [h1], h2⟩
theorem get_some {was : Int → Int → List Nat} {c : R} (h : Tells was c.1) {f a : Int} (hn : (getC c f a).2.isSome = true) : (getC c f a).2.getD [] = was f a ∧ Tells was (relC (getC c f a).1 f a).1.1 ∧ find (relC (getC c f a).1 f a).1.1 f a ≠ none := by
  obtain ⟨b, hb⟩ := Option.isSome_iff_exists.1 hn
  obtain ⟨h1, h2⟩ := (get_rel h f a).2 b hb
  refine ⟨by rw [hb, h1]; rfl, h2, ?_⟩
  unfold getC at hb ⊢
  cases hf : find c.1 f a with
  | none => rw [hf] at hb; cases hb
  | some i =>
    simp only
    rw [rel_pin hf]
    have := find_ids f a (ids_modify (g := touch) (fun _ => rfl) (fun _ => rfl) c.1 i)
    show find (c.1.modify i touch) f a ≠ none
    rw [this, hf]
    intro h; cases h
/-- What a Put that is given back leaves, told or not. -/
theorem put_same {was : Int → Int → List Nat} {room : Nat} {c : R} (hi : Inv room c) (h : Tells was c.1) {f a : Int} {b : List Nat} (hp : 0 ≤ f ∧ f < 4 ∧ 0 ≤ a ∧ a < 4) (ho : (putC room c f a b).2 = false) : Tells was (putC room c f a b).1.1 :=
  (put_rel hi h f a b hp was fun x y => by rw [if_neg]; rintro ⟨_, _, _, h4⟩; rw [ho] at h4; cases h4).2 ho
theorem put_there {was : Int → Int → List Nat} {room : Nat} {c : R} (hi : Inv room c) (h : Tells was c.1) {f a : Int} {b : List Nat} (hp : 0 ≤ f ∧ f < 4 ∧ 0 ≤ a ∧ a < 4) (ho : (putC room c f a b).2 = true) (hf : find c.1 f a ≠ none) : Tells was (relC (putC room c f a b).1 f a).1.1 :=
  (put_rel hi h f a b hp was fun x y => by rw [if_neg]; rintro ⟨_, _, h3, _⟩; exact hf h3).1 ho
theorem put_fresh {was : Int → Int → List Nat} {room : Nat} {c : R} (hi : Inv room c) (h : Tells was c.1) {F P : Nat} {b : List Nat} (hF : F < 4) (hP : P < 4) (ho : (putC room c (F : Int) (P : Int) b).2 = true) (hf : find c.1 (F : Int) (P : Int) = none) : Tells (set2 was F P b) (relC (putC room c (F : Int) (P : Int) b).1 (F : Int) (P : Int)).1.1 :=
  (put_rel hi h (F : Int) (P : Int) b ⟨by omega, by omega, by omega, by omega⟩ (set2 was F P b) fun x y => by
    unfold set2
    by_cases hxy : x = (F : Int) ∧ y = (P : Int)
    · rw [if_pos hxy, if_pos ⟨hxy.1, hxy.2, hf, ho⟩]
    · rw [if_neg hxy, if_neg fun h => hxy ⟨h.1, h.2.1⟩]).1 ho
end Go.Proofs.Ytbeohfmikpbkhaa.Ck
