/- The document's own disk: a file more, told by its place. -/
import Derived.Test.YtnbknihaefkllaaRgone
import Derived.Test.YtnbknihaefkllaaDappend
import Derived.WideShapes
namespace Go.Proofs.Ytnbknihaefkllaa.Rk
set_option linter.unusedVariables false
set_option linter.unusedSimpArgs false
open Go.RowKit Go.Maps Lift Ik Dk

theorem before_trans {a b c : FM} (h : before a b) (k : before b c) : before a c := WideShapes.bytes_trans a.nm.data.toList b.nm.data.toList c.nm.data.toList h k
theorem before_asym {a b : FM} (h : before a b) : ¬ before b a := fun k => before_ne (before_trans h k) rfl
theorem before_total {a b : FM} (h : a.nm ≠ b.nm) : before a b ∨ before b a :=
  WideAt.bytes_total a.nm.data.toList b.nm.data.toList fun e => h (by
    have := kl_same a.nm b.nm
    have h2 : (kl a.nm).sameKey (kl b.nm) = true := by
      show (a.nm.data.toList == b.nm.data.toList) = true
      rw [e]; simp
    rw [h2] at this
    exact of_decide_eq_true this.symm)
/-- A new file's place is the first whose name comes behind. -/
theorem ins_eq {f : FM} : ∀ {l : List FM}, l.Pairwise before → (∀ x, x ∈ l → x.nm ≠ f.nm) → insM f l = l.take (idx l f.nm) ++ f :: l.drop (idx l f.nm)
  | [], _, _ => rfl
  | y :: r, hp, hn => by
    obtain ⟨h1, h2⟩ := List.pairwise_cons.1 hp
    have ih := ins_eq (f := f) h2 fun x hx => hn x (by simp [hx])
    unfold insM
    by_cases hb : (kl y.nm).before (kl f.nm) = true
    · have e1 : idx (y :: r) f.nm = idx r f.nm + 1 := by show (if (kl y.nm).before (kl f.nm) then idx r f.nm + 1 else 0) = _; rw [if_pos hb]
      have hc : ¬ (kl f.nm).before (kl y.nm) = true := before_asym (a := y) (b := f) hb
      rw [if_neg hc, e1, List.take_succ_cons, List.drop_succ_cons, List.cons_append, ← ih]
    · have e1 : idx (y :: r) f.nm = 0 := by show (if (kl y.nm).before (kl f.nm) then idx r f.nm + 1 else 0) = _; rw [if_neg hb]
      have hc : (kl f.nm).before (kl y.nm) = true := by
        rcases before_total (a := y) (b := f) (hn y (by simp)) with h | h
        · exact absurd h hb
        · exact h
      rw [if_pos hc, e1]
      rfl
theorem ins_mem {f x : FM} : ∀ {l : List FM}, x ∈ insM f l ↔ x = f ∨ x ∈ l
  | [] => by simp [insM]
  | y :: r => by
    unfold insM
    split
    · simp
    · rw [List.mem_cons, ins_mem, List.mem_cons]
      constructor
      · rintro (h | h | h) <;> simp [h]
      · rintro (h | h | h) <;> simp [h]
theorem ins_sorted {f : FM} : ∀ {l : List FM}, l.Pairwise before → (∀ x, x ∈ l → x.nm ≠ f.nm) → (insM f l).Pairwise before
  | [], _, _ => by simp [insM]
  | y :: r, hp, hn => by
    obtain ⟨h1, h2⟩ := List.pairwise_cons.1 hp
    unfold insM
    split
    · rename_i hb
      refine List.pairwise_cons.2 ⟨fun x hx => ?_, hp⟩
      rcases List.mem_cons.1 hx with rfl | hx
      · exact hb
      · exact before_trans (show before f y from hb) (h1 x hx)
    · rename_i hb
      refine List.pairwise_cons.2 ⟨fun x hx => ?_, ins_sorted h2 fun x hx => hn x (by simp [hx])⟩
      rcases ins_mem.1 hx with rfl | hx
      · rcases before_total (a := y) (b := x) (hn y (by simp)) with h | h
        · exact h
        · exact absurd h hb
      · exact h1 x hx
/-- The same of the descriptors. -/
theorem ins_told {L : List D} {d : D} {l : List FM} (hl : l = L.map D.m) (hp : l.Pairwise before) (hn : ∀ x, x ∈ l → x.nm ≠ d.nm) : (L.take (idx l d.nm) ++ d :: L.drop (idx l d.nm)).map D.m = insM d.m l := by
  rw [show insM d.m l = _ from ins_eq (f := d.m) hp hn, List.map_append, List.map_cons, List.map_take, List.map_drop, ← hl]
  rfl
/-- A name that is not at its place is nowhere. -/
theorem not_at {l : List FM} {nm : ByteArray} (hp : l.Pairwise before) (h : isAt l nm = false) : ∀ x, x ∈ l → x.nm ≠ nm := get_none.1 ((idx_get hp).2 h)
theorem idx_le (l : List FM) (nm : ByteArray) : idx l nm ≤ l.length := by
  induction l with
  | nil => simp [idx]
  | cons y r ih => unfold idx; split <;> simp; exact ih
end Go.Proofs.Ytnbknihaefkllaa.Rk
