/- The document's own disk: what a new name comes to. -/
import Derived.Test.YtnbknihaefkllaaRins
import Derived.Test.YtnbknihaefkllaaDrename
import Derived.Test.YtnbknihaefkllaaRmisc
namespace Go.Proofs.Ytnbknihaefkllaa.Rk
set_option linter.unusedVariables false
set_option linter.unusedSimpArgs false
open Go.RowKit Go.Maps Lift Ik Dk

theorem del_cons (y : FM) (r : List FM) (nm : ByteArray) : delM (y :: r) nm = if y.nm = nm then delM r nm else y :: delM r nm := by
  unfold delM
  rw [List.filter_cons]
  by_cases h : y.nm = nm
  · rw [if_pos h, decide_eq_true h]; rfl
  · rw [if_neg h, decide_eq_false h]; rfl
theorem del_twice (l : List FM) (nm : ByteArray) : delM (delM l nm) nm = delM l nm := delM_id fun x hx => by
  unfold delM at hx
  have := (List.mem_filter.1 hx).2
  intro e
  rw [decide_eq_true e] at this
  exact absurd this (by simp)
theorem del_sorted {l : List FM} {nm : ByteArray} (h : l.Pairwise before) : (delM l nm).Pairwise before := h.filter _
/-- A file that takes its own name. -/
theorem moved_same {nm : ByteArray} {f : FM} : ∀ {l : List FM}, l.Pairwise before → Dk.get l nm = some f → moved l nm nm f = l
  | [], _, h => by cases h
  | y :: r, hp, h => by
    obtain ⟨h1, h2⟩ := List.pairwise_cons.1 hp
    have hfn : f.nm = nm := by simpa using List.find?_some h
    have hff : (⟨nm, f.bs, f.syn⟩ : FM) = f := by rw [← hfn]
    unfold moved
    rw [del_twice, hff, del_cons]
    by_cases hy : y.nm = nm
    · have hyf : y = f := by
        unfold Dk.get at h
        rw [List.find?_cons, decide_eq_true hy] at h
        exact Option.some.inj h
      rw [if_pos hy, delM_id fun x hx e => before_ne (h1 x hx) (hy.trans e.symm), hyf]
      cases r with
      | nil => rfl
      | cons z r =>
        unfold insM
        rw [if_pos (show (kl f.nm).before (kl z.nm) = true from by
          have := h1 z (by simp)
          rw [hyf] at this
          exact this)]
    · have hr : Dk.get r nm = some f := by
        unfold Dk.get at h ⊢
        rwa [List.find?_cons, decide_eq_false hy] at h
      have ih := moved_same h2 hr
      unfold moved at ih
      rw [del_twice, hff] at ih
      rw [if_neg hy]
      unfold insM
      rw [if_neg (show ¬ (kl f.nm).before (kl y.nm) = true from before_asym (a := y) (b := f) (h1 f (List.mem_of_find?_eq_some hr))), ih]
/-- The place of a name is the same when its file is gone. -/
theorem idx_del {nm : ByteArray} : ∀ {l : List FM}, l.Pairwise before → idx (delM l nm) nm = idx l nm
  | [], _ => rfl
  | y :: r, hp => by
    obtain ⟨h1, h2⟩ := List.pairwise_cons.1 hp
    have ih := idx_del (nm := nm) h2
    rw [del_cons]
    by_cases hy : y.nm = nm
    · rw [if_pos hy, ih]
      have e0 : idx (y :: r) nm = 0 := by
        show (if (kl y.nm).before (kl nm) then idx r nm + 1 else 0) = _
        rw [if_neg]
        intro hb
        exact before_ne (a := y) (b := y) (by unfold before; rw [hy]; rw [hy] at hb; exact hb) rfl
      rw [e0]
      cases r with
      | nil => rfl
      | cons z r =>
        show (if (kl z.nm).before (kl nm) then idx r nm + 1 else 0) = _
        rw [if_neg]
        intro hb
        have hz := h1 z (by simp)
        exact before_asym (a := y) (b := z) hz (by unfold before; rw [hy]; exact hb)
    · rw [if_neg hy]
      show (if (kl y.nm).before (kl nm) then idx (delM r nm) nm + 1 else 0) = (if (kl y.nm).before (kl nm) then idx r nm + 1 else 0)
      rw [ih]
/-- The file under its new name, told by its place; L are the files but the one that moves and the one that it takes the place of. -/
theorem moved_at {L : List D} {d : D} {l : List FM} {fr to : ByteArray} (hp : l.Pairwise before) (hL : L.map D.m = delM (delM l fr) to) (hd : d.nm = to) :
    (L.take (idx (delM l fr) to) ++ d :: L.drop (idx (delM l fr) to)).map D.m = moved l fr to d.m ∧ (moved l fr to d.m).Pairwise before := by
  have hs := del_sorted (nm := to) (del_sorted (nm := fr) hp)
  have hno : ∀ x, x ∈ delM (delM l fr) to → x.nm ≠ d.nm := fun x hx e => by
    unfold delM at hx
    have := (List.mem_filter.1 hx).2
    rw [decide_eq_true (e.trans hd)] at this
    exact absurd this (by simp)
  have e1 : moved l fr to d.m = insM d.m (delM (delM l fr) to) := by unfold moved; rw [← hd]; rfl
  rw [← idx_del (nm := to) (del_sorted (nm := fr) hp), e1]
  have h1 := ins_told (L := L) (d := d) hL.symm hs hno
  rw [hd] at h1
  exact ⟨h1, ins_sorted (f := d.m) hs hno⟩
end Go.Proofs.Ytnbknihaefkllaa.Rk
