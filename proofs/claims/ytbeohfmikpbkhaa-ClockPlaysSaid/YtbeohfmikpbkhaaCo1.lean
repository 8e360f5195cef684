/- The project's cache: a ring of links, as plain mathematics. -/
import Derived.Test.YtbeohfmikpbkhaaCm4
namespace Go.Proofs.Ytbeohfmikpbkhaa.Ck
set_option linter.unusedVariables false
set_option linter.unusedSimpArgs false
def nxi (n i : Nat) : Nat := if i + 1 = n then 0 else i + 1
def pvi (n i : Nat) : Nat := if i = 0 then n - 1 else i - 1
/-- Links both ways, round and round. -/
def Ring (B : List Nat) (pv nx : Nat → Nat) : Prop := ∀ i x y, B[i]? = some x → B[nxi B.length i]? = some y → nx x = y ∧ pv y = x
def upd (f : Nat → Nat) (a b : Nat) : Nat → Nat := fun k => if k = a then b else f k
theorem upd_at (f : Nat → Nat) (a b : Nat) : upd f a b a = b := if_pos rfl
theorem upd_off {f : Nat → Nat} {a b k : Nat} (h : k ≠ a) : upd f a b k = f k := if_neg h
theorem nxi_lt {n i : Nat} (h : i < n) : nxi n i < n := by unfold nxi; split <;> omega
theorem pvi_lt {n i : Nat} (h : i < n) : pvi n i < n := by unfold pvi; split <;> omega
theorem nxi_pvi {n i : Nat} (h : i < n) : nxi n (pvi n i) = i := by unfold nxi pvi; split <;> split <;> omega
theorem nodup_at {B : List Nat} (hn : B.Nodup) {i j x : Nat} (hi : B[i]? = some x) (hj : B[j]? = some x) : i = j := by
  obtain ⟨h1, e1⟩ := List.getElem?_eq_some_iff.1 hi
  obtain ⟨h2, e2⟩ := List.getElem?_eq_some_iff.1 hj
  have hp := List.pairwise_iff_getElem.1 hn
  rcases Nat.lt_trichotomy i j with h | h | h
  · exact absurd (e1.trans e2.symm) (hp i j h1 h2 h)
  · exact h
  · exact absurd (e2.trans e1.symm) (hp j i h2 h1 h)
theorem at_lt {B : List Nat} {i x : Nat} (h : B[i]? = some x) : i < B.length := (List.getElem?_eq_some_iff.1 h).1
theorem Ring.next {B : List Nat} {pv nx : Nat → Nat} (h : Ring B pv nx) {i x : Nat} (hx : B[i]? = some x) : B[nxi B.length i]? = some (nx x) := by
  have hl := nxi_lt (at_lt hx)
  have e := List.getElem?_eq_getElem hl
  rw [(h i x _ hx e).1]; exact e
theorem Ring.prev {B : List Nat} {pv nx : Nat → Nat} (h : Ring B pv nx) {i x : Nat} (hx : B[i]? = some x) : B[pvi B.length i]? = some (pv x) := by
  have hl := pvi_lt (at_lt hx)
  have e := List.getElem?_eq_getElem hl
  rw [(h _ _ x e (by rw [nxi_pvi (at_lt hx)]; exact hx)).2]; exact e
theorem ring_erase {B : List Nat} {pv nx : Nat → Nat} (h : Ring B pv nx) (hn : B.Nodup) {i x : Nat} (hx : B[i]? = some x) :
    Ring (B.eraseIdx i) (upd pv (nx x) (pv x)) (upd nx (pv x) (nx x)) := by
  have hi := at_lt hx
  have hnx := h.next hx
  have hpv := h.prev hx
  intro j a b ha hb
  have hlen : (B.eraseIdx i).length = B.length - 1 := by rw [List.length_eraseIdx, if_pos hi]
  have hj : j < B.length - 1 := by have := at_lt ha; omega
  rw [hlen] at hb
  rw [List.getElem?_eraseIdx] at ha hb
  obtain ⟨n, hN⟩ : ∃ n, n = B.length := ⟨_, rfl⟩
  rw [← hN] at hi hnx hpv hj hb
  obtain ⟨j', hj'⟩ : ∃ j', j' = if j < i then j else j + 1 := ⟨_, rfl⟩
  have ha' : B[j']? = some a := by rw [hj']; split <;> (rename_i h1; simpa [h1] using ha)
  obtain ⟨k', hk'⟩ : ∃ k', k' = if nxi (n - 1) j < i then nxi (n - 1) j else nxi (n - 1) j + 1 := ⟨_, rfl⟩
  have hb' : B[k']? = some b := by rw [hk']; split <;> (rename_i h1; simpa [h1] using hb)
  by_cases hc : nxi n j' = i
  · have e1 : nxi n i = k' := by
      rw [hj'] at hc
      rw [hk']
      unfold nxi at hc ⊢
      by_cases h1 : j < i
      · rw [if_pos h1] at hc
        split at hc <;> (repeat' split) <;> omega
      · rw [if_neg h1] at hc
        split at hc <;> (repeat' split) <;> omega
    have ea := (h j' a x ha' (by rw [← hN, hc]; exact hx)).2
    have eb := (h i x b hx (by rw [← hN, e1]; exact hb')).1
    rw [← ea, ← eb]
    exact ⟨upd_at _ _ _, upd_at _ _ _⟩
  · have e1 : nxi n j' = k' := by
      rw [hk']; revert hc; rw [hj']; unfold nxi
      repeat' split
      all_goals omega
    have hab := h j' a b ha' (by rw [← hN, e1]; exact hb')
    have na : a ≠ pv x := fun e => by
      rw [e] at ha'
      have := nodup_at hn ha' hpv
      exact hc (by rw [this, nxi_pvi hi])
    have nb : b ≠ nx x := fun e => by
      rw [e] at hb'
      have := nodup_at hn hb' hnx
      have h3 : j' < n := by rw [hN]; exact at_lt ha'
      have : j' = i := by
        rw [← e1] at this
        unfold nxi at this
        split at this <;> split at this <;> omega
      rw [hj'] at this
      split at this <;> omega
    rw [upd_off na, upd_off nb]
    exact hab
theorem ring_one (x : Nat) (pv nx : Nat → Nat) (h1 : pv x = x) (h2 : nx x = x) : Ring [x] pv nx := by
  intro i a b ha hb
  have hi := at_lt ha
  obtain rfl : i = 0 := by simp at hi; omega
  have e1 : x = a := by simpa using ha
  have e2 : x = b := by simpa [nxi] using hb
  rw [← e1, ← e2]; exact ⟨h2, h1⟩
/-- One more, behind the last. -/
theorem ring_add {B : List Nat} {pv nx : Nat → Nat} (h : Ring B pv nx) (hn : B.Nodup) {f x : Nat} (hf : B[0]? = some f) (hx : x ∉ B) :
    Ring (B ++ [x]) (upd (upd pv x (pv f)) f x) (upd (upd nx x f) (pv f) x) := by
  obtain ⟨n, hN⟩ : ∃ n, n = B.length := ⟨_, rfl⟩
  have h0 : 0 < n := by rw [hN]; exact at_lt hf
  have hl := h.prev hf
  have hl' : B[n - 1]? = some (pv f) := by rw [hN]; simpa [pvi] using hl
  have fx : f ≠ x := fun e => hx (e ▸ List.mem_of_getElem? hf)
  have lx : pv f ≠ x := fun e => hx (e ▸ List.mem_of_getElem? hl)
  intro i a b ha hb
  have hi : i < n + 1 := by have := at_lt ha; simp at this; omega
  have hlen : (B ++ [x]).length = n + 1 := by simp [hN]
  rw [hlen] at hb
  by_cases hin : i = n
  · rw [hin, hN, List.getElem?_append_right (Nat.le_refl _), Nat.sub_self] at ha
    have ea : x = a := by simpa using ha
    have e0 : nxi (n + 1) i = 0 := by unfold nxi; rw [if_pos (by omega)]
    rw [e0, List.getElem?_append_left (by omega), hf] at hb
    have eb : f = b := by simpa using hb
    rw [← ea, ← eb, upd_off (Ne.symm lx), upd_at, upd_at]
    exact ⟨rfl, rfl⟩
  · have ha' : B[i]? = some a := by rwa [List.getElem?_append_left (by omega)] at ha
    have e0 : nxi (n + 1) i = i + 1 := by unfold nxi; rw [if_neg (by omega)]
    rw [e0] at hb
    by_cases hil : i + 1 = n
    · rw [hil, hN, List.getElem?_append_right (Nat.le_refl _), Nat.sub_self] at hb
      have eb : x = b := by simpa using hb
      have ea : a = pv f := by
        have : i = n - 1 := by omega
        rw [this, hl'] at ha'
        exact (Option.some.inj ha').symm
      rw [← eb, ea, upd_at, upd_off (Ne.symm fx), upd_at]
      exact ⟨rfl, rfl⟩
    · have hb' : B[i + 1]? = some b := by rwa [List.getElem?_append_left (by omega)] at hb
      have hab := h i a b ha' (by unfold nxi; rw [if_neg (by omega)]; exact hb')
      have na : a ≠ pv f := fun e => by
        rw [e] at ha'
        have := nodup_at hn ha' hl'
        omega
      have nax : a ≠ x := fun e => hx (e ▸ List.mem_of_getElem? ha')
      have nb : b ≠ f := fun e => by
        rw [e] at hb'
        have := nodup_at hn hb' hf
        omega
      have nbx : b ≠ x := fun e => hx (e ▸ List.mem_of_getElem? hb')
      rw [upd_off na, upd_off nax, upd_off nb, upd_off nbx]
      exact hab
/-- The hand, when a slot goes. -/
theorem out_hand {l : List S} {h i : Nat} (hi : i < l.length) (hf : h < l.length) :
    (out (l, h) i).2 = (if h = i then (if i + 1 < l.length then i else 0) else if i < h then h - 1 else h) := by
  unfold out
  simp only [List.length_eraseIdx, hi, if_true]
  repeat' split
  all_goals omega
end Go.Proofs.Ytbeohfmikpbkhaa.Ck
