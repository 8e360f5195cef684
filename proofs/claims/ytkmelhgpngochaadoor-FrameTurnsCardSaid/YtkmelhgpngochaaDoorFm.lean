/- Plain mathematics of framed records: pieces, what is written of a record, and how bytes are read. -/
import Derived.Test.YtkmelhgpngochaaDoorMask
import Derived.Test.YtkmelhgpngochaaDoorCrcm
import Derived.Test.YtkmelhgpngochaaDoorIkm
namespace Go.Proofs.YtkmelhgpngochaaDoor.Fr
open Ik Crc

/-- The masked sum of a piece. -/
def sumB (k : Nat) (d : List Nat) : Nat := maskN (crc ent (k :: d))
theorem sumB_lt (k : Nat) (d : List Nat) : sumB k d < 4294967296 := maskN_lt _
def piece (k : Nat) (d : List Nat) : List Nat := low (sumB k d) 4 ++ low d.length 2 ++ k :: d
theorem piece_length (k : Nat) (d : List Nat) : (piece k d).length = 7 + d.length := by
  simp [piece, low_length]; omega
theorem piece_byte {k : Nat} {d : List Nat} (hk : k < 256) (hd : ∀ c, c ∈ d → c < 256) : ∀ c, c ∈ piece k d → c < 256 := by
  intro c hc
  simp only [piece, List.mem_append, List.mem_cons] at hc
  rcases hc with (h | h) | rfl | h
  · exact low_byte _ _ c h
  · exact low_byte _ _ c h
  · exact hk
  · exact hd c h
/-- What is left of a block. -/
def left (a : Nat) : Nat := 128 - a % 128
theorem left_pos (a : Nat) : 1 ≤ left a ∧ left a ≤ 128 := by unfold left; omega
/-- What is written behind the first piece. -/
def tail (r : List Nat) : List Nat :=
  if r.length ≤ 121 then piece 4 r else piece 3 (r.take 121) ++ tail (r.drop 121)
termination_by r.length
decreasing_by simp; omega
theorem tail_end {r : List Nat} (h : r.length ≤ 121) : tail r = piece 4 r := by rw [tail, if_pos h]
theorem tail_more {r : List Nat} (h : ¬ r.length ≤ 121) : tail r = piece 3 (r.take 121) ++ tail (r.drop 121) := by rw [tail, if_neg h]
/-- How much of a record fits behind a place. -/
def cap (a : Nat) : Nat := if left a < 7 then 121 else left a - 7
def pad (a : Nat) : Nat := if left a < 7 then left a else 0
theorem cap_le (a : Nat) : cap a ≤ 121 := by unfold cap left; split <;> omega
def parts (n : Nat) (r : List Nat) : List Nat := if r.length ≤ n then piece 1 r else piece 2 (r.take n) ++ tail (r.drop n)
def put (a : Nat) (r : List Nat) : List Nat := List.replicate (pad a) 0 ++ parts (cap a) r

theorem tail_byte : ∀ (r : List Nat), (∀ c, c ∈ r → c < 256) → ∀ c, c ∈ tail r → c < 256 := by
  intro r
  induction hn : r.length using Nat.strongRecOn generalizing r with
  | _ n ih =>
    intro h8 c hc
    subst hn
    by_cases h : r.length ≤ 121
    · rw [tail_end h] at hc
      exact piece_byte (by decide) h8 c hc
    · rw [tail_more h] at hc
      rcases List.mem_append.1 hc with hc | hc
      · exact piece_byte (by decide) (fun x hx => h8 x (List.mem_of_mem_take hx)) c hc
      · exact ih _ (by simp; omega) (r.drop 121) rfl (fun x hx => h8 x (List.mem_of_mem_drop hx)) c hc
theorem parts_byte {n : Nat} {r : List Nat} (h8 : ∀ c, c ∈ r → c < 256) : ∀ c, c ∈ parts n r → c < 256 := by
  intro c hc
  unfold parts at hc
  split at hc
  · exact piece_byte (by decide) h8 c hc
  · rcases List.mem_append.1 hc with hc | hc
    · exact piece_byte (by decide) (fun x hx => h8 x (List.mem_of_mem_take hx)) c hc
    · exact tail_byte _ (fun x hx => h8 x (List.mem_of_mem_drop hx)) c hc
theorem put_byte {a : Nat} {r : List Nat} (h8 : ∀ c, c ∈ r → c < 256) : ∀ c, c ∈ put a r → c < 256 := by
  intro c hc
  unfold put at hc
  rcases List.mem_append.1 hc with hc | hc
  · rw [List.mem_replicate] at hc; omega
  · exact parts_byte h8 c hc
theorem tail_len : ∀ (r : List Nat), 7 ≤ (tail r).length ∧ (tail r).length ≤ 7 + 2 * r.length := by
  intro r
  induction hn : r.length using Nat.strongRecOn generalizing r with
  | _ n ih =>
    subst hn
    by_cases h : r.length ≤ 121
    · rw [tail_end h, piece_length]; omega
    · rw [tail_more h, List.length_append, piece_length]
      have := ih _ (by simp; omega) (r.drop 121) rfl
      simp at this ⊢
      omega
theorem put_len (a : Nat) (r : List Nat) : 7 ≤ (put a r).length ∧ (put a r).length ≤ 21 + 2 * r.length := by
  have hp : pad a ≤ 6 := by unfold pad left; split <;> omega
  unfold put parts
  rw [List.length_append, List.length_replicate]
  split
  · rw [piece_length]; omega
  · rw [List.length_append, piece_length]
    have := tail_len (r.drop (cap a))
    simp at this ⊢
    omega

/-- What stands next in a log. -/
inductive Nt where
  | stop (c : Nat)
  | frag (k : Nat) (d : List Nat) (a : Nat)
def num2 (r : List Nat) : Nat := num ((r.drop 4).take 2)
def kindOf (r : List Nat) : Nat := (r[6]?).getD 0
def dataOf (r : List Nat) : List Nat := (r.drop 7).take (num2 r)
def good (r : List Nat) : Prop := num (r.take 4) = sumB (kindOf r) (dataOf r) ∧ 1 ≤ kindOf r ∧ kindOf r ≤ 4
instance (r : List Nat) : Decidable (good r) := by unfold good; infer_instance
def frg (b : List Nat) (a : Nat) : Nt :=
  if b.length ≤ a then .stop 0
  else if b.length - a < 7 then .stop 1
  else if left a < 7 + num2 (b.drop a) then .stop 2
  else if b.length - a < 7 + num2 (b.drop a) then .stop 1
  else if good (b.drop a) then .frag (kindOf (b.drop a)) (dataOf (b.drop a)) (a + (7 + num2 (b.drop a)))
  else .stop 2
def skip (b : List Nat) (a : Nat) : Nat := if left a < 7 then min (a + left a) b.length else a
def padding (b : List Nat) (a : Nat) : List Nat := if left a < 7 then (b.drop a).take (left a) else []
def clean (b : List Nat) (a : Nat) : Prop := ∀ c, c ∈ padding b a → c = 0
instance (b : List Nat) (a : Nat) : Decidable (clean b a) := by unfold clean; infer_instance
def nxt (b : List Nat) (a : Nat) : Nt := if clean b a then frg b (skip b a) else .stop 2

theorem frg_frag {b : List Nat} {a k a' : Nat} {d : List Nat} (h : frg b a = .frag k d a') : a < a' ∧ a' ≤ b.length ∧ 1 ≤ k ∧ k ≤ 4 ∧ d = dataOf (b.drop a) ∧ d.length ≤ 121 ∧ a' = a + (7 + d.length) := by
  unfold frg at h
  split at h; cases h
  split at h; cases h
  split at h; cases h
  split at h; cases h
  split at h
  · rename_i h1 h2 h3 h4 h5
    cases h
    have := left_pos a
    have hl : (dataOf (b.drop a)).length = num2 (b.drop a) := by unfold dataOf; simp; omega
    exact ⟨by omega, by omega, h5.2.1, h5.2.2, rfl, by omega, by omega⟩
  · cases h
theorem skip_le {b : List Nat} {a : Nat} (h : a ≤ b.length) : a ≤ skip b a ∧ skip b a ≤ b.length := by
  unfold skip; split <;> omega
theorem nxt_frag {b : List Nat} {a k a' : Nat} {d : List Nat} (ha : a ≤ b.length) (h : nxt b a = .frag k d a') : a < a' ∧ a' ≤ b.length ∧ 1 ≤ k ∧ k ≤ 4 ∧ d.length ≤ 121 := by
  unfold nxt at h
  split at h
  · have := skip_le ha
    have := frg_frag h
    omega
  · cases h

/-- How a log is read on from a place: what was read is told in R. -/
inductive Rd (b : List Nat) : Nat → Bool → List Nat → Nat → List (List Nat) → (List (List Nat) × Nat × Nat) → Prop
  | stop {a wi now done out c} : nxt b a = .stop c → Rd b a wi now done out (out, done, if wi = true ∧ c = 0 then 1 else c)
  | bad {a wi now done out k d a'} : nxt b a = .frag k d a' → wi = decide (k < 3) → Rd b a wi now done out (out, done, 2)
  | more {a wi now done out k d a' R} : nxt b a = .frag k d a' → wi = decide (3 ≤ k) → (k = 2 ∨ k = 3) → Rd b a' true (now ++ d) done out R → Rd b a wi now done out R
  | full {a wi now done out k d a' R} : nxt b a = .frag k d a' → wi = decide (3 ≤ k) → (k = 1 ∨ k = 4) → Rd b a' false [] a' (out ++ [now ++ d]) R → Rd b a wi now done out R

theorem Rd.det {b : List Nat} {a done : Nat} {wi : Bool} {now : List Nat} {out : List (List Nat)} {R R' : List (List Nat) × Nat × Nat} (h : Rd b a wi now done out R) (h' : Rd b a wi now done out R') : R = R' := by
  induction h generalizing R' with
  | stop h1 =>
    cases h' with
    | stop g1 => rw [h1] at g1; cases g1; rfl
    | bad g1 => rw [h1] at g1; cases g1
    | more g1 => rw [h1] at g1; cases g1
    | full g1 => rw [h1] at g1; cases g1
  | bad h1 h2 =>
    cases h' with
    | stop g1 => rw [h1] at g1; cases g1
    | bad g1 => rfl
    | more g1 g2 g3 =>
      rw [h1] at g1; cases g1
      rw [h2] at g2
      simp at g2; omega
    | full g1 g2 g3 =>
      rw [h1] at g1; cases g1
      rw [h2] at g2
      simp at g2; omega
  | more h1 h2 h3 _ ih =>
    cases h' with
    | stop g1 => rw [h1] at g1; cases g1
    | bad g1 g2 =>
      rw [h1] at g1; cases g1
      rw [h2] at g2
      simp at g2; omega
    | more g1 g2 g3 g4 => rw [h1] at g1; cases g1; exact ih g4
    | full g1 g2 g3 g4 => rw [h1] at g1; cases g1; omega
  | full h1 h2 h3 _ ih =>
    cases h' with
    | stop g1 => rw [h1] at g1; cases g1
    | bad g1 g2 =>
      rw [h1] at g1; cases g1
      rw [h2] at g2
      simp at g2; omega
    | more g1 g2 g3 g4 => rw [h1] at g1; cases g1; omega
    | full g1 g2 g3 g4 => rw [h1] at g1; cases g1; exact ih g4
theorem Rd.total {b : List Nat} : ∀ (n a done : Nat) (wi : Bool) (now : List Nat) (out : List (List Nat)), a ≤ b.length → b.length - a ≤ n → ∃ R, Rd b a wi now done out R := by
  intro n
  induction n using Nat.strongRecOn with
  | _ n ih =>
    intro a done wi now out ha hn
    cases hx : nxt b a with
    | stop c => exact ⟨_, .stop hx⟩
    | frag k d a' =>
      obtain ⟨h1, h2, h3, h4, _⟩ := nxt_frag ha hx
      by_cases hw : wi = decide (k < 3)
      · exact ⟨_, .bad hx hw⟩
      · have hw2 : wi = decide (3 ≤ k) := by
          by_cases h : k < 3
          · rw [decide_eq_true h] at hw; rw [decide_eq_false (by omega)]; simpa using hw
          · rw [decide_eq_false h] at hw; rw [decide_eq_true (by omega)]; simpa using hw
        by_cases h5 : k = 2 ∨ k = 3
        · obtain ⟨R, hR⟩ := ih (b.length - a') (by omega) a' done true (now ++ d) out h2 (Nat.le_refl _)
          exact ⟨R, .more hx hw2 h5 hR⟩
        · obtain ⟨R, hR⟩ := ih (b.length - a') (by omega) a' a' false [] (out ++ [now ++ d]) h2 (Nat.le_refl _)
          exact ⟨R, .full hx hw2 (by omega) hR⟩
theorem Rd.onto {b : List Nat} {a done : Nat} {wi : Bool} {now : List Nat} {out : List (List Nat)} {R : List (List Nat) × Nat × Nat} (h : Rd b a wi now done out R) : out <+: R.1 := by
  induction h with
  | stop h1 => exact List.prefix_refl _
  | bad h1 h2 => exact List.prefix_refl _
  | more h1 h2 h3 _ ih => exact ih
  | full h1 h2 h3 _ ih => exact (List.prefix_append _ _).trans ih

/-- A piece that stands there is read. -/
theorem piece_parts {k : Nat} {d q : List Nat} (hd : d.length < 65536) : num2 (piece k d ++ q) = d.length ∧ kindOf (piece k d ++ q) = k ∧ dataOf (piece k d ++ q) = d ∧ num ((piece k d ++ q).take 4) = sumB k d := by
  have e : piece k d ++ q = low (sumB k d) 4 ++ (low d.length 2 ++ (k :: (d ++ q))) := by simp [piece]
  have l4 := low_length (sumB k d) 4
  have l2 := low_length d.length 2
  have n2 : num2 (piece k d ++ q) = d.length := by
    unfold num2
    rw [e, List.drop_left' l4, List.take_left' l2, num_low _ _ (by omega)]
  refine ⟨n2, ?_, ?_, ?_⟩
  · unfold kindOf
    rw [e, List.getElem?_append_right (by omega), l4, List.getElem?_append_right (by omega), l2]
    rfl
  · unfold dataOf
    rw [n2]
    have e7 : piece k d ++ q = (low (sumB k d) 4 ++ low d.length 2 ++ [k]) ++ (d ++ q) := by simp [piece]
    rw [e7, List.drop_left' (by simp [l4, l2]), List.take_left' rfl]
  · rw [e, List.take_left' l4, num_low _ _ (by have := sumB_lt k d; omega)]
theorem frg_piece {b : List Nat} {a k : Nat} {d q : List Nat} (h : b.drop a = piece k d ++ q) (hd : 7 + d.length ≤ left a) (hk : 1 ≤ k ∧ k ≤ 4) : frg b a = .frag k d (a + (7 + d.length)) := by
  have hl := congrArg List.length h
  rw [List.length_drop, List.length_append, piece_length] at hl
  have := left_pos a
  obtain ⟨p1, p2, p3, p4⟩ := piece_parts (k := k) (d := d) (q := q) (by omega)
  have hg : good (piece k d ++ q) := by
    unfold good
    rw [p2, p3, p4]
    exact ⟨Eq.refl _, hk⟩
  unfold frg
  rw [h, p1, if_neg (by omega), if_neg (by omega), if_neg (by omega), if_neg (by omega), if_pos hg, p2, p3]
theorem nxt_piece {b : List Nat} {a k : Nat} {d q : List Nat} (h : b.drop a = piece k d ++ q) (hd : 7 + d.length ≤ left a) (hk : 1 ≤ k ∧ k ≤ 4) : nxt b a = .frag k d (a + (7 + d.length)) := by
  have h7 : ¬ left a < 7 := by omega
  unfold nxt
  rw [if_pos (by unfold clean padding; rw [if_neg h7]; simp)]
  unfold skip
  rw [if_neg h7]
  exact frg_piece h hd hk
theorem drop_more {b : List Nat} {a n : Nat} {p q : List Nat} (h : b.drop a = p ++ q) (hn : p.length = n) : b.drop (a + n) = q := by
  rw [← List.drop_drop, h, List.drop_left' hn]
theorem rd_tail {b : List Nat} : ∀ (r : List Nat) (a done : Nat) (now q : List Nat) (out : List (List Nat)) (R : List (List Nat) × Nat × Nat), a % 128 = 0 → b.drop a = tail r ++ q →
    Rd b (a + (tail r).length) false [] (a + (tail r).length) (out ++ [now ++ r]) R → Rd b a true now done out R := by
  intro r
  induction hn : r.length using Nat.strongRecOn generalizing r with
  | _ n ih =>
    intro a done now q out R ha hb hR
    subst hn
    have hla : left a = 128 := by unfold left; omega
    by_cases h : r.length ≤ 121
    · rw [tail_end h] at hb hR
      rw [piece_length] at hR
      exact .full (nxt_piece hb (by omega) (by decide)) rfl (.inr rfl) hR
    · rw [tail_more h] at hb hR
      rw [List.append_assoc] at hb
      have hl : (r.take 121).length = 121 := by simp; omega
      have hx := nxt_piece hb (by omega) (by decide)
      refine .more hx rfl (.inr rfl) ?_
      have hb2 := drop_more hb (piece_length _ _)
      refine ih _ (by simp; omega) (r.drop 121) rfl _ done (now ++ r.take 121) q out R (by omega) hb2 ?_
      rw [List.append_assoc, List.take_append_drop]
      rw [List.length_append, piece_length] at hR
      rw [Nat.add_assoc a]
      exact hR
theorem rd_parts {b : List Nat} {a done n : Nat} {r q : List Nat} {out : List (List Nat)} {R : List (List Nat) × Nat × Nat} (hn : 7 + n = left a) (hb : b.drop a = parts n r ++ q)
    (hR : Rd b (a + (parts n r).length) false [] (a + (parts n r).length) (out ++ [r]) R) : Rd b a false [] done out R := by
  unfold parts at hb hR
  split at hb
  · rename_i h
    rw [if_pos h, piece_length] at hR
    exact .full (nxt_piece hb (by omega) (by decide)) rfl (.inl rfl) hR
  · rename_i h
    rw [if_neg h, List.length_append, piece_length] at hR
    rw [List.append_assoc] at hb
    have hl : (r.take n).length = n := by simp; omega
    refine .more (nxt_piece hb (by omega) (by decide)) rfl (.inl rfl) ?_
    have hb2 := drop_more hb (piece_length _ _)
    refine rd_tail (r.drop n) _ done ([] ++ r.take n) q out R (by unfold left at hn; omega) hb2 ?_
    rw [List.nil_append, List.take_append_drop, Nat.add_assoc a]
    exact hR
end Go.Proofs.YtkmelhgpngochaaDoor.Fr
