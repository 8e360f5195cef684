/- Plain mathematics of a log whose end is torn off, and of one whose bytes are turned behind a place. -/
import Derived.Test.YtkmelhgpngochaaDoorFlaw7
namespace Go.Proofs.YtkmelhgpngochaaDoor.Fr
open Ik Crc
theorem frg_torn {b : List Nat} {a k m : Nat} {d : List Nat} (h : b.drop a = (piece k d).take m) (hm : m < 7 + d.length) (hd : 7 + d.length ≤ left a) : ∃ c, frg b a = .stop c ∧ c ≠ 2 := by
  have hl := congrArg List.length h
  rw [List.length_drop, List.length_take, piece_length, Nat.min_eq_left (by omega)] at hl
  have hlp := left_pos a
  by_cases h0 : b.length ≤ a
  · exact ⟨0, by unfold frg; rw [if_pos h0], by decide⟩
  · by_cases h7 : b.length - a < 7
    · exact ⟨1, by unfold frg; rw [if_neg h0, if_pos h7], by decide⟩
    · have hn : num2 (b.drop a) = d.length := by
        have h1 := (piece_parts (k := k) (d := d) (q := []) (by omega)).1
        rw [List.append_nil] at h1
        rw [h, ← h1]
        unfold num2
        rw [List.drop_take, List.take_take, Nat.min_eq_left (by omega)]
      refine ⟨1, ?_, by decide⟩
      unfold frg
      rw [if_neg h0, if_neg h7, hn, if_neg (by omega), if_pos (by omega)]
theorem nxt_far {b : List Nat} {a : Nat} (h : 7 ≤ left a) : nxt b a = frg b a := by
  have h7 : ¬ left a < 7 := by omega
  unfold nxt
  rw [if_pos (by unfold clean padding; rw [if_neg h7]; simp)]
  unfold skip
  rw [if_neg h7]
theorem rd_tail_torn {b : List Nat} : ∀ (r : List Nat) (a done m : Nat) (now : List Nat) (out : List (List Nat)), a % 128 = 0 → b.drop a = (tail r).take m → m < (tail r).length →
    ∃ c, c ≠ 2 ∧ Rd b a true now done out (out, done, c) := by
  intro r
  induction hn : r.length using Nat.strongRecOn generalizing r with
  | _ n ih =>
    intro a done m now out ha hb hm
    subst hn
    have hla : left a = 128 := by unfold left; omega
    have fin : ∀ c, frg b a = .stop c → c ≠ 2 → ∃ c, c ≠ 2 ∧ Rd b a true now done out (out, done, c) := fun c h1 h2 =>
      ⟨_, by split <;> omega, Rd.stop ((nxt_far (by omega)).trans h1)⟩
    by_cases h : r.length ≤ 121
    · rw [tail_end h] at hb hm
      rw [piece_length] at hm
      obtain ⟨c, h1, h2⟩ := frg_torn hb hm (by omega)
      exact fin c h1 h2
    · rw [tail_more h] at hb hm
      have hl : (r.take 121).length = 121 := by rw [List.length_take]; omega
      have hpl : (piece 3 (r.take 121)).length = 128 := by rw [piece_length, hl]
      by_cases h128 : m < 128
      · rw [List.take_append_of_le_length (by omega)] at hb
        obtain ⟨c, h1, h2⟩ := frg_torn hb (by omega) (by omega)
        exact fin c h1 h2
      · rw [List.take_append, List.take_of_length_le (by omega), hpl] at hb
        rw [List.length_append, hpl] at hm
        obtain ⟨c, h1, h2⟩ := ih _ (by simp; omega) (r.drop 121) rfl (a + 128) done (m - 128) (now ++ r.take 121) out (by omega) (drop_more hb hpl) (by omega)
        refine ⟨c, h1, .more (nxt_piece hb (by omega) (by decide)) rfl (.inr rfl) ?_⟩
        rw [hl]
        exact h2
theorem pad_step2 {b : List Nat} {a n : Nat} {t : List Nat} {out : List (List Nat)} {R : List (List Nat) × Nat × Nat} (ha : a ≤ b.length) (hb : b.drop a = List.replicate (pad a) 0 ++ t) (h : Rd b (a + pad a) false [] n out R) : Rd b a false [] n out R := by
  by_cases h7 : left a < 7
  · have hpad : pad a = left a := by unfold pad; rw [if_pos h7]
    have hcl : clean b a := by
      unfold clean padding
      rw [if_pos h7, hb, hpad, List.take_left' (by simp)]
      intro c hc
      exact (List.mem_replicate.1 hc).2
    have hl := congrArg List.length hb
    rw [List.length_drop, List.length_append, List.length_replicate, hpad] at hl
    have hsk : skip b a = a + pad a := by unfold skip; rw [if_pos h7, hpad]; omega
    have hlf : 7 ≤ left (a + pad a) := by rw [hpad]; unfold left; omega
    have e : nxt b a = nxt b (a + pad a) := by
      rw [nxt_far hlf]
      unfold nxt
      rw [if_pos hcl, hsk]
    cases h with
    | stop h1 => exact .stop (e.trans h1)
    | bad h1 h2 => exact .bad (e.trans h1) h2
    | more h1 h2 h3 h4 => exact .more (e.trans h1) h2 h3 h4
    | full h1 h2 h3 h4 => exact .full (e.trans h1) h2 h3 h4
  · have hpad : pad a = 0 := by unfold pad; rw [if_neg h7]
    rw [hpad] at h
    exact h
theorem rd_put_torn {b : List Nat} {a done m : Nat} {r : List Nat} {out : List (List Nat)} (ha : a ≤ b.length) (hb : b.drop a = (put a r).take m) (hm : m < (put a r).length) : ∃ c, c ≠ 2 ∧ Rd b a false [] done out (out, done, c) := by
  have hl := congrArg List.length hb
  rw [List.length_drop, List.length_take, Nat.min_eq_left (by omega)] at hl
  by_cases hp : m ≤ pad a
  · have hz : ∀ x, x ∈ b.drop a → x = 0 := by
      rw [hb]
      unfold put
      rw [List.take_append_of_le_length (by rw [List.length_replicate]; exact hp)]
      exact fun x hx => (List.mem_replicate.1 (List.mem_of_mem_take hx)).2
    have hcl : clean b a := by
      unfold clean padding
      split
      · exact fun x hx => hz x (List.mem_of_mem_take hx)
      · simp
    have hsk : b.length ≤ skip b a := by
      unfold skip
      unfold pad at hp
      split
      · rename_i h7; rw [if_pos h7] at hp; omega
      · rename_i h7; rw [if_neg h7] at hp; omega
    refine ⟨0, by decide, ?_⟩
    have e : nxt b a = .stop 0 := by
      unfold nxt
      rw [if_pos hcl]
      unfold frg
      rw [if_pos hsk]
    exact Rd.stop e
  · have hb2 : b.drop a = List.replicate (pad a) 0 ++ (parts (cap a) r).take (m - pad a) := by
      rw [hb]
      unfold put
      rw [List.take_append, List.take_of_length_le (by rw [List.length_replicate]; omega), List.length_replicate]
    have hb3 := drop_more hb2 List.length_replicate
    have hn : 7 + cap a = left (a + pad a) := by
      unfold cap pad
      by_cases h7 : left a < 7
      · rw [if_pos h7, if_pos h7]; unfold left; omega
      · rw [if_neg h7, if_neg h7, Nat.add_zero]; omega
    have hpl : (put a r).length = pad a + (parts (cap a) r).length := by unfold put; simp
    have fin : ∀ c, frg b (a + pad a) = .stop c → c ≠ 2 → ∃ c, c ≠ 2 ∧ Rd b a false [] done out (out, done, c) := fun c h1 h2 =>
      ⟨c, h2, pad_step2 ha hb2 (by simpa using Rd.stop (b := b) (wi := false) (now := []) (done := done) (out := out) ((nxt_far (by omega)).trans h1))⟩
    generalize hq : m - pad a = q at *
    unfold parts at hb3 hpl
    split at hb3
    · rename_i h
      rw [if_pos h, piece_length] at hpl
      obtain ⟨c, h1, h2⟩ := frg_torn hb3 (by omega) (by omega)
      exact fin c h1 h2
    · rename_i h
      have hl2 : (r.take (cap a)).length = cap a := by rw [List.length_take]; omega
      have hp2 : (piece 2 (r.take (cap a))).length = 7 + cap a := by rw [piece_length, hl2]
      rw [if_neg h, List.length_append, hp2] at hpl
      by_cases hc : q < 7 + cap a
      · rw [List.take_append_of_le_length (by omega)] at hb3
        obtain ⟨c, h1, h2⟩ := frg_torn hb3 (by omega) (by omega)
        exact fin c h1 h2
      · rw [List.take_append, List.take_of_length_le (by omega), hp2] at hb3
        obtain ⟨c, h1, h2⟩ := rd_tail_torn (r.drop (cap a)) (a + pad a + (7 + cap a)) done (q - (7 + cap a)) ([] ++ r.take (cap a)) out (by unfold left at hn; omega) (drop_more hb3 hp2) (by omega)
        refine ⟨c, h1, pad_step2 ha hb2 (.more (nxt_piece hb3 (by omega) (by decide)) rfl (.inl rfl) ?_)⟩
        rw [hl2]
        exact h2
/-- Where the records of a log end. -/
theorem logOf_take (l : List (List Nat)) : ∀ (j : Nat), ∃ q, logOf l = logOf (l.take j) ++ q := by
  intro j
  have key : ∀ (l' : List (List Nat)) (b : List Nat), ∃ q, l'.foldl (fun b r => b ++ put b.length r) b = b ++ q := by
    intro l'
    induction l' with
    | nil => exact fun b => ⟨[], by simp⟩
    | cons r l' ih =>
      intro b
      obtain ⟨q, hq⟩ := ih (b ++ put b.length r)
      exact ⟨put b.length r ++ q, by rw [List.foldl_cons, hq, List.append_assoc]⟩
  obtain ⟨q, hq⟩ := key (l.drop j) (logOf (l.take j))
  refine ⟨q, ?_⟩
  rw [← hq]
  unfold logOf
  rw [← List.foldl_append, List.take_append_drop]
theorem logOf_at {l : List (List Nat)} {j : Nat} {r : List Nat} (hr : l[j]? = some r) : ∃ q, logOf l = logOf (l.take j) ++ (put (logOf (l.take j)).length r ++ q) := by
  obtain ⟨q, hq⟩ := logOf_take l (j + 1)
  refine ⟨q, ?_⟩
  rw [hq, List.take_add_one, hr, Option.toList_some, logOf_snoc, List.append_assoc]
/-- A log that is torn off within its record j: the records ahead of it are read, and the end is no damage. -/
theorem rd_log_torn {l : List (List Nat)} {j to : Nat} {r : List Nat} (hr : l[j]? = some r) (h1 : (logOf (l.take j)).length ≤ to) (h2 : to < (logOf (l.take (j + 1))).length) :
    ∃ n c, c ≠ 2 ∧ Rd ((logOf l).take to) 0 false [] 0 [] (l.take j, n, c) := by
  obtain ⟨q, hq⟩ := logOf_at hr
  rw [List.take_add_one, hr, Option.toList_some, logOf_snoc, List.length_append] at h2
  have e : (logOf l).take to = logOf (l.take j) ++ (put (logOf (l.take j)).length r).take (to - (logOf (l.take j)).length) := by
    rw [hq, List.take_append, List.take_of_length_le h1, List.take_append_of_le_length (by omega)]
  rw [e]
  obtain ⟨c, h3, h4⟩ := rd_put_torn (b := logOf (l.take j) ++ (put (logOf (l.take j)).length r).take (to - (logOf (l.take j)).length)) (a := (logOf (l.take j)).length) (done := (logOf (l.take j)).length) (out := l.take j)
    (by rw [List.length_append]; omega) (by rw [List.drop_left' rfl]) (by omega)
  exact ⟨_, c, h3, rd_log _ _ _ h4⟩
/-- A log that is as it was up to a place within its record j: the records ahead of it are read first. -/
theorem rd_log_same {l : List (List Nat)} {j : Nat} {b : List Nat} {R : List (List Nat) × Nat × Nat} (h1 : logOf (l.take j) <+: b) (hR : Rd b 0 false [] 0 [] R) : l.take j <+: R.1 := by
  obtain ⟨q, rfl⟩ := h1
  obtain ⟨R', hR'⟩ := Rd.total (b := logOf (l.take j) ++ q) _ (logOf (l.take j)).length (logOf (l.take j)).length false [] (l.take j) (by rw [List.length_append]; omega) (Nat.le_refl _)
  have := hR.det (rd_log _ _ _ hR')
  subst this
  exact hR'.onto
end Go.Proofs.YtkmelhgpngochaaDoor.Fr
