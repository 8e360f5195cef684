/- Plain mathematics of packed entries: what bytes are entries, why others are none; restarts, lengths, turned bytes. -/
import Derived.Test.YtobjiamdljjkjaaBkm
namespace Go.Proofs.Ytobjiamdljjkjaa.Bk
set_option linter.unusedVariables false
set_option linter.unusedSimpArgs false
open Ik Sk Vn Vt

/-- Entries that rise. -/
def rises : List T → Bool
  | a :: b :: l => decide (cmpK a.k b.k < 0) && rises (b :: l)
  | _ => true
/-- May entries be packed? -/
def may (ts : List T) : Nat := if ts.all okT = false then 1 else if rises ts = false then 10 else if 10000 < ts.length then 3 else 0
theorem may_zero {ts : List T} (h : may ts = 0) : (∀ t, t ∈ ts → okT t = true) ∧ rises ts = true ∧ ts.length ≤ 10000 := by
  unfold may at h
  split at h
  · cases h
  · rename_i h1
    split at h
    · cases h
    · rename_i h2
      split at h
      · cases h
      · exact ⟨List.all_eq_true.1 (by simpa using h1), by simpa using h2, by omega⟩

theorem ends_len (every : Nat) : ∀ (ts : List T) (i : Nat) (last : List Nat) (o : Nat), 1 ≤ every → (ends every i last o ts).length = (i + ts.length + every - 1) / every - (i + every - 1) / every := by
  intro ts
  induction ts with
  | nil => intro i last o h; simp [ends]
  | cons t ts ih =>
    intro i last o h
    unfold ends
    rw [List.length_append, ih _ _ _ h]
    have e1 : (i + 1 + every - 1) / every = (i + every - 1) / every + (if i % every = 0 then 1 else 0) := by
      have hd := Nat.div_add_mod i every
      have hm := Nat.mod_lt i h
      obtain ⟨q, hq⟩ : ∃ q, q = i / every := ⟨_, rfl⟩
      obtain ⟨r, hr⟩ : ∃ r, r = i % every := ⟨_, rfl⟩
      rw [← hq, ← hr] at hd
      rw [← hr] at hm ⊢
      have e2 : i + 1 + every - 1 = r + every * (q + 1) := by rw [Nat.mul_add]; omega
      have e3 : (i + 1 + every - 1) / every = q + 1 := by
        rw [e2, Nat.add_mul_div_left _ _ (by omega), Nat.div_eq_of_lt hm]; omega
      rw [e3]
      by_cases h0 : r = 0
      · rw [if_pos h0]
        have e4 : i + every - 1 = (every - 1) + every * q := by omega
        rw [e4, Nat.add_mul_div_left _ _ (by omega), Nat.div_eq_of_lt (by omega)]
        omega
      · rw [if_neg h0]
        have e4 : i + every - 1 = (r - 1) + every * (q + 1) := by rw [Nat.mul_add]; omega
        rw [e4, Nat.add_mul_div_left _ _ (by omega), Nat.div_eq_of_lt (by omega)]
        omega
    have hle : (i + 1 + every - 1) / every ≤ (i + 1 + ts.length + every - 1) / every := Nat.div_le_div_right (by omega)
    rw [List.length_cons, show i + (ts.length + 1) + every - 1 = i + 1 + ts.length + every - 1 by omega]
    by_cases h0 : i % every = 0
    · rw [if_pos h0] at e1 ⊢
      rw [List.length_singleton]
      omega
    · rw [if_neg h0] at e1 ⊢
      rw [List.length_nil]
      omega
theorem ends_le (every : Nat) : ∀ (ts : List T) (i : Nat) (last : List Nat) (o : Nat), (ends every i last o ts).length ≤ ts.length := by
  intro ts
  induction ts with
  | nil => intro i last o; simp [ends]
  | cons t ts ih =>
    intro i last o
    unfold ends
    rw [List.length_append, List.length_cons]
    have := ih (i + 1) (bytesK t.k) (o + (one (pre every i last (bytesK t.k)) t).length)
    split <;> simp <;> omega
theorem flat4_len (es : List Nat) : (es.flatMap fun e => low e 4).length = 4 * es.length := by
  induction es with
  | nil => rfl
  | cons e es ih => rw [List.flatMap_cons, List.length_append, low_length, ih, List.length_cons]; omega
theorem foot_len (es : List Nat) : (foot es).length = 4 * es.length + 4 := by unfold foot; rw [List.length_append, flat4_len, low_length]
theorem blk_len (every : Nat) (ts : List T) : (blk every ts).length = (body every 0 [] ts).length + 4 * (ends every 0 [] 0 ts).length + 8 := by
  unfold blk bare
  rw [List.length_append, List.length_append, foot_len, sum4_len]
  omega
/-- The parts of packed entries. -/
theorem blk_parts (every : Nat) (ts : List T) (h : ts.length ≤ 10000) : (blk every ts).take ((blk every ts).length - 4) = bare every ts ∧ (blk every ts).drop ((blk every ts).length - 4) = sum4 (bare every ts) ∧
    num (((blk every ts).drop ((blk every ts).length - 8)).take 4) = (ends every 0 [] 0 ts).length ∧
    (blk every ts).take ((blk every ts).length - 8 - 4 * (ends every 0 [] 0 ts).length) = body every 0 [] ts := by
  have hl := blk_len every ts
  have he := ends_le every ts 0 [] 0
  have hb : (bare every ts).length = (blk every ts).length - 4 := by
    unfold bare
    rw [List.length_append, foot_len, hl]
    omega
  have e1 : blk every ts = body every 0 [] ts ++ ((ends every 0 [] 0 ts).flatMap (fun e => low e 4) ++ (low (ends every 0 [] 0 ts).length 4 ++ sum4 (bare every ts))) := by
    have : blk every ts = bare every ts ++ sum4 (bare every ts) := rfl
    rw [this]
    conv => lhs; unfold bare foot
    simp [bare, foot]
  refine ⟨?_, ?_, ?_, ?_⟩
  · have : blk every ts = bare every ts ++ sum4 (bare every ts) := rfl
    rw [← hb]
    conv => lhs; rw [this]
    exact List.take_left' rfl
  · have : blk every ts = bare every ts ++ sum4 (bare every ts) := rfl
    rw [← hb]
    conv => lhs; rw [this]
    exact List.drop_left' rfl
  · have hd : (blk every ts).drop ((blk every ts).length - 8) = low (ends every 0 [] 0 ts).length 4 ++ sum4 (bare every ts) := by
      rw [hl]
      conv => lhs; rw [e1]
      rw [← List.append_assoc]
      exact List.drop_left' (by rw [List.length_append, flat4_len]; omega)
    rw [hd, List.take_left' (low_length _ _)]
    exact num_low _ _ (by omega)
  · rw [hl]
    conv => lhs; rw [e1]
    exact List.take_left' (by omega)

/-- Bytes are packed entries. -/
def IsB (bs : List Nat) (ts : List T) : Prop := may ts = 0 ∧ ∃ every, 1 ≤ every ∧ every ≤ 100 ∧ blk every ts = bs
/-- How many restarts bytes tell of. -/
def cnt (bs : List Nat) : Nat := num ((bs.drop (bs.length - 8)).take 4)
/-- The entries that bytes are, whatever their restarts. -/
def raw (bs : List Nat) : Option (List T) := loose (bs.take (bs.length - 8 - 4 * cnt bs)) ((bs.take (bs.length - 8 - 4 * cnt bs)).length + 1) 0 []
theorem body_len (every : Nat) : ∀ (ts : List T) (i : Nat) (last : List Nat), ts.length ≤ (body every i last ts).length := by
  intro ts
  induction ts with
  | nil => intro i last; simp
  | cons t ts ih =>
    intro i last
    have h1 := one_len (pre every i last (bytesK t.k)) t
    have h2 := ih (i + 1) (bytesK t.k)
    unfold body
    rw [List.length_append, List.length_cons]
    omega
theorem isB_raw {bs : List Nat} {ts : List T} (h : IsB bs ts) : 8 ≤ bs.length ∧ bs.drop (bs.length - 4) = sum4 (bs.take (bs.length - 4)) ∧ cnt bs ≤ (bs.length - 8) / 4 ∧ raw bs = some ts := by
  obtain ⟨hm, every, h1, h2, rfl⟩ := h
  obtain ⟨hok, -, hn⟩ := may_zero hm
  obtain ⟨p1, p2, p3, p4⟩ := blk_parts every ts hn
  have hl := blk_len every ts
  have hb := body_len every ts 0 []
  have hc : cnt (blk every ts) = (ends every 0 [] 0 ts).length := p3
  refine ⟨by omega, by rw [p1, p2], by rw [hc]; omega, ?_⟩
  unfold raw
  rw [hc, p4]
  have := loose_body every ts 0 [] [] ((body every 0 [] ts).length + 1) hok (by omega)
  simpa using this
theorem isB_unique {bs : List Nat} {ts us : List T} (h1 : IsB bs ts) (h2 : IsB bs us) : ts = us := by
  have e1 := (isB_raw h1).2.2.2
  rw [(isB_raw h2).2.2.2] at e1
  injection e1 with e1
  exact e1.symm
open Classical in
/-- The answer to bytes: entries and an error. -/
noncomputable def allB (bs : List Nat) : List T × Nat :=
  if bs.length < 8 then ([], 4) else if bs.drop (bs.length - 4) ≠ sum4 (bs.take (bs.length - 4)) then ([], 5) else
  if h : ∃ ts, IsB bs ts then (h.choose, 0) else ([], 2)
theorem allB_ok {bs : List Nat} {ts : List T} (h : IsB bs ts) : allB bs = (ts, 0) := by
  obtain ⟨h1, h2, h3, h4⟩ := isB_raw h
  unfold allB
  rw [if_neg (by omega), if_neg (by simpa using h2), dif_pos ⟨ts, h⟩]
  rw [isB_unique (Exists.choose_spec (⟨ts, h⟩ : ∃ ts, IsB bs ts)) h]
theorem allB_bad {bs : List Nat} (h1 : ¬ bs.length < 8) (h2 : bs.drop (bs.length - 4) = sum4 (bs.take (bs.length - 4))) (h : ¬ ∃ ts, IsB bs ts) : allB bs = ([], 2) := by
  unfold allB
  rw [if_neg h1, if_neg (by simpa using h2), dif_neg h]
theorem allB_sum {bs : List Nat} (h1 : ¬ bs.length < 8) (h2 : bs.drop (bs.length - 4) ≠ sum4 (bs.take (bs.length - 4))) : allB bs = ([], 5) := by
  unfold allB
  rw [if_neg h1, if_pos h2]
theorem allB_short {bs : List Nat} (h1 : bs.length < 8) : allB bs = ([], 4) := by
  unfold allB
  rw [if_pos h1]

/-- With fewer restarts an entry is never longer. -/
theorem encN_mono : ∀ (n x y : Nat), x ≤ y → (encN n x).length ≤ (encN n y).length := by
  intro n
  induction n with
  | zero => intro x y _; simp [encN]
  | succ n ih =>
    intro x y h
    unfold encN
    by_cases h1 : x < 128
    · rw [if_pos h1]
      split
      · simp
      · simp
    · rw [if_neg h1, if_neg (by omega)]
      have := ih (x / 128) (y / 128) (Nat.div_le_div_right h)
      simp
      exact this
theorem enc_mono {x y : Nat} (h : x ≤ y) : (enc x).length ≤ (enc y).length := encN_mono 9 x y h
theorem enc_grow (c : Nat) : (enc c).length ≤ c + 1 := by
  by_cases h : c < 128
  · rw [enc_small c h]; simp
  · have := (enc_len c).2
    omega
theorem one_short {c : Nat} {t : T} (h : c ≤ (bytesK t.k).length) : (one c t).length ≤ (one 0 t).length := by
  unfold one
  have h1 := enc_grow c
  have h2 := enc_mono (show (bytesK t.k).length - c ≤ (bytesK t.k).length - 0 by omega)
  have h3 : (enc 0).length = 1 := by rw [enc_small 0 (by decide)]; rfl
  simp only [List.length_append, List.length_drop]
  omega
theorem body_short {a b : Nat} (hab : a ∣ b) : ∀ (ts : List T) (i : Nat) (last : List Nat), (body b i last ts).length ≤ (body a i last ts).length := by
  intro ts
  induction ts with
  | nil => intro i last; simp [body]
  | cons t ts ih =>
    intro i last
    unfold body
    rw [List.length_append, List.length_append]
    have h1 := ih (i + 1) (bytesK t.k)
    have h2 : (one (pre b i last (bytesK t.k)) t).length ≤ (one (pre a i last (bytesK t.k)) t).length := by
      unfold pre
      by_cases hb : i % b = 0
      · have ha : i % a = 0 := Nat.mod_eq_zero_of_dvd (Nat.dvd_trans hab (Nat.dvd_of_mod_eq_zero hb))
        rw [if_pos hb, if_pos ha]
        exact Nat.le_refl _
      · rw [if_neg hb]
        split
        · exact one_short (com_le _ _).2
        · exact Nat.le_refl _
    omega
theorem ends_short {a b : Nat} (hab : a ∣ b) : ∀ (ts : List T) (i : Nat) (l1 l2 : List Nat) (o1 o2 : Nat), (ends b i l1 o1 ts).length ≤ (ends a i l2 o2 ts).length := by
  intro ts
  induction ts with
  | nil => intro i l1 l2 o1 o2; simp [ends]
  | cons t ts ih =>
    intro i l1 l2 o1 o2
    unfold ends
    rw [List.length_append, List.length_append]
    have h1 := ih (i + 1) (bytesK t.k) (bytesK t.k) (o1 + (one (pre b i l1 (bytesK t.k)) t).length) (o2 + (one (pre a i l2 (bytesK t.k)) t).length)
    by_cases hb : i % b = 0
    · have ha : i % a = 0 := Nat.mod_eq_zero_of_dvd (Nat.dvd_trans hab (Nat.dvd_of_mod_eq_zero hb))
      rw [if_pos hb, if_pos ha]
      simp
      exact h1
    · rw [if_neg hb]
      simp
      omega
theorem blk_short {a b : Nat} (hab : a ∣ b) (ts : List T) : (blk b ts).length ≤ (blk a ts).length := by
  have h1 := body_short hab ts 0 []
  have h2 := ends_short hab ts 0 [] [] 0 0
  rw [blk_len, blk_len]
  omega

/-- Each restart stands where an entry begins whose common part is none. -/
theorem ends_at (every : Nat) : ∀ (ts : List T) (i : Nat) (last p q : List Nat), ∀ e, e ∈ ends every i last p.length ts → p.length ≤ e ∧ e < p.length + (body every i last ts).length ∧ (p ++ (body every i last ts ++ q))[e]? = some 0 := by
  intro ts
  induction ts with
  | nil => intro i last p q e he; simp [ends] at he
  | cons t ts ih =>
    intro i last p q e he
    have h1 := one_len (pre every i last (bytesK t.k)) t
    unfold ends at he
    rcases List.mem_append.1 he with he | he
    · by_cases h0 : i % every = 0
      · rw [if_pos h0] at he
        obtain rfl := List.mem_singleton.1 he
        refine ⟨Nat.le_refl _, by unfold body; rw [List.length_append]; omega, ?_⟩
        rw [List.getElem?_append_right (Nat.le_refl _), Nat.sub_self]
        unfold body one pre
        rw [if_pos h0, enc_small 0 (by decide)]
        rfl
      · rw [if_neg h0] at he
        simp at he
    · have h2 := ih (i + 1) (bytesK t.k) (p ++ one (pre every i last (bytesK t.k)) t) q e (by rw [List.length_append]; exact he)
      rw [List.length_append, List.append_assoc] at h2
      unfold body
      rw [List.length_append, List.append_assoc]
      exact ⟨by omega, by omega, h2.2.2⟩
theorem ends_rise (every : Nat) : ∀ (ts : List T) (i : Nat) (last : List Nat) (o : Nat), (ends every i last o ts).Pairwise (· < ·) ∧ ∀ e, e ∈ ends every i last o ts → o ≤ e := by
  intro ts
  induction ts with
  | nil => intro i last o; simp [ends]
  | cons t ts ih =>
    intro i last o
    have h1 := one_len (pre every i last (bytesK t.k)) t
    obtain ⟨h2, h3⟩ := ih (i + 1) (bytesK t.k) (o + (one (pre every i last (bytesK t.k)) t).length)
    unfold ends
    split
    · refine ⟨List.pairwise_append.2 ⟨List.pairwise_singleton _ _, h2, fun a ha b hb => ?_⟩, fun e he => ?_⟩
      · rw [List.mem_singleton.1 ha]
        have := h3 b hb
        omega
      · rcases List.mem_append.1 he with he | he
        · rw [List.mem_singleton.1 he]; exact Nat.le_refl _
        · have := h3 e he; omega
    · exact ⟨by simpa using h2, fun e he => by have := h3 e (by simpa using he); omega⟩
theorem ends_first (every : Nat) {ts : List T} (h : ts ≠ []) : (ends every 0 [] 0 ts)[0]? = some 0 := by
  match ts, h with
  | t :: ts, _ =>
    unfold ends
    rw [if_pos (Nat.zero_mod _)]
    rfl
/-- Where the restarts stand in packed entries. -/
theorem blk_end {every : Nat} {ts : List T} {j e : Nat} (h : (ends every 0 [] 0 ts)[j]? = some e) (he : e < 4294967296) :
    num (((blk every ts).drop ((blk every ts).length - 8 - 4 * ((ends every 0 [] 0 ts).length - j))).take 4) = e ∧ (blk every ts)[e]? = some 0 ∧ e < (blk every ts).length := by
  have hl := blk_len every ts
  have hj := (List.getElem?_eq_some_iff.1 h).1
  obtain ⟨q, hq⟩ : ∃ q, q = low (ends every 0 [] 0 ts).length 4 ++ sum4 (bare every ts) := ⟨_, rfl⟩
  have e1 : blk every ts = body every 0 [] ts ++ ((ends every 0 [] 0 ts).flatMap (fun e => low e 4) ++ q) := by
    have : blk every ts = bare every ts ++ sum4 (bare every ts) := rfl
    rw [this, hq]
    conv => lhs; unfold bare foot
    simp [bare, foot]
  have hsplit : ends every 0 [] 0 ts = (ends every 0 [] 0 ts).take j ++ e :: (ends every 0 [] 0 ts).drop (j + 1) := by
    obtain ⟨h1, h2⟩ := List.getElem?_eq_some_iff.1 h
    rw [← h2]
    simp
  have hat := ends_at every ts 0 [] [] ((ends every 0 [] 0 ts).flatMap (fun e => low e 4) ++ q) e (List.mem_of_getElem? h)
  simp only [List.length_nil, List.nil_append] at hat
  refine ⟨?_, by rw [e1]; exact hat.2.2, by omega⟩
  have hp : (blk every ts).length - 8 - 4 * ((ends every 0 [] 0 ts).length - j) = (body every 0 [] ts).length + 4 * j := by omega
  rw [hp]
  have e2 : blk every ts = (body every 0 [] ts ++ ((ends every 0 [] 0 ts).take j).flatMap (fun e => low e 4)) ++ (low e 4 ++ (((ends every 0 [] 0 ts).drop (j + 1)).flatMap (fun e => low e 4) ++ q)) := by
    rw [e1]
    conv => lhs; rw [hsplit]
    simp
  rw [e2, List.drop_left' (by rw [List.length_append, flat4_len, List.length_take]; omega), List.take_left' (low_length _ _)]
  exact num_low _ _ (by omega)

/-- A byte of packed entries is turned: the sum tells. -/
theorem sum4_inj {a b : List Nat} (h : sum4 a = sum4 b) : Crc.crc Crc.ent a = Crc.crc Crc.ent b := by
  unfold sum4 at h
  have h1 := congrArg num h
  have m1 := Crc.maskN_lt (Crc.crc Crc.ent a)
  have m2 := Crc.maskN_lt (Crc.crc Crc.ent b)
  rw [num_low _ _ (by omega), num_low _ _ (by omega)] at h1
  have h2 := congrArg Crc.unmaskN h1
  rwa [Crc.un_mask _ (Crc.crc_lt _ _), Crc.un_mask _ (Crc.crc_lt _ _)] at h2
theorem turned {bs : List Nat} {p x y : Nat} (h8 : 8 ≤ bs.length) (hb : ∀ c, c ∈ bs → c < 256) (hs : bs.drop (bs.length - 4) = sum4 (bs.take (bs.length - 4))) (hp : bs[p]? = some x) (hy : y < 256) (hne : y ≠ x) :
    allB (bs.set p y) = ([], 5) := by
  obtain ⟨hlt, hx⟩ := List.getElem?_eq_some_iff.1 hp
  refine allB_sum (by rw [List.length_set]; omega) ?_
  rw [List.length_set]
  obtain ⟨n, hn⟩ : ∃ n, n = bs.length - 4 := ⟨_, rfl⟩
  rw [← hn] at hs ⊢
  by_cases hpn : p < n
  · rw [List.drop_set_of_lt hpn, hs, List.take_set]
    intro he
    have h1 := sum4_inj he
    have h2 : (bs.take n)[p]? = some x := by rw [List.getElem?_take_of_lt hpn]; exact hp
    obtain ⟨h3, h4⟩ := List.getElem?_eq_some_iff.1 h2
    have e0 : (bs.take n).drop p = x :: (bs.take n).drop (p + 1) := by rw [List.drop_eq_getElem_cons h3, h4]
    have e1 : bs.take n = (bs.take n).take p ++ x :: (bs.take n).drop (p + 1) := by rw [← e0]; exact (List.take_append_drop p _).symm
    have e2 : (bs.take n).set p y = (bs.take n).take p ++ y :: (bs.take n).drop (p + 1) := by
      rw [List.set_eq_take_append_cons_drop, if_pos (by rw [List.length_take]; omega)]
    rw [e2] at h1
    conv at h1 => lhs; rw [e1]
    have hm : ∀ c, c ∈ bs.take n → c < 256 := fun c hc => hb c (List.mem_of_mem_take hc)
    exact Crc.crc_ne ((bs.take n).take p) ((bs.take n).drop (p + 1)) x y (fun c hc => hm c (List.mem_of_mem_take hc)) (fun c hc => hm c (List.mem_of_mem_drop hc)) (hb x (List.mem_of_getElem? hp)) hy (fun e => hne e.symm) h1
  · rw [List.take_set_of_le (by omega), List.drop_set, if_neg (by omega), hs]
    intro he
    have h2 : (bs.drop n)[p - n]? = some x := by rw [List.getElem?_drop]; rw [show n + (p - n) = p by omega]; exact hp
    rw [hs] at h2
    have hl := (List.getElem?_eq_some_iff.1 h2).1
    rw [← he, List.getElem?_set_self hl] at h2
    injection h2 with h2
    exact hne h2
end Go.Proofs.Ytobjiamdljjkjaa.Bk
