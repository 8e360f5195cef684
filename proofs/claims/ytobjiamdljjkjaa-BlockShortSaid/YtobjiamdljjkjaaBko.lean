/- Plain mathematics of packed entries: where entries begin, which interval the second restart tells, what is read of any bytes. -/
import Derived.Test.YtobjiamdljjkjaaBkn
namespace Go.Proofs.Ytobjiamdljjkjaa.Bk
set_option linter.unusedVariables false
set_option linter.unusedSimpArgs false
open Ik Sk Vn Vt

/-- Where entries begin. -/
def offs (every : Nat) : Nat → List Nat → Nat → List T → List Nat
  | _, _, _, [] => []
  | i, last, o, t :: ts => o :: offs every (i + 1) (bytesK t.k) (o + (one (pre every i last (bytesK t.k)) t).length) ts
theorem offs_len (every : Nat) : ∀ (ts : List T) (i : Nat) (last : List Nat) (o : Nat), (offs every i last o ts).length = ts.length := by
  intro ts
  induction ts with
  | nil => intro i last o; rfl
  | cons t ts ih => intro i last o; unfold offs; rw [List.length_cons, List.length_cons, ih]
theorem offs_rise (every : Nat) : ∀ (ts : List T) (i : Nat) (last : List Nat) (o : Nat), (offs every i last o ts).Pairwise (· < ·) ∧ ∀ e, e ∈ offs every i last o ts → o ≤ e := by
  intro ts
  induction ts with
  | nil => intro i last o; simp [offs]
  | cons t ts ih =>
    intro i last o
    have h1 := one_len (pre every i last (bytesK t.k)) t
    obtain ⟨h2, h3⟩ := ih (i + 1) (bytesK t.k) (o + (one (pre every i last (bytesK t.k)) t).length)
    unfold offs
    refine ⟨List.pairwise_cons.2 ⟨fun e he => by have := h3 e he; omega, h2⟩, fun e he => ?_⟩
    rcases List.mem_cons.1 he with rfl | he
    · exact Nat.le_refl _
    · have := h3 e he; omega
theorem ends_head {every : Nat} (hev : 1 ≤ every) : ∀ (ts : List T) (i : Nat) (last : List Nat) (o : Nat), (ends every i last o ts)[0]? = (offs every i last o ts)[(every - i % every) % every]? := by
  intro ts
  induction ts with
  | nil => intro i last o; simp [ends, offs]
  | cons t ts ih =>
    intro i last o
    have hm := Nat.mod_lt i (show every > 0 by omega)
    unfold ends offs
    by_cases h0 : i % every = 0
    · rw [if_pos h0, h0, Nat.sub_zero, Nat.mod_self]
      rfl
    · rw [if_neg h0, List.nil_append, ih]
      have e1 : (every - i % every) % every = every - i % every := Nat.mod_eq_of_lt (by omega)
      obtain ⟨r, hr⟩ : ∃ r, every - i % every = r + 1 := ⟨every - i % every - 1, by omega⟩
      have e2 : (every - (i + 1) % every) % every = r := by
        by_cases h1 : i % every + 1 = every
        · have : (i + 1) % every = 0 := by rw [Nat.add_mod, ← Nat.add_mod, ← Nat.mod_add_mod, h1, Nat.mod_self]
          rw [this, Nat.sub_zero, Nat.mod_self]
          omega
        · have : (i + 1) % every = i % every + 1 := by rw [← Nat.mod_add_mod, Nat.mod_eq_of_lt (by omega)]
          rw [this, Nat.mod_eq_of_lt (by omega)]
          omega
      rw [e1, e2, hr, List.getElem?_cons_succ]
theorem ends_second {every : Nat} (hev : 1 ≤ every) (ts : List T) : (ends every 0 [] 0 ts)[1]? = (offs every 0 [] 0 ts)[every]? := by
  match ts with
  | [] => simp [ends, offs]
  | t :: ts =>
    unfold ends offs
    rw [if_pos (Nat.zero_mod _)]
    show ([0] ++ _)[1]? = _
    rw [List.singleton_append, List.getElem?_cons_succ, ends_head hev]
    obtain ⟨e, rfl⟩ : ∃ e, every = e + 1 := ⟨every - 1, by omega⟩
    rw [List.getElem?_cons_succ]
    have : (e + 1 - (0 + 1) % (e + 1)) % (e + 1) = e := by
      cases e with
      | zero => simp
      | succ e =>
        rw [Nat.mod_eq_of_lt (show 0 + 1 < e + 1 + 1 by omega), Nat.mod_eq_of_lt (by omega)]
        omega
    rw [this]
theorem count_rise : ∀ (l : List Nat) (k x : Nat), l.Pairwise (· < ·) → l[k]? = some x → l.countP (fun y => decide (y < x)) = k := by
  intro l
  induction l with
  | nil => intro k x _ h; simp at h
  | cons a l ih =>
    intro k x hp h
    obtain ⟨h1, h2⟩ := List.pairwise_cons.1 hp
    cases k with
    | zero =>
      simp at h
      subst h
      rw [List.countP_cons_of_neg (by simp)]
      refine List.countP_eq_zero.2 fun y hy => ?_
      have := h1 y hy
      simp
      omega
    | succ k =>
      rw [List.getElem?_cons_succ] at h
      have hx : x ∈ l := List.mem_of_getElem? h
      rw [List.countP_cons_of_pos (by simpa using h1 x hx), ih k x h2 h]
theorem same_by {a b : Nat} : ∀ (ts : List T) (i : Nat) (last : List Nat) (o : Nat), (∀ j, i ≤ j → j < i + ts.length → (j % a = 0 ↔ j % b = 0)) → body a i last ts = body b i last ts ∧ ends a i last o ts = ends b i last o ts := by
  intro ts
  induction ts with
  | nil => intro i last o _; exact ⟨rfl, rfl⟩
  | cons t ts ih =>
    intro i last o h
    have h0 := h i (Nat.le_refl _) (by simp)
    have hp : pre a i last (bytesK t.k) = pre b i last (bytesK t.k) := by
      unfold pre
      by_cases ha : i % a = 0
      · rw [if_pos ha, if_pos (h0.1 ha)]
      · rw [if_neg ha, if_neg (fun hb => ha (h0.2 hb))]
    have hi : (if i % a = 0 then [o] else []) = (if i % b = 0 then [o] else []) := by
      by_cases ha : i % a = 0
      · rw [if_pos ha, if_pos (h0.1 ha)]
      · rw [if_neg ha, if_neg (fun hb => ha (h0.2 hb))]
    obtain ⟨h1, h2⟩ := ih (i + 1) (bytesK t.k) (o + (one (pre a i last (bytesK t.k)) t).length) fun j hj1 hj2 => h j (by omega) (by simp; omega)
    unfold body ends
    rw [h1, h2, hp, hi]
    exact ⟨rfl, rfl⟩
/-- The interval that the second restart tells. -/
def ival (starts rs : List Nat) : Nat := if rs.length < 2 then max starts.length 1 else starts.countP (fun y => decide (y < rs.getD 1 0))
/-- An interval within its limits. -/
def clamp (e : Int) : Nat := (min (max e 1) 100).toNat
theorem clamp_in (e : Int) : 1 ≤ clamp e ∧ clamp e ≤ 100 := by unfold clamp; omega
theorem clamp_nat {e : Nat} (h1 : 1 ≤ e) (h2 : e ≤ 100) : clamp (e : Int) = e := by unfold clamp; omega
theorem ival_bare {every : Nat} (h1 : 1 ≤ every) (h2 : every ≤ 100) (ts : List T) : bare (clamp (ival (offs every 0 [] 0 ts) (ends every 0 [] 0 ts) : Nat)) ts = bare every ts := by
  unfold ival
  by_cases hl : (ends every 0 [] 0 ts).length < 2
  · rw [if_pos hl, offs_len]
    rw [ends_len every ts 0 [] 0 h1] at hl
    have hn : ts.length ≤ every := by
      have e2 : (0 + every - 1) / every = 0 := Nat.div_eq_of_lt (by omega)
      rw [e2, Nat.sub_zero, Nat.div_lt_iff_lt_mul (by omega)] at hl
      omega
    rw [clamp_nat (show 1 ≤ max ts.length 1 by omega) (by omega)]
    obtain ⟨h3, h4⟩ := same_by (a := max ts.length 1) (b := every) ts 0 [] 0 fun j _ hj => by
      by_cases hz : j = 0
      · subst hz; simp
      · rw [Nat.mod_eq_of_lt (by omega), Nat.mod_eq_of_lt (by omega)]
    unfold bare
    rw [h3, h4]
  · rw [if_neg hl]
    have h3 := ends_second h1 ts
    obtain ⟨x, hx⟩ : ∃ x, (ends every 0 [] 0 ts)[1]? = some x := ⟨_, List.getElem?_eq_getElem (by omega)⟩
    have h4 : (ends every 0 [] 0 ts).getD 1 0 = x := by rw [List.getD_eq_getElem?_getD, hx]; rfl
    rw [h4, count_rise _ every x (offs_rise every ts 0 [] 0).1 (by rw [← h3]; exact hx), clamp_nat h1 h2]

/-- Where entries begin, as they are read. -/
def spots (bs : List Nat) : Nat → Nat → List Nat → List Nat
  | 0, _, _ => []
  | f + 1, p, last => if bs.length ≤ p then [] else match step bs p last with
    | none => []
    | some (_, kb, to) => p :: spots bs f to kb
theorem spots_body (every : Nat) : ∀ (ts : List T) (i : Nat) (last p : List Nat) (f : Nat), (∀ t, t ∈ ts → okT t = true) → ts.length < f → spots (p ++ body every i last ts) f p.length last = offs every i last p.length ts := by
  intro ts
  induction ts with
  | nil =>
    intro i last p f _ hf
    obtain ⟨f, rfl⟩ : ∃ g, f = g + 1 := ⟨f - 1, by simp at hf; omega⟩
    unfold spots body offs
    rw [if_pos (by simp)]
  | cons t ts ih =>
    intro i last p f hok hf
    obtain ⟨f, rfl⟩ : ∃ g, f = g + 1 := ⟨f - 1, by simp at hf; omega⟩
    have h1 := one_len (pre every i last (bytesK t.k)) t
    have hs := step_one (hok t (by simp)) (last := last) (p := p) (r := body every (i + 1) (bytesK t.k) ts) (pre_le every i last (bytesK t.k))
    have h2 := ih (i + 1) (bytesK t.k) (p ++ one (pre every i last (bytesK t.k)) t) f (fun u hu => hok u (by simp [hu])) (by simp at hf; omega)
    rw [List.length_append, List.append_assoc] at h2
    unfold spots body offs
    rw [if_neg (by simp; omega), hs]
    simp only
    rw [h2]
/-- The bytes of the entries of a block. -/
def front (bs : List Nat) : List Nat := bs.take (bs.length - 8 - 4 * cnt bs)
/-- The restarts that bytes tell of. -/
def rest (bs : List Nat) : List Nat := (List.range (cnt bs)).map fun i => num ((bs.drop (bs.length - 8 - 4 * (cnt bs - i))).take 4)
theorem raw_front (bs : List Nat) : raw bs = loose (front bs) ((front bs).length + 1) 0 [] := rfl
theorem blk_front {every : Nat} {ts : List T} (hm : may ts = 0) : front (blk every ts) = body every 0 [] ts ∧ cnt (blk every ts) = (ends every 0 [] 0 ts).length := by
  obtain ⟨-, -, hn⟩ := may_zero hm
  obtain ⟨p1, p2, p3, p4⟩ := blk_parts every ts hn
  have hc : cnt (blk every ts) = (ends every 0 [] 0 ts).length := p3
  exact ⟨by unfold front; rw [hc]; exact p4, hc⟩
theorem blk_spots {every : Nat} {ts : List T} (hm : may ts = 0) : spots (front (blk every ts)) ((front (blk every ts)).length + 1) 0 [] = offs every 0 [] 0 ts := by
  obtain ⟨hok, -, hn⟩ := may_zero hm
  rw [(blk_front hm).1]
  have := spots_body every ts 0 [] [] ((body every 0 [] ts).length + 1) hok (by have := body_len every ts 0 []; omega)
  simpa using this
theorem blk_rest {every : Nat} {ts : List T} (hm : may ts = 0) (hs : (blk every ts).length < 4294967296) : rest (blk every ts) = ends every 0 [] 0 ts := by
  refine List.ext_getElem? fun i => ?_
  unfold rest
  rw [List.getElem?_map, (blk_front hm).2]
  by_cases hi : i < (ends every 0 [] 0 ts).length
  · rw [List.getElem?_range hi]
    obtain ⟨e, he⟩ : ∃ e, (ends every 0 [] 0 ts)[i]? = some e := ⟨_, List.getElem?_eq_getElem hi⟩
    have hat := ends_at every ts 0 [] [] [] e (List.mem_of_getElem? he)
    have hl := blk_len every ts
    simp only [List.length_nil] at hat
    rw [he, Option.map_some, (blk_end he (by omega)).1]
  · rw [List.getElem?_eq_none (by simpa using hi), List.getElem?_eq_none (by omega)]
    rfl
/-- Bytes whose entries, packed by the interval that their second restart tells, come to the same are packed entries; others are none. -/
theorem isB_iff {bs : List Nat} {ts : List T} (hs : bs.length < 4294967296) (h8 : 8 ≤ bs.length) (hsum : bs.drop (bs.length - 4) = sum4 (bs.take (bs.length - 4))) (hraw : raw bs = some ts) (hm : may ts = 0) :
    (bare (clamp (ival (spots (front bs) ((front bs).length + 1) 0 []) (rest bs) : Nat)) ts = bs.take (bs.length - 4)) ↔ IsB bs ts := by
  constructor
  · intro h
    refine ⟨hm, clamp ((ival (spots (front bs) ((front bs).length + 1) 0 []) (rest bs) : Nat) : Int), (clamp_in _).1, (clamp_in _).2, ?_⟩
    have e : ∀ ev, blk ev ts = bare ev ts ++ sum4 (bare ev ts) := fun _ => rfl
    rw [e, h, ← hsum]
    exact List.take_append_drop _ _
  · rintro ⟨-, every, h1, h2, rfl⟩
    rw [blk_spots hm, blk_rest hm hs, ival_bare h1 h2]
    obtain ⟨-, -, hn⟩ := may_zero hm
    exact (blk_parts every ts hn).1.symm
end Go.Proofs.Ytobjiamdljjkjaa.Bk
