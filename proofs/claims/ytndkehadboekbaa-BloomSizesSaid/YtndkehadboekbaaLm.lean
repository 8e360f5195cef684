/- Plain mathematics of a filter: hashes, bits that are set, what a filter tells of a key. -/
import Derived.Test.YtndkehadboekbaaLift
namespace Go.Proofs.Ytndkehadboekbaa.Bl
set_option linter.unusedVariables false
set_option linter.unusedSimpArgs false
/-- One byte more in a hsh. -/
def fnv (h c : Nat) : Nat := ((h ^^^ c) * 16777619) % 4294967296
def hsh (key : List Nat) : Nat := key.foldl fnv 2166136261
theorem fnv_lt (h c : Nat) : fnv h c < 4294967296 := by unfold fnv; omega
theorem hsh_lt (key : List Nat) : hsh key < 4294967296 := by
  unfold hsh
  have : ∀ (l : List Nat) (h : Nat), h < 4294967296 → l.foldl fnv h < 4294967296 := by
    intro l
    induction l with
    | nil => intro h hh; rw [List.foldl_nil]; exact hh
    | cons c l ih => intro h _; rw [List.foldl_cons]; exact ih _ (fnv_lt h c)
  exact this _ _ (by omega)
theorem fold_one (l : List Nat) (c x : Nat) : (l ++ [c]).foldl fnv x = fnv (l.foldl fnv x) c := by rw [List.foldl_append, List.foldl_cons, List.foldl_nil]
theorem hsh_one (l : List Nat) (c : Nat) : hsh (l ++ [c]) = fnv (hsh l) c := by
  unfold hsh
  exact fold_one l c _
theorem hsh_next {key : List Nat} {j c : Nat} (h : key[j]? = some c) : hsh (key.take (j + 1)) = fnv (hsh (key.take j)) c := by
  have e : key.take (j + 1) = key.take j ++ [c] := by rw [List.take_add_one, h]; rfl
  rw [e]
  exact hsh_one _ c
/-- A hash, turned to the right by 17 bits. -/
def rot (h : Nat) : Nat := h / 131072 ||| h * 32768 % 4294967296
theorem rot_lt {h : Nat} (hh : h < 4294967296) : rot h < 4294967296 := by
  have h1 : h / 131072 < 2 ^ 32 := by omega
  have h2 : h * 32768 % 4294967296 < 2 ^ 32 := by omega
  have h3 := Nat.or_lt_two_pow h1 h2
  unfold rot
  omega
/-- The j-th place of a key, ahead of its rest. -/
def nth (h d j : Nat) : Nat := (h + j * d) % 4294967296
theorem nth_lt (h d j : Nat) : nth h d j < 4294967296 := by unfold nth; omega
theorem nth_zero {h d : Nat} (hh : h < 4294967296) : nth h d 0 = h := by unfold nth; rw [Nat.zero_mul, Nat.add_zero, Nat.mod_eq_of_lt hh]
theorem nth_next (h d j : Nat) : (nth h d j + d) % 4294967296 = nth h d (j + 1) := by
  unfold nth
  rw [Nat.mod_add_mod, Nat.succ_mul, Nat.add_assoc]
/-- A bit that is set. -/
def setB (f : List Nat) (x : Nat) : List Nat := f.set (x / 8) (f.getD (x / 8) 0 ||| 2 ^ (x % 8))
theorem setB_len (f : List Nat) (x : Nat) : (setB f x).length = f.length := List.length_set ..
theorem setB_byte {f : List Nat} {x : Nat} (h : ∀ c, c ∈ f → c < 256) : ∀ c, c ∈ setB f x → c < 256 := by
  intro c hc
  rcases List.mem_or_eq_of_mem_set hc with h1 | h1
  · exact h c h1
  · rw [h1]
    have h2 : 2 ^ (x % 8) < 2 ^ 8 := Nat.pow_lt_pow_right (by decide) (by omega)
    show _ < 2 ^ 8
    refine Nat.or_lt_two_pow ?_ h2
    rw [List.getD_eq_getElem?_getD]
    cases hg : f[x / 8]? with
    | none => simp
    | some y => exact h y (List.mem_of_getElem? hg)
/-- Is a bit set? -/
def on (f : List Nat) (x : Nat) : Bool := (f.getD (x / 8) 0).testBit (x % 8)
theorem on_setB {f : List Nat} {x y : Nat} (hx : x / 8 < f.length) : on (setB f x) y = (on f y || decide (y = x)) := by
  unfold on setB
  rw [List.getD_eq_getElem?_getD, List.getElem?_set]
  by_cases h : x / 8 = y / 8
  · rw [if_pos h, if_pos hx, Option.getD_some, Nat.testBit_or, Nat.testBit_two_pow, h]
    congr 1
    rw [Bool.eq_iff_iff, decide_eq_true_iff, decide_eq_true_iff]
    omega
  · rw [if_neg h, ← List.getD_eq_getElem?_getD]
    have : decide (y = x) = false := decide_eq_false fun e => h (by rw [e])
    rw [this, Bool.or_false]
/-- A key's bits. -/
def addN (m : Nat) (f : List Nat) (h d : Nat) : Nat → List Nat
  | 0 => f
  | j + 1 => setB (addN m f h d j) (nth h d j % m)
theorem addN_len (m : Nat) (f : List Nat) (h d : Nat) : ∀ n, (addN m f h d n).length = f.length
  | 0 => rfl
  | n + 1 => (setB_len _ _).trans (addN_len m f h d n)
theorem addN_byte {m : Nat} {f : List Nat} {h d : Nat} (hf : ∀ c, c ∈ f → c < 256) : ∀ n, ∀ c, c ∈ addN m f h d n → c < 256
  | 0 => hf
  | n + 1 => setB_byte (addN_byte hf n)
theorem place_in {m n x : Nat} (hm : 0 < m) (hn : m ≤ 8 * n) : x % m / 8 < n := by
  have := Nat.mod_lt x hm
  omega
theorem on_addN {m : Nat} {f : List Nat} {h d y : Nat} (hm : 0 < m) (hn : m ≤ 8 * f.length) : ∀ n, on (addN m f h d n) y = true ↔ on f y = true ∨ ∃ j, j < n ∧ y = nth h d j % m
  | 0 => by simp [addN]
  | n + 1 => by
    show on (setB (addN m f h d n) (nth h d n % m)) y = true ↔ _
    rw [on_setB (by rw [addN_len]; exact place_in hm hn), Bool.or_eq_true, decide_eq_true_iff, on_addN hm hn n]
    constructor
    · rintro ((h1 | ⟨j, h1, h2⟩) | h1)
      · exact .inl h1
      · exact .inr ⟨j, by omega, h2⟩
      · exact .inr ⟨n, by omega, h1⟩
    · rintro (h1 | ⟨j, h1, h2⟩)
      · exact .inl (.inl h1)
      · by_cases hj : j = n
        · subst hj; exact .inr h2
        · exact .inl (.inr ⟨j, by omega, h2⟩)
def addK (m k : Nat) (f key : List Nat) : List Nat := addN m f (hsh key) (rot (hsh key)) k
theorem on_addK {m k : Nat} {f key : List Nat} {y : Nat} (hm : 0 < m) (hn : m ≤ 8 * f.length) : on (addK m k f key) y = true ↔ on f y = true ∨ ∃ j, j < k ∧ y = nth (hsh key) (rot (hsh key)) j % m := on_addN hm hn k
theorem addK_len (m k : Nat) (f key : List Nat) : (addK m k f key).length = f.length := addN_len ..
/-- All keys' bits. -/
def addA (m k : Nat) (f : List Nat) (keys : List (List Nat)) : List Nat := keys.foldl (addK m k) f
theorem addA_len (m k : Nat) : ∀ (keys : List (List Nat)) (f : List Nat), (addA m k f keys).length = f.length
  | [], f => rfl
  | x :: l, f => (addA_len m k l _).trans (addK_len ..)
theorem addA_byte {m k : Nat} : ∀ (keys : List (List Nat)) (f : List Nat), (∀ c, c ∈ f → c < 256) → ∀ c, c ∈ addA m k f keys → c < 256
  | [], f => fun h => h
  | x :: l, f => fun h => addA_byte l _ (addN_byte h k)
theorem addA_next {m k : Nat} {f : List Nat} {keys : List (List Nat)} {j : Nat} {x : List Nat} (h : keys[j]? = some x) : addA m k f (keys.take (j + 1)) = addK m k (addA m k f (keys.take j)) x := by
  unfold addA
  rw [List.take_add_one, h, List.foldl_append, Option.toList_some, List.foldl_cons, List.foldl_nil]
theorem on_addA {m k : Nat} {y : Nat} (hm : 0 < m) : ∀ (keys : List (List Nat)) (f : List Nat), m ≤ 8 * f.length → (on (addA m k f keys) y = true ↔ on f y = true ∨ ∃ key, key ∈ keys ∧ ∃ j, j < k ∧ y = nth (hsh key) (rot (hsh key)) j % m)
  | [], f => fun _ => by simp [addA]
  | x :: l, f => fun hn => by
    show on (addA m k (addK m k f x) l) y = true ↔ _
    rw [on_addA hm l _ (by rw [addK_len]; exact hn), on_addK hm hn]
    constructor
    · rintro ((h1 | h1) | ⟨key, h1, h2⟩)
      · exact .inl h1
      · exact .inr ⟨x, by simp, h1⟩
      · exact .inr ⟨key, by simp [h1], h2⟩
    · rintro (h1 | ⟨key, h1, h2⟩)
      · exact .inl (.inl h1)
      · rcases List.mem_cons.1 h1 with rfl | h1
        · exact .inl (.inr h2)
        · exact .inr ⟨key, h1, h2⟩
/-- How many bits a key sets, and how many bits there are. -/
def kOf (bits : Nat) : Nat := min (max (bits * 69 / 100) 1) 30
def mOf (n bits : Nat) : Nat := (max (n * bits) 64 + 7) / 8 * 8
theorem kOf_in (bits : Nat) : 1 ≤ kOf bits ∧ kOf bits ≤ 30 := by unfold kOf; omega
theorem mOf_in (n bits : Nat) : 64 ≤ mOf n bits ∧ 8 * (mOf n bits / 8) = mOf n bits := by unfold mOf; omega
/-- A number of bits within its limits. -/
def clampB (b : Int) : Nat := (min (max b 1) 40).toNat
theorem clampB_in (b : Int) : 1 ≤ clampB b ∧ clampB b ≤ 40 := by unfold clampB; omega
/-- A filter. -/
def zeroB (n : Nat) : List Nat := List.replicate n 0
def bloomB (keys : List (List Nat)) (bits : Nat) : List Nat := addA (mOf keys.length bits) (kOf bits) (zeroB (mOf keys.length bits / 8)) keys ++ [kOf bits]
theorem bloomB_len (keys : List (List Nat)) (bits : Nat) : (bloomB keys bits).length = mOf keys.length bits / 8 + 1 := by
  unfold bloomB zeroB
  rw [List.length_append, addA_len, List.length_replicate]
  rfl
theorem bloomB_byte (keys : List (List Nat)) (bits : Nat) : ∀ c, c ∈ bloomB keys bits → c < 256 := by
  intro c hc
  unfold bloomB at hc
  rcases List.mem_append.1 hc with h | h
  · refine addA_byte _ _ (fun c hc => ?_) c h
    unfold zeroB at hc
    rw [List.mem_replicate] at hc
    omega
  · have := kOf_in bits
    simp at h
    omega
theorem on_zero (n y : Nat) : on (zeroB n) y = false := by
  unfold on zeroB
  rw [List.getD_eq_getElem?_getD, List.getElem?_replicate]
  split <;> simp
/-- What a filter tells of a key. -/
def mayB (f key : List Nat) : Bool := decide (f.length < 2) || (decide (30 < f.getD (f.length - 1) 0) || (List.range (f.getD (f.length - 1) 0)).all fun j => on f (nth (hsh key) (rot (hsh key)) j % (8 * (f.length - 1))))
theorem on_front {f : List Nat} {x k : Nat} (h : x / 8 < f.length) : on (f ++ [k]) x = on f x := by
  unfold on
  rw [List.getD_eq_getElem?_getD, List.getElem?_append_left h, ← List.getD_eq_getElem?_getD]
theorem bloom_parts (keys : List (List Nat)) (bits : Nat) : (bloomB keys bits).getD ((bloomB keys bits).length - 1) 0 = kOf bits ∧ 8 * ((bloomB keys bits).length - 1) = mOf keys.length bits ∧ 2 ≤ (bloomB keys bits).length := by
  have h1 := bloomB_len keys bits
  have h2 := mOf_in keys.length bits
  refine ⟨?_, by omega, by omega⟩
  rw [h1]
  unfold bloomB
  rw [List.getD_eq_getElem?_getD, List.getElem?_append_right (by rw [addA_len]; simp [zeroB])]
  rw [addA_len]
  simp [zeroB]
theorem bloom_on {keys : List (List Nat)} {bits y : Nat} (hy : y < mOf keys.length bits) : on (bloomB keys bits) y = true ↔ ∃ key, key ∈ keys ∧ ∃ j, j < kOf bits ∧ y = nth (hsh key) (rot (hsh key)) j % mOf keys.length bits := by
  have h2 := mOf_in keys.length bits
  unfold bloomB
  rw [on_front (by rw [addA_len]; simp [zeroB]; omega), on_addA (by omega) _ _ (by simp [zeroB]; omega), on_zero]
  simp
theorem bloom_may {keys : List (List Nat)} {bits : Nat} {key : List Nat} (h : key ∈ keys) : mayB (bloomB keys bits) key = true := by
  obtain ⟨h1, h2, h3⟩ := bloom_parts keys bits
  have h4 := kOf_in bits
  have h5 := mOf_in keys.length bits
  unfold mayB
  rw [h1, h2, decide_eq_false (by omega), decide_eq_false (by omega), Bool.false_or, Bool.false_or, List.all_eq_true]
  intro j hj
  rw [List.mem_range] at hj
  exact (bloom_on (Nat.mod_lt _ (by omega))).2 ⟨key, h, j, hj, rfl⟩
/-- The bits of a filter of one key, again and again, are bits of the filter of all. -/
theorem bloom_more {keys : List (List Nat)} {bits : Nat} {x : List Nat} (h : x ∈ keys) {i : Nat} (hi : i < mOf keys.length bits / 8) :
    ∀ b, b < 8 → ((bloomB (List.replicate keys.length x) bits).getD i 0).testBit b = true → ((bloomB keys bits).getD i 0).testBit b = true := by
  intro b hb h1
  have h5 := mOf_in keys.length bits
  have e : ∀ f : List Nat, on f (8 * i + b) = (f.getD i 0).testBit b := fun f => by
    unfold on
    rw [show (8 * i + b) / 8 = i from by omega, show (8 * i + b) % 8 = b from by omega]
  rw [← e] at h1 ⊢
  have hl : (List.replicate keys.length x).length = keys.length := List.length_replicate ..
  rw [bloom_on (by rw [hl]; omega), hl] at h1
  rw [bloom_on (by omega)]
  obtain ⟨key, h2, h3⟩ := h1
  rw [List.mem_replicate] at h2
  rw [h2.2] at h3
  exact ⟨x, h, h3⟩
/-- How many bits are set. -/
def cntB (f : List Nat) (n : Nat) : Nat := (List.range n).countP fun x => on f x
theorem cntB_next (f : List Nat) (n : Nat) : cntB f (n + 1) = cntB f n + (if on f n = true then 1 else 0) := by
  unfold cntB
  rw [List.range_succ, List.countP_append]
  simp [List.countP_cons]
theorem cntB_set {f : List Nat} {x : Nat} (hx : x / 8 < f.length) (n : Nat) : cntB (setB f x) n ≤ cntB f n + (if x < n then 1 else 0) := by
  induction n with
  | zero => simp [cntB]
  | succ n ih =>
    rw [cntB_next, cntB_next, on_setB hx]
    by_cases h : n = x
    · subst h
      rw [if_neg (Nat.lt_irrefl _)] at ih
      rw [if_pos (Nat.lt_succ_self _)]
      split <;> split <;> omega
    · rw [decide_eq_false h, Bool.or_false]
      generalize (if on f n = true then 1 else 0) = o
      by_cases h2 : x < n
      · have h3 : x < n + 1 := by omega
        rw [if_pos h2] at ih
        rw [if_pos h3]
        omega
      · have h3 : ¬ x < n + 1 := by omega
        rw [if_neg h2] at ih
        rw [if_neg h3]
        omega
theorem cntB_addN {m : Nat} {f : List Nat} {h d : Nat} (hm : 0 < m) (hn : m ≤ 8 * f.length) (n : Nat) : ∀ j, cntB (addN m f h d j) n ≤ cntB f n + j
  | 0 => Nat.le_refl _
  | j + 1 => by
    have h1 := cntB_set (f := addN m f h d j) (x := nth h d j % m) (by rw [addN_len]; exact place_in hm hn) n
    have h2 := cntB_addN hm hn (h := h) (d := d) n j
    show cntB (setB (addN m f h d j) (nth h d j % m)) n ≤ _
    split at h1 <;> omega
theorem cntB_addA {m k : Nat} (hm : 0 < m) (n : Nat) : ∀ (keys : List (List Nat)) (f : List Nat), m ≤ 8 * f.length → cntB (addA m k f keys) n ≤ cntB f n + k * keys.length
  | [], f => fun _ => by simp [addA]
  | x :: l, f => fun hn => by
    have h1 := cntB_addN (h := hsh x) (d := rot (hsh x)) hm hn n k
    have h2 := cntB_addA hm n (k := k) l (addK m k f x) (by rw [addK_len]; exact hn)
    show cntB (addA m k (addK m k f x) l) n ≤ _
    have h3 : cntB (addK m k f x) n ≤ cntB f n + k := h1
    rw [List.length_cons, Nat.mul_succ]
    omega
theorem cntB_zero (a n : Nat) : cntB (zeroB a) n = 0 := by
  unfold cntB
  rw [List.countP_eq_zero]
  intro x _
  rw [on_zero]
  decide
theorem cntB_front (f : List Nat) (k n : Nat) (h : n ≤ 8 * f.length) : cntB (f ++ [k]) n = cntB f n := by
  unfold cntB
  refine List.countP_congr fun x hx => ?_
  rw [List.mem_range] at hx
  rw [on_front (by omega)]
theorem bloom_count (keys : List (List Nat)) (bits : Nat) : cntB (bloomB keys bits) (mOf keys.length bits) ≤ kOf bits * keys.length := by
  have h5 := mOf_in keys.length bits
  unfold bloomB
  rw [cntB_front _ _ _ (by rw [addA_len]; simp [zeroB]; omega)]
  have := cntB_addA (m := mOf keys.length bits) (k := kOf bits) (by omega) (mOf keys.length bits) keys (zeroB (mOf keys.length bits / 8)) (by simp [zeroB]; omega)
  rw [cntB_zero] at this
  omega
end Go.Proofs.Ytndkehadboekbaa.Bl
