/- Package bloom and the document: filters. -/
import Derived.Test.YtobjiamdljjkjaaLift
import Derived.Test.YtobjiamdljjkjaaByt
import Derived.Test.YtobjiamdljjkjaaOwn
import Derived.Laws.BitsAllLaws
import Derived.Deep.RegionHeld3
import Derived.Deep.QuietTactic
import Derived.BigQuiet
import Derived.LoopTactic
import Derived.Deep.DeepCutAuto
import Derived.Test.YtobjiamdljjkjaaSeqs
import Derived.Test.YtobjiamdljjkjaaCut
import Derived.RangeFuncNested
import Derived.RangeFuncBound
import Derived.RangeFuncCalls
import Derived.RangeFuncLeaves
import Derived.Shelf.Abstract
import Derived.Shelf.RegionOpen
import Derived.WalkKit
import Derived.OwnWalkIn
import Derived.TacticsInMore
import Derived.LoopNIn
import Derived.LoopIn
import Derived.Lib.MinMax
/- Plain mathematics of a filter: hashes, bits that are set, what a filter tells of a key. -/
namespace Go.Proofs.Ytobjiamdljjkjaa.Bl
set_option linter.unusedVariables false
set_option linter.unusedSimpArgs false
/-- One byte more in a hsh. -/
def fnv (h c : Nat) : Nat := ((h ^^^ c) * 16777619) % 4294967296
def hsh (key : List Nat) : Nat := key.foldl fnv 2166136261
theorem fnv_lt (h c : Nat) : fnv h c < 4294967296 := by unfold fnv; omega
theorem hsh_lt (key : List Nat) : hsh key < 4294967296 := by
  unfold hsh
  have : ∀ (l : List Nat) (h : Nat), h < 4294967296 → l.foldl fnv h < 4294967296 := by
    intro l
    induction l with
    | nil => intro h hh; rw [List.foldl_nil]; exact hh
    | cons c l ih => intro h _; rw [List.foldl_cons]; exact ih _ (fnv_lt h c)
  exact this _ _ (by omega)
theorem fold_one (l : List Nat) (c x : Nat) : (l ++ [c]).foldl fnv x = fnv (l.foldl fnv x) c := by rw [List.foldl_append, List.foldl_cons, List.foldl_nil]
theorem hsh_one (l : List Nat) (c : Nat) : hsh (l ++ [c]) = fnv (hsh l) c := by
  unfold hsh
  exact fold_one l c _
theorem hsh_next {key : List Nat} {j c : Nat} (h : key[j]? = some c) : hsh (key.take (j + 1)) = fnv (hsh (key.take j)) c := by
  have e : key.take (j + 1) = key.take j ++ [c] := by rw [List.take_add_one, h]; rfl
  rw [e]
  exact hsh_one _ c
/-- A hash, turned to the right by 17 bits. -/
def rot (h : Nat) : Nat := h / 131072 ||| h * 32768 % 4294967296
theorem rot_lt {h : Nat} (hh : h < 4294967296) : rot h < 4294967296 := by
  have h1 : h / 131072 < 2 ^ 32 := by omega
  have h2 : h * 32768 % 4294967296 < 2 ^ 32 := by omega
  have h3 := Nat.or_lt_two_pow h1 h2
  unfold rot
  omega
/-- The j-th place of a key, ahead of its rest. -/
def nth (h d j : Nat) : Nat := (h + j * d) % 4294967296
theorem nth_lt (h d j : Nat) : nth h d j < 4294967296 := by unfold nth; omega
theorem nth_zero {h d : Nat} (hh : h < 4294967296) : nth h d 0 = h := by unfold nth; rw [Nat.zero_mul, Nat.add_zero, Nat.mod_eq_of_lt hh]
theorem nth_next (h d j : Nat) : (nth h d j + d) % 4294967296 = nth h d (j + 1) := by
  unfold nth
  rw [Nat.mod_add_mod, Nat.succ_mul, Nat.add_assoc]
/-- A bit that is set. -/
def setB (f : List Nat) (x : Nat) : List Nat := f.set (x / 8) (f.getD (x / 8) 0 ||| 2 ^ (x % 8))
theorem setB_len (f : List Nat) (x : Nat) : (setB f x).length = f.length := List.length_set ..
theorem setB_byte {f : List Nat} {x : Nat} (h : ∀ c, c ∈ f → c < 256) : ∀ c, c ∈ setB f x → c < 256 := by
  intro c hc
  rcases List.mem_or_eq_of_mem_set hc with h1 | h1
  · exact h c h1
  · rw [h1]
    have h2 : 2 ^ (x % 8) < 2 ^ 8 := Nat.pow_lt_pow_right (by decide) (by omega)
    show _ < 2 ^ 8
    refine Nat.or_lt_two_pow ?_ h2
    rw [List.getD_eq_getElem?_getD]
    cases hg : f[x / 8]? with
    | none => simp
    | some y => exact h y (List.mem_of_getElem? hg)
/-- Is a bit set? -/
def on (f : List Nat) (x : Nat) : Bool := (f.getD (x / 8) 0).testBit (x % 8)
theorem on_setB {f : List Nat} {x y : Nat} (hx : x / 8 < f.length) : on (setB f x) y = (on f y || decide (y = x)) := by
  unfold on setB
  rw [List.getD_eq_getElem?_getD, List.getElem?_set]
  by_cases h : x / 8 = y / 8
  · rw [if_pos h, if_pos hx, Option.getD_some, Nat.testBit_or, Nat.testBit_two_pow, h]
    congr 1
    rw [Bool.eq_iff_iff, decide_eq_true_iff, decide_eq_true_iff]
    omega
  · rw [if_neg h, ← List.getD_eq_getElem?_getD]
    have : decide (y = x) = false := decide_eq_false fun e => h (by rw [e])
    rw [this, Bool.or_false]
/-- A key's bits. -/
def addN (m : Nat) (f : List Nat) (h d : Nat) : Nat → List Nat
  | 0 => f
  | j + 1 => setB (addN m f h d j) (nth h d j % m)
theorem addN_len (m : Nat) (f : List Nat) (h d : Nat) : ∀ n, (addN m f h d n).length = f.length
  | 0 => rfl
  | n + 1 => (setB_len _ _).trans (addN_len m f h d n)
theorem addN_byte {m : Nat} {f : List Nat} {h d : Nat} (hf : ∀ c, c ∈ f → c < 256) : ∀ n, ∀ c, c ∈ addN m f h d n → c < 256
  | 0 => hf
  | n + 1 => setB_byte (addN_byte hf n)
theorem place_in {m n x : Nat} (hm : 0 < m) (hn : m ≤ 8 * n) : x % m / 8 < n := by
  have := Nat.mod_lt x hm
  omega
theorem on_addN {m : Nat} {f : List Nat} {h d y : Nat} (hm : 0 < m) (hn : m ≤ 8 * f.length) : ∀ n, on (addN m f h d n) y = true ↔ on f y = true ∨ ∃ j, j < n ∧ y = nth h d j % m
  | 0 => by simp [addN]
  | n + 1 => by
    show on (setB (addN m f h d n) (nth h d n % m)) y = true ↔ _
    rw [on_setB (by rw [addN_len]; exact place_in hm hn), Bool.or_eq_true, decide_eq_true_iff, on_addN hm hn n]
    constructor
    · rintro ((h1 | ⟨j, h1, h2⟩) | h1)
      · exact .inl h1
      · exact .inr ⟨j, by omega, h2⟩
      · exact .inr ⟨n, by omega, h1⟩
    · rintro (h1 | ⟨j, h1, h2⟩)
      · exact .inl (.inl h1)
      · by_cases hj : j = n
        · subst hj; exact .inr h2
        · exact .inl (.inr ⟨j, by omega, h2⟩)
def addK (m k : Nat) (f key : List Nat) : List Nat := addN m f (hsh key) (rot (hsh key)) k
theorem on_addK {m k : Nat} {f key : List Nat} {y : Nat} (hm : 0 < m) (hn : m ≤ 8 * f.length) : on (addK m k f key) y = true ↔ on f y = true ∨ ∃ j, j < k ∧ y = nth (hsh key) (rot (hsh key)) j % m := on_addN hm hn k
theorem addK_len (m k : Nat) (f key : List Nat) : (addK m k f key).length = f.length := addN_len ..
/-- All keys' bits. -/
def addA (m k : Nat) (f : List Nat) (keys : List (List Nat)) : List Nat := keys.foldl (addK m k) f
theorem addA_len (m k : Nat) : ∀ (keys : List (List Nat)) (f : List Nat), (addA m k f keys).length = f.length
  | [], f => rfl
  | x :: l, f => (addA_len m k l _).trans (addK_len ..)
theorem addA_byte {m k : Nat} : ∀ (keys : List (List Nat)) (f : List Nat), (∀ c, c ∈ f → c < 256) → ∀ c, c ∈ addA m k f keys → c < 256
  | [], f => fun h => h
  | x :: l, f => fun h => addA_byte l _ (addN_byte h k)
theorem addA_next {m k : Nat} {f : List Nat} {keys : List (List Nat)} {j : Nat} {x : List Nat} (h : keys[j]? = some x) : addA m k f (keys.take (j + 1)) = addK m k (addA m k f (keys.take j)) x := by
  unfold addA
  rw [List.take_add_one, h, List.foldl_append, Option.toList_some, List.foldl_cons, List.foldl_nil]
theorem on_addA {m k : Nat} {y : Nat} (hm : 0 < m) : ∀ (keys : List (List Nat)) (f : List Nat), m ≤ 8 * f.length → (on (addA m k f keys) y = true ↔ on f y = true ∨ ∃ key, key ∈ keys ∧ ∃ j, j < k ∧ y = nth (hsh key) (rot (hsh key)) j % m)
  | [], f => fun _ => by simp [addA]
  | x :: l, f => fun hn => by
    show on (addA m k (addK m k f x) l) y = true ↔ _
    rw [on_addA hm l _ (by rw [addK_len]; exact hn), on_addK hm hn]
    constructor
    · rintro ((h1 | h1) | ⟨key, h1, h2⟩)
      · exact .inl h1
      · exact .inr ⟨x, by simp, h1⟩
      · exact .inr ⟨key, by simp [h1], h2⟩
    · rintro (h1 | ⟨key, h1, h2⟩)
      · exact .inl (.inl h1)
      · rcases List.mem_cons.1 h1 with rfl | h1
        · exact .inl (.inr h2)
        · exact .inr ⟨key, h1, h2⟩
/-- How many bits a key sets, and how many bits there are. -/
def kOf (bits : Nat) : Nat := min (max (bits * 69 / 100) 1) 30
def mOf (n bits : Nat) : Nat := (max (n * bits) 64 + 7) / 8 * 8
theorem kOf_in (bits : Nat) : 1 ≤ kOf bits ∧ kOf bits ≤ 30 := by unfold kOf; omega
theorem mOf_in (n bits : Nat) : 64 ≤ mOf n bits ∧ 8 * (mOf n bits / 8) = mOf n bits := by unfold mOf; omega
/-- A number of bits within its limits. -/
def clampB (b : Int) : Nat := (min (max b 1) 40).toNat
theorem clampB_in (b : Int) : 1 ≤ clampB b ∧ clampB b ≤ 40 := by unfold clampB; omega
/-- A filter. -/
def zeroB (n : Nat) : List Nat := List.replicate n 0
def bloomB (keys : List (List Nat)) (bits : Nat) : List Nat := addA (mOf keys.length bits) (kOf bits) (zeroB (mOf keys.length bits / 8)) keys ++ [kOf bits]
theorem bloomB_len (keys : List (List Nat)) (bits : Nat) : (bloomB keys bits).length = mOf keys.length bits / 8 + 1 := by
  unfold bloomB zeroB
  rw [List.length_append, addA_len, List.length_replicate]
  rfl
theorem bloomB_byte (keys : List (List Nat)) (bits : Nat) : ∀ c, c ∈ bloomB keys bits → c < 256 := by
  intro c hc
  unfold bloomB at hc
  rcases List.mem_append.1 hc with h | h
  · refine addA_byte _ _ (fun c hc => ?_) c h
    unfold zeroB at hc
    rw [List.mem_replicate] at hc
    omega
  · have := kOf_in bits
    simp at h
    omega
theorem on_zero (n y : Nat) : on (zeroB n) y = false := by
  unfold on zeroB
  rw [List.getD_eq_getElem?_getD, List.getElem?_replicate]
  split <;> simp
/-- What a filter tells of a key. -/
def mayB (f key : List Nat) : Bool := decide (f.length < 2) || (decide (30 < f.getD (f.length - 1) 0) || (List.range (f.getD (f.length - 1) 0)).all fun j => on f (nth (hsh key) (rot (hsh key)) j % (8 * (f.length - 1))))
theorem on_front {f : List Nat} {x k : Nat} (h : x / 8 < f.length) : on (f ++ [k]) x = on f x := by
  unfold on
  rw [List.getD_eq_getElem?_getD, List.getElem?_append_left h, ← List.getD_eq_getElem?_getD]
theorem bloom_parts (keys : List (List Nat)) (bits : Nat) : (bloomB keys bits).getD ((bloomB keys bits).length - 1) 0 = kOf bits ∧ 8 * ((bloomB keys bits).length - 1) = mOf keys.length bits ∧ 2 ≤ (bloomB keys bits).length := by
  have h1 := bloomB_len keys bits
  have h2 := mOf_in keys.length bits
  refine ⟨?_, by omega, by omega⟩
  rw [h1]
  unfold bloomB
  rw [List.getD_eq_getElem?_getD, List.getElem?_append_right (by rw [addA_len]; simp [zeroB])]
  rw [addA_len]
  simp [zeroB]
theorem bloom_on {keys : List (List Nat)} {bits y : Nat} (hy : y < mOf keys.length bits) : on (bloomB keys bits) y = true ↔ ∃ key, key ∈ keys ∧ ∃ j, j < kOf bits ∧ y = nth (hsh key) (rot (hsh key)) j % mOf keys.length bits := by
  have h2 := mOf_in keys.length bits
  unfold bloomB
  rw [on_front (by rw [addA_len]; simp [zeroB]; omega), on_addA (by omega) _ _ (by simp [zeroB]; omega), on_zero]
  simp
theorem bloom_may {keys : List (List Nat)} {bits : Nat} {key : List Nat} (h : key ∈ keys) : mayB (bloomB keys bits) key = true := by
  obtain ⟨h1, h2, h3⟩ := bloom_parts keys bits
  have h4 := kOf_in bits
  have h5 := mOf_in keys.length bits
  unfold mayB
  rw [h1, h2, decide_eq_false (by omega), decide_eq_false (by omega), Bool.false_or, Bool.false_or, List.all_eq_true]
  intro j hj
  rw [List.mem_range] at hj
  exact (bloom_on (Nat.mod_lt _ (by omega))).2 ⟨key, h, j, hj, rfl⟩
/-- The bits of a filter of one key, again and again, are bits of the filter of all. -/
theorem bloom_more {keys : List (List Nat)} {bits : Nat} {x : List Nat} (h : x ∈ keys) {i : Nat} (hi : i < mOf keys.length bits / 8) :
    ∀ b, b < 8 → ((bloomB (List.replicate keys.length x) bits).getD i 0).testBit b = true → ((bloomB keys bits).getD i 0).testBit b = true := by
  intro b hb h1
  have h5 := mOf_in keys.length bits
  have e : ∀ f : List Nat, on f (8 * i + b) = (f.getD i 0).testBit b := fun f => by
    unfold on
    rw [show (8 * i + b) / 8 = i from by omega, show (8 * i + b) % 8 = b from by omega]
  rw [← e] at h1 ⊢
  have hl : (List.replicate keys.length x).length = keys.length := List.length_replicate ..
  rw [bloom_on (by rw [hl]; omega), hl] at h1
  rw [bloom_on (by omega)]
  obtain ⟨key, h2, h3⟩ := h1
  rw [List.mem_replicate] at h2
  rw [h2.2] at h3
  exact ⟨x, h, h3⟩
/-- How many bits are set. -/
def cntB (f : List Nat) (n : Nat) : Nat := (List.range n).countP fun x => on f x
theorem cntB_next (f : List Nat) (n : Nat) : cntB f (n + 1) = cntB f n + (if on f n = true then 1 else 0) := by
  unfold cntB
  rw [List.range_succ, List.countP_append]
  simp [List.countP_cons]
theorem cntB_set {f : List Nat} {x : Nat} (hx : x / 8 < f.length) (n : Nat) : cntB (setB f x) n ≤ cntB f n + (if x < n then 1 else 0) := by
  induction n with
  | zero => simp [cntB]
  | succ n ih =>
    rw [cntB_next, cntB_next, on_setB hx]
    by_cases h : n = x
    · subst h
      rw [if_neg (Nat.lt_irrefl _)] at ih
      rw [if_pos (Nat.lt_succ_self _)]
      split <;> split <;> omega
    · rw [decide_eq_false h, Bool.or_false]
      generalize (if on f n = true then 1 else 0) = o
      by_cases h2 : x < n
      · have h3 : x < n + 1 := by omega
        rw [if_pos h2] at ih
        rw [if_pos h3]
        omega
      · have h3 : ¬ x < n + 1 := by omega
        rw [if_neg h2] at ih
        rw [if_neg h3]
        omega
theorem cntB_addN {m : Nat} {f : List Nat} {h d : Nat} (hm : 0 < m) (hn : m ≤ 8 * f.length) (n : Nat) : ∀ j, cntB (addN m f h d j) n ≤ cntB f n + j
  | 0 => Nat.le_refl _
  | j + 1 => by
    have h1 := cntB_set (f := addN m f h d j) (x := nth h d j % m) (by rw [addN_len]; exact place_in hm hn) n
    have h2 := cntB_addN hm hn (h := h) (d := d) n j
    show cntB (setB (addN m f h d j) (nth h d j % m)) n ≤ _
    split at h1 <;> omega
theorem cntB_addA {m k : Nat} (hm : 0 < m) (n : Nat) : ∀ (keys : List (List Nat)) (f : List Nat), m ≤ 8 * f.length → cntB (addA m k f keys) n ≤ cntB f n + k * keys.length
  | [], f => fun _ => by simp [addA]
  | x :: l, f => fun hn => by
    have h1 := cntB_addN (h := hsh x) (d := rot (hsh x)) hm hn n k
    have h2 := cntB_addA hm n (k := k) l (addK m k f x) (by rw [addK_len]; exact hn)
    show cntB (addA m k (addK m k f x) l) n ≤ _
    have h3 : cntB (addK m k f x) n ≤ cntB f n + k := h1
    rw [List.length_cons, Nat.mul_succ]
    omega
theorem cntB_zero (a n : Nat) : cntB (zeroB a) n = 0 := by
  unfold cntB
  rw [List.countP_eq_zero]
  intro x _
  rw [on_zero]
  decide
theorem cntB_front (f : List Nat) (k n : Nat) (h : n ≤ 8 * f.length) : cntB (f ++ [k]) n = cntB f n := by
  unfold cntB
  refine List.countP_congr fun x hx => ?_
  rw [List.mem_range] at hx
  rw [on_front (by omega)]
theorem bloom_count (keys : List (List Nat)) (bits : Nat) : cntB (bloomB keys bits) (mOf keys.length bits) ≤ kOf bits * keys.length := by
  have h5 := mOf_in keys.length bits
  unfold bloomB
  rw [cntB_front _ _ _ (by rw [addA_len]; simp [zeroB]; omega)]
  have := cntB_addA (m := mOf keys.length bits) (k := kOf bits) (by omega) (mOf keys.length bits) keys (zeroB (mOf keys.length bits / 8)) (by simp [zeroB]; omega)
  rw [cntB_zero] at this
  omega
end Go.Proofs.Ytobjiamdljjkjaa.Bl

/- The document's hash. -/
namespace Go.Proofs.Ytobjiamdljjkjaa.Bl
set_option linter.unusedVariables false
set_option linter.unusedSimpArgs false
open Go.RowKit Lift Ik
theorem fnv_int {H d : Nat} (hH : H < 4294967296) (hd : d < 256) : IntKind.u32.wrap (bits .xor .u32 (H : Int) (d : Int) * 16777619) = ((fnv H d : Nat) : Int) := by
  rw [u32_xor_nat H d hH (by omega), IntKind.wrap_u32]
  unfold fnv
  generalize H ^^^ d = x
  omega
theorem rot_int {h : Nat} (hh : h < 4294967296) : bits .or .u32 ((h : Int) / 131072) ((h : Int) * 32768 % 4294967296) = ((rot h : Nat) : Int) := by
  have e1 : (h : Int) / 131072 = ((h / 131072 : Nat) : Int) := by omega
  have e2 : (h : Int) * 32768 % 4294967296 = ((h * 32768 % 4294967296 : Nat) : Int) := by omega
  rw [e1, e2, u32_or_nat _ _ (by omega) (by omega)]
  rfl
theorem bit_int {b z : Nat} (hb : b < 256) : bits .and .u8 ((b : Int) / 2 ^ z) 1 = ((if b.testBit z = true then 1 else 0 : Nat) : Int) := by
  have e1 : (b : Int) / 2 ^ z = ((b / 2 ^ z : Nat) : Int) := by
    rw [show (2 : Int) ^ z = ((2 ^ z : Nat) : Int) from by rw [Int.natCast_pow]; rfl]
    exact (Int.natCast_ediv _ _).symm
  have h1 : b / 2 ^ z ≤ b := Nat.div_le_self _ _
  have h2 := u8_and_nat (b / 2 ^ z) 1 (by omega) (by omega)
  rw [e1, show (1 : Int) = ((1 : Nat) : Int) from rfl, h2, Nat.and_one_is_mod, Nat.testBit_eq_decide_div_mod_eq]
  by_cases h : b / 2 ^ z % 2 = 1
  · rw [h]; rfl
  · have : b / 2 ^ z % 2 = 0 := by omega
    rw [this]; rfl
theorem take_all (l : List Nat) : l.take l.length = l := List.take_length
end Go.Proofs.Ytobjiamdljjkjaa.Bl

/- The document's filter: Bloom. -/
namespace Go.Proofs.Ytobjiamdljjkjaa.Bl
set_option linter.unusedVariables false
set_option linter.unusedSimpArgs false
open Go.RowKit Lift Ik Sq
theorem own_put {w : World} {base gb n c j e size : Nat} {xs : List Value} {u : Value} (h : w.ownsRow base e size (.slice (some ⟨gb, 0, none⟩) n c) n xs) (hj : j < xs.length) : (w.setCell ⟨gb, j, none⟩ u).ownsRow base e size (.slice (some ⟨gb, 0, none⟩) n c) n (xs.set j u) := by
  refine ⟨by rw [List.length_set]; exact h.1, ?_⟩
  rcases h.2 with ⟨h0, _⟩ | ⟨g, cap, cur, hv, hB, hh, h1, h2, h3, h4⟩
  · cases h0
  · injection hv with e1 e2 e3
    injection e1 with e1
    injection e1 with e1
    subst e1 e3
    refine .inr ⟨gb, c, (cur.toList.set j u).toArray, rfl, hB, ?_, h1, h2, by simpa using h3, ?_⟩
    · rw [heap_setCell_same w gb j _ _ _ hh]
      have e : cur.setIfInBounds j u = (cur.toList.set j u).toArray := Array.toList_inj.1 (by simp)
      rw [e]
    · have hlt : j < n * size := by rw [h.1] at hj; exact hj
      rw [← h4, List.take_set]
theorem own_free {w : World} {base gb n c e size : Nat} {xs : List Value} (h : w.ownsRow base e size (.slice (some ⟨gb, 0, none⟩) n c) n xs) (j : Nat) : w.frozen? ⟨gb, j, none⟩ = false := by
  rcases h.2 with ⟨h0, _⟩ | ⟨g, cap, cur, hv, hB, hh, _⟩
  · cases h0
  · injection hv with e1 e2 e3
    injection e1 with e1
    injection e1 with e1
    subst e1
    exact frozen_of_row w gb j _ _ hh
theorem add_zero_at (g j : Nat) : Addr.add ⟨g, 0, none⟩ j = ⟨g, j, none⟩ := by unfold Addr.add; split <;> simp_all
theorem betw_any (n : Int) (b t : Nat) (hb : 1 ≤ b) (ht : (t : Int) = min (max n 1) b) (w : World) : Calls Try.prog 36 #[.int .i64 n, .int .i64 1, .int .i64 (b : Int)] w fun e w' => e = .returned (.int .i64 (t : Int)) ∧ w = w' := by
  by_cases h1 : n < 1
  · have d1 : decide (n < 1) = true := decide_eq_true h1
    have E := Lib.hid (show (t : Int) = 1 by omega)
    clear ht
    go_enter Try.func36, Try.ntmps36
    go_wp2_with fail
    go_ret
    exact ⟨by rw [E.out]; rfl, rfl⟩
  · have d1 : decide (n < 1) = false := decide_eq_false h1
    by_cases h2 : (b : Int) < n
    · have d2 : decide ((b : Int) < n) = true := decide_eq_true h2
      have E := Lib.hid (show (t : Int) = b by omega)
      clear ht
      go_enter Try.func36, Try.ntmps36
      go_wp2_with fail
      go_ret
      exact ⟨by rw [E.out]; rfl, rfl⟩
    · have d2 : decide ((b : Int) < n) = false := decide_eq_false h2
      have E := Lib.hid (show (t : Int) = n by omega)
      clear ht
      go_enter Try.func36, Try.ntmps36
      go_wp2_with fail
      go_ret
      exact ⟨by rw [E.out]; rfl, rfl⟩
theorem set_int {b z : Nat} (hb : b < 256) (hz : z < 8) : bits .or .u8 (b : Int) (2 ^ z % 256) = ((b ||| 2 ^ z : Nat) : Int) := by
  have h1 : 2 ^ z < 2 ^ 8 := Nat.pow_lt_pow_right (by decide) hz
  have h2 := u8_or_nat b (2 ^ z) hb (by omega)
  have h3 : (2 : Int) ^ z % 256 = ((2 ^ z : Nat) : Int) := by
    rw [show (2 : Int) ^ z = ((2 ^ z : Nat) : Int) from by rw [Int.natCast_pow]; rfl]
    exact (fun (p : Nat) (hp : p < 256) => (by omega : (p : Int) % 256 = (p : Int))) (2 ^ z) h1
  rw [h3]
  exact h2
end Go.Proofs.Ytobjiamdljjkjaa.Bl

/- The project's own hash, and the function that goes through a key's places. -/
namespace Go.Proofs.Ytobjiamdljjkjaa.Bl
set_option linter.unusedVariables false
set_option linter.unusedSimpArgs false
open Go.RowKit Lift Ik Sq
set_option maxRecDepth 100000 in
set_option maxHeartbeats 800000 in
theorem ohsh_at (A : Option Addr) (c B : Nat) (bs : List Nat) (w : World) (hl : Lies w B A (bs.map vb)) (hc : bs.length ≤ c) (hm : c ≤ maxLen) (h8 : ∀ x, x ∈ bs → x < 256) :
    Calls Try.prog 106 #[.slice A bs.length c] w fun e w' => e = .returned (.int .u32 (hsh bs : Nat)) ∧ w = w' := by
  have HL := Lib.hid hl
  have H8 := Lib.hid h8
  unfold maxLen at hm
  clear hl h8
  go_enter Try.func106, Try.ntmps106
  go_wp2_with fail
  go_loop [3, 8] (fun v i => ∃ j H : Nat, j ≤ bs.length ∧ v = .int .u32 (H : Int) ∧ i = .int .i64 (j : Int) ∧ H < 4294967296 ∧ Hid (H = hsh (bs.take j))) (fun _ i => bs.length + 1 - (intOf i).toNat)
  case atStart => exact ⟨0, 2166136261, Nat.zero_le _, rfl, rfl, by omega, Lib.hid rfl⟩
  case round =>
    obtain ⟨j, H, hj, rfl, rfl, hH, hrel⟩ := hrel
    by_cases hlt : j < bs.length
    · obtain ⟨d, hd⟩ : ∃ d, bs[j]? = some d := ⟨_, List.getElem?_eq_getElem hlt⟩
      obtain ⟨ad, rfl, -, hcell⟩ := HL.out.place (by rw [List.length_map]; omega)
      have g0 := cells_at hcell j d hd
      have hd8 := H8.out d (List.mem_of_getElem? hd)
      have e1 := fnv_int hH hd8
      have HN : Hid (fnv H d = hsh (bs.take (j + 1))) := Lib.hid (by rw [hsh_next hd, hrel.out])
      have hf := fnv_lt H d
      clear hcell hd
      generalize fnv H d = F at *
      go_wp2_with fail
      go_round
      case rel => exact ⟨j + 1, F, by omega, by first | rfl | rw [e1], by go_num, hf, HN⟩
      case measure => simp [intOf]; omega
    · obtain rfl : j = bs.length := by omega
      have HN : Hid (H = hsh bs) := Lib.hid (by rw [hrel.out, take_all])
      go_wp2_with fail
      go_ret
      exact ⟨by rw [← HN.out]; rfl, rfl⟩
theorem ohsh_any (A : Option Addr) (c B : Nat) (bs : List Nat) (w : World) (hl : Lies w B A (bs.map vb)) (hB : B ≤ w.heap.size) (hc : bs.length ≤ c) (hm : c ≤ maxLen) (h8 : ∀ x, x ∈ bs → x < 256) :
    Calls Try.prog 106 #[.slice A bs.length c] w fun e w' => e = .returned (.int .u32 (hsh bs : Nat)) ∧ Below w.heap.size w w' :=
  (ohsh_at A c B bs w hl hc hm h8).mono fun e w' ⟨h1, h2⟩ => ⟨h1, h2 ▸ Below.refl _ _⟩
theorem rotl_int {h : Nat} (hh : h < 4294967296) : bits .or .u32 ((h : Int) * 32768 % 4294967296) ((h : Int) / 131072) = ((rot h : Nat) : Int) := by
  have e1 : (h : Int) / 131072 = ((h / 131072 : Nat) : Int) := by omega
  have e2 : (h : Int) * 32768 % 4294967296 = ((h * 32768 % 4294967296 : Nat) : Int) := by omega
  rw [e1, e2, u32_or_nat _ _ (by omega) (by omega), Nat.or_comm]
  rfl
set_option maxRecDepth 100000 in
set_option maxHeartbeats 800000 in
theorem rotl_any {h : Nat} (hh : h < 4294967296) (w : World) : Calls Try.prog 93 #[.int .u32 (h : Int), .int .i64 (-17)] w fun e w' => e = .returned (.int .u32 (rot h : Nat)) ∧ w = w' := by
  have e1 := rotl_int hh
  have e2 : bits .and .u64 (IntKind.u64.wrap (-17)) 31 = 15 := by kernel_rfl
  go_enter Try.func93, Try.ntmps93
  go_wp2_with fail
  go_ret
  exact ⟨by first | rfl | rw [e1], rfl⟩
/-- The world behind a call of places: four variables of its own. -/
def four (w : World) (k size h d : Nat) : World :=
  (((w.alloc (.cells #[.int .i64 (k : Int)] 3)).alloc (.cells #[.int .u64 ((8 * size : Nat) : Int)] 36)).alloc (.cells #[.int .u32 (h : Int)] 66)).alloc (.cells #[.int .u32 (d : Int)] 66)
abbrev box4 (b : Nat) : Array Value := #[.pointer (some ⟨b + 1 + 1, 0, none⟩), .pointer (some ⟨b, 0, none⟩), .pointer (some ⟨b + 1, 0, none⟩), .pointer (some ⟨b + 1 + 1 + 1, 0, none⟩)]
set_option maxRecDepth 100000 in
set_option maxHeartbeats 800000 in
theorem places_any (A : Option Addr) (c B k size : Nat) (ky : List Nat) (w : World) (hl : Lies w B A (ky.map vb)) (hB : B ≤ w.heap.size) (hc : ky.length ≤ c) (hm : c ≤ maxLen) (h8 : ∀ x, x ∈ ky → x < 256) (hs : size ≤ 10000000) (hk : k ≤ 1000) :
    Calls Try.prog 85 #[.slice A ky.length c, .int .i64 (k : Int), .int .i64 (size : Int)] w fun e w' => e = .returned (.func (.func 107) #[] (box4 w.heap.size)) ∧ w' = four w k size (hsh ky) (rot (hsh ky)) := by
  have hb2 := Joins.below_alloc1 w (.cells #[.int .i64 (k : Int)] 3)
  have HH := Lib.hid fun (W : World) (hW : Below w.heap.size w W) => ohsh_at A c w.heap.size ky W ((hl.up hB).below hW) hc hm h8
  have HR := Lib.hid (fun (W : World) => rotl_any (hsh_lt ky) W)
  have hhl := hsh_lt ky
  clear hl h8
  have e1 : (size : Int) * 8 = ((8 * size : Nat) : Int) := by omega
  have HE := Lib.hid e1
  unfold four
  generalize hsh ky = h at *
  generalize rot h = d at *
  generalize hN : 8 * size = N at *
  clear e1
  have e1 : (size : Int) * 8 = (N : Int) := HE.out
  have hN2 : N ≤ 80000000 := by omega
  clear hN
  go_enter Try.func85, Try.ntmps85
  go_wp2_with fail
  refine (HH.out _ ?_).mono ?_
  · exact ((Below.refl _ w).alloc (Nat.le_refl _) _).alloc (by simp) _
  rintro e w' ⟨rfl, rfl⟩
  clear HH
  go_wp2_with fail
  refine (HR.out _).mono ?_
  rintro e w' ⟨rfl, rfl⟩
  clear HR
  go_wp2_with fail
  go_ret
  exact ⟨rfl, rfl⟩
/-- A key's places, as they come. -/
def pls (m k h d : Nat) (hm : 0 < m) : List (Fin m) := (List.range k).map fun j => ⟨nth h d j % m, Nat.mod_lt _ hm⟩
theorem pls_len (m k h d : Nat) (hm : 0 < m) : (pls m k h d hm).length = k := by unfold pls; rw [List.length_map, List.length_range]
theorem pls_at {m k h d : Nat} (hm : 0 < m) {j : Nat} (hj : j < k) : (pls m k h d hm)[j]? = some ⟨nth h d j % m, Nat.mod_lt _ hm⟩ := by unfold pls; rw [List.getElem?_map, List.getElem?_range hj]; rfl
theorem pls_next {m k h d : Nat} (hm : 0 < m) {j : Nat} (hj : j < k) : (pls m k h d hm).take (j + 1) = (pls m k h d hm).take j ++ [⟨nth h d j % m, Nat.mod_lt _ hm⟩] := by
  rw [List.take_add_one, pls_at hm hj]; rfl
/-- What lies in the blocks from lo to below hi stays. -/
def Mid (lo hi : Nat) (W W' : World) : Prop := ∀ p : Addr, lo ≤ p.block → p.block < hi → W'.cell? p = W.cell? p
theorem mid_t {lo hi : Nat} {A B C : World} (h : Mid lo hi A B) (k : Mid lo hi B C) : Mid lo hi A C := fun p h1 h2 => (k p h1 h2).trans (h p h1 h2)
theorem mid_refl (lo hi : Nat) (W : World) : Mid lo hi W W := fun _ _ _ => rfl
theorem mid_of {lo hi : Nat} {W W' : World} (h : Below hi W W') : Mid lo hi W W' := fun p _ h2 => h.cell h2
theorem mid_b {lo hi : Nat} {w : World} (hn : hi ≤ w.heap.size) (W : World) (l : Nat) (o o' : Obj) (hl : w.heap.size ≤ l) (h : W.heap[l]? = some o) (h2 : o.isCells = false) (h3 : o.isWalk = false) : Mid lo hi W (W.putObj l o') :=
  mid_of (belowK_b hn W l o o' hl h h2 h3)
set_option maxRecDepth 100000 in
set_option maxHeartbeats 1600000 in
/-- The function that goes through a key's places, whatever is done in a round that leaves its four variables alone. -/
theorem pls_in (n lo k m h d l : Nat) (hm : 0 < m) (hm8 : m ≤ 80000000) (hk : k ≤ 1000) (hh : h < 4294967296) (hd : d < 4294967296) (hn : 1 ≤ n) (J Jx : List (Fin m) → World → Prop)
    (hY : ∀ pre (x : Fin m) W, J pre W → pre.length < k → YieldAt Fence.wide (n - 1) Try.prog l #[.int .u64 ((x.val : Nat) : Int)] W fun e W' =>
      (e = .returned (.bool true) ∧ J (pre ++ [x]) W' ∧ Mid lo (lo + 4) W W') ∨ (e = .returned (.bool false) ∧ Jx (pre ++ [x]) W'))
    (W : World) (c0 : W.cell? ⟨lo, 0, none⟩ = some (.int .i64 (k : Int))) (c1 : W.cell? ⟨lo + 1, 0, none⟩ = some (.int .u64 (m : Int))) (c2 : W.cell? ⟨lo + 1 + 1, 0, none⟩ = some (.int .u32 (h : Int))) (c3 : W.cell? ⟨lo + 1 + 1 + 1, 0, none⟩ = some (.int .u32 (d : Int))) (h0 : J [] W) :
    CallsIn Fence.wide n Try.prog 107 (#[.func (.yield l) #[] #[]] ++ box4 lo) W fun e W' => (∃ v, e = .returned v) ∧
      ((∃ ys, ys = pls m k h d hm ∧ J ys W') ∨ (∃ pre, pre <+: pls m k h d hm ∧ Jx pre W')) := by
  have HZ := Lib.hid (nth_zero (h := h) (d := d) hh)
  have HY := Lib.hid hY
  have HC : Hid (W.cell? ⟨lo + 1, 0, none⟩ = some (.int .u64 (m : Int)) ∧ W.cell? ⟨lo + 1 + 1 + 1, 0, none⟩ = some (.int .u32 (d : Int))) := Lib.hid ⟨c1, c3⟩
  clear hY c1 c3
  refine callsIn_of_wp Try.func107 rfl trivial ?_ rfl
  simp only [Try.ntmps107, box4, List.size_toArray, List.length_cons, List.length_nil, Nat.reduceAdd, Nat.reduceSub, Array.replicate_succ, Array.replicate_zero, List.push_toArray, List.append_toArray, List.nil_append, List.cons_append]
  gi_wp2
  gi_loopw [6, 9] (fun at' i wr => ∃ j : Nat, j ≤ k ∧ at' = .int .u32 ((nth h d j : Nat) : Int) ∧ i = .int .i64 (j : Int) ∧ Hid (J ((pls m k h d hm).take j) wr) ∧ Hid (Mid lo (lo + 4) W wr)) (fun _ i _ => k + 1 - (intOf i).toNat)
  case atStart => exact ⟨0, Nat.zero_le _, by rw [HZ.out], rfl, Lib.hid h0, Lib.hid (mid_refl _ _ _)⟩
  case round =>
    obtain ⟨j, hj, rfl, rfl, hJ, hM⟩ := hrel
    by_cases hlt : j < k
    · obtain ⟨H, hH⟩ : ∃ H, H = nth h d j := ⟨_, rfl⟩
      have hXm : H % m < m := Nat.mod_lt _ hm
      obtain ⟨X, hX⟩ : ∃ X, X = H % m := ⟨_, rfl⟩
      have hXl : X < m := by rw [hX]; exact hXm
      have hnext : Hid ((pls m k h d hm).take (j + 1) = (pls m k h d hm).take j ++ [⟨X, hXl⟩]) := Lib.hid (by
        rw [pls_next hm hlt]
        simp only [hX, hH])
      have q0 : (H : Int) % (m : Int) = (X : Int) := by rw [hX]; exact (Int.natCast_emod _ _).symm
      have hH32 : H < 4294967296 := by rw [hH]; exact nth_lt _ _ _
      have e9 : ((H : Int) + (d : Int)) % 4294967296 = ((nth h d (j + 1) : Nat) : Int) := by rw [← nth_next, ← hH]; omega
      have c1 : wr.cell? ⟨lo + 1, 0, none⟩ = some (.int .u64 (m : Int)) := (hM.out ⟨lo + 1, 0, none⟩ (by show lo ≤ lo + 1; omega) (by show lo + 1 < lo + 4; omega)).trans HC.out.1
      have HM := hM
      have n0 : ¬ (m : Int) = 0 := by omega
      have hyy := HY.out _ ⟨X, hXl⟩ wr hJ.out (by rw [List.length_take, pls_len]; omega)
      rw [← hnext.out] at hyy
      have hN := Lib.hid (pls_len m k h d hm)
      rw [← hH]
      have HE := Lib.hid e9
      have hX32 : X < 4294967296 := by rw [hX]; exact Nat.lt_of_le_of_lt (Nat.mod_le _ _) hH32
      obtain ⟨fn, tmps, assign, body, hy, hR⟩ := hyy
      dsimp only at hy
      clear hX e9 hH
      gi_wp2
      refine hR.mono ?_
      rintro e W3 (⟨rfl, hJ3, hk3⟩ | ⟨rfl, hJx3⟩)
      · have c3 : W3.cell? ⟨lo + 1 + 1 + 1, 0, none⟩ = some (.int .u32 (d : Int)) := ((hk3 ⟨lo + 1 + 1 + 1, 0, none⟩ (by show lo ≤ lo + 1 + 1 + 1; omega) (by show lo + 1 + 1 + 1 < lo + 4; omega)).trans (hM.out ⟨lo + 1 + 1 + 1, 0, none⟩ (by show lo ≤ lo + 1 + 1 + 1; omega) (by show lo + 1 + 1 + 1 < lo + 4; omega))).trans HC.out.2
        have HK3 := Lib.hid (mid_t hM.out hk3)
        have HJ3 := Lib.hid hJ3
        clear hJ3 hk3
        have e9 := HE.out
        gi_wp2
        go_roundw
        case rel => exact ⟨j + 1, by omega, by first | rfl | rw [e9], by go_num, HJ3, HK3⟩
        case measure => simp [intOf]; omega
      · gi_wp2
        refine bodyPost_ret (results_none rfl _ _ _) rfl ?_
        exact ⟨⟨_, rfl⟩, .inr ⟨_, List.take_prefix _ _, hJx3⟩⟩
    · obtain rfl : j = k := by omega
      have hall : (pls m j h d hm).take j = pls m j h d hm := List.take_of_length_le (by rw [pls_len]; exact Nat.le_refl _)
      have hJ2 := hJ.out
      rw [hall] at hJ2
      have HJ2 := Lib.hid hJ2
      clear hJ2 hall
      gi_wp2
      go_end0
      exact ⟨⟨_, rfl⟩, .inl ⟨_, rfl, HJ2.out⟩⟩
theorem pls_stops (n lo k m h d : Nat) (hm : 0 < m) (hm8 : m ≤ 80000000) (hk : k ≤ 1000) (hh : h < 4294967296) (hd : d < 4294967296) (hn : 1 ≤ n) (w : World) (hw : lo + 4 ≤ w.heap.size)
    (c0 : w.cell? ⟨lo, 0, none⟩ = some (.int .i64 (k : Int))) (c1 : w.cell? ⟨lo + 1, 0, none⟩ = some (.int .u64 (m : Int))) (c2 : w.cell? ⟨lo + 1 + 1, 0, none⟩ = some (.int .u32 (h : Int))) (c3 : w.cell? ⟨lo + 1 + 1 + 1, 0, none⟩ = some (.int .u32 (d : Int))) :
    SeqStopsK Fence.wide n Try.prog 107 (box4 lo) (fun x : Fin m => #[Value.int .u64 ((x.val : Nat) : Int)]) (Mid lo (lo + 4)) (fun ys => ys = pls m k h d hm) (fun pre => pre <+: pls m k h d hm) k w := fun l J Jx W hW _ _ hY h0 =>
  pls_in n lo k m h d l hm hm8 hk hh hd hn J Jx hY W ((hW.cell (p := ⟨lo, 0, none⟩) (by show lo < _; omega)).trans c0) ((hW.cell (p := ⟨lo + 1, 0, none⟩) (by show lo + 1 < _; omega)).trans c1) ((hW.cell (p := ⟨lo + 1 + 1, 0, none⟩) (by show lo + 1 + 1 < _; omega)).trans c2)
    ((hW.cell (p := ⟨lo + 1 + 1 + 1, 0, none⟩) (by show lo + 1 + 1 + 1 < _; omega)).trans c3) h0
/-- The four variables, as they lie behind the call. -/
theorem four_cells (w : World) (k size h d : Nat) : (four w k size h d).cell? ⟨w.heap.size, 0, none⟩ = some (.int .i64 (k : Int)) ∧ (four w k size h d).cell? ⟨w.heap.size + 1, 0, none⟩ = some (.int .u64 ((8 * size : Nat) : Int)) ∧
    (four w k size h d).cell? ⟨w.heap.size + 1 + 1, 0, none⟩ = some (.int .u32 (h : Int)) ∧ (four w k size h d).cell? ⟨w.heap.size + 1 + 1 + 1, 0, none⟩ = some (.int .u32 (d : Int)) ∧ (four w k size h d).heap.size = w.heap.size + 4 ∧ Below w.heap.size w (four w k size h d) := by
  have one (W : World) (v : Value) (t : TypeId) : (W.alloc (.cells #[v] t)).cell? ⟨W.heap.size, 0, none⟩ = some v := (Boxed.new W t v).cell
  have keep (W : World) (a : Addr) (v : Value) (o : Obj) (h : W.cell? a = some v) : (W.alloc o).cell? a = some v := cell_kept h (World.grownBy_alloc W o none) (fun r e => by cases e)
  unfold four
  obtain ⟨w1, h1⟩ : ∃ w1, w1 = w.alloc (.cells #[.int .i64 (k : Int)] 3) := ⟨_, rfl⟩
  have s1 : w1.heap.size = w.heap.size + 1 := by rw [h1, World.size_alloc]
  obtain ⟨w2, h2⟩ : ∃ w2, w2 = w1.alloc (.cells #[.int .u64 ((8 * size : Nat) : Int)] 36) := ⟨_, rfl⟩
  have s2 : w2.heap.size = w.heap.size + 1 + 1 := by rw [h2, World.size_alloc, s1]
  obtain ⟨w3, h3⟩ : ∃ w3, w3 = w2.alloc (.cells #[.int .u32 (h : Int)] 66) := ⟨_, rfl⟩
  have s3 : w3.heap.size = w.heap.size + 1 + 1 + 1 := by rw [h3, World.size_alloc, s2]
  rw [← h1, ← h2, ← h3]
  have o0 := one w (.int .i64 (k : Int)) 3
  have o1 := one w1 (.int .u64 ((8 * size : Nat) : Int)) 36
  have o2 := one w2 (.int .u32 (h : Int)) 66
  have o3 := one w3 (.int .u32 (d : Int)) 66
  rw [s1, ← h2] at o1
  rw [s2, ← h3] at o2
  rw [s3] at o3
  rw [← h1] at o0
  refine ⟨keep _ _ _ _ ?_, keep _ _ _ _ ?_, keep _ _ _ _ o2, o3, by rw [World.size_alloc, s3], ?_⟩
  · rw [h3]; refine keep _ _ _ _ ?_; rw [h2]; exact keep _ _ _ _ o0
  · rw [h3]; exact keep _ _ _ _ o1
  · rw [h3, h2, h1]
    exact ((((Below.refl _ w).alloc (Nat.le_refl _) _).alloc (by simp) _).alloc (by simp; omega) _).alloc (by simp; omega) _
end Go.Proofs.Ytobjiamdljjkjaa.Bl

/- The project's May. -/
namespace Go.Proofs.Ytobjiamdljjkjaa.Bl
set_option linter.unusedVariables false
set_option linter.unusedSimpArgs false
open Go.RowKit Lift Ik Sq
attribute [local go_sem] Oper.semAt_some
theorem add_blockL (a : Addr) (j : Nat) : (a.add j).block = a.block := by unfold Addr.add; split <;> rfl
theorem below_two {w : World} {o o2 : Obj} : Below w.heap.size w ((w.alloc o).alloc o2) := ((Below.refl _ w).alloc (Nat.le_refl _) _).alloc (by simp) _
theorem cell_one2 (w : World) (v : Value) (t : TypeId) (v2 : Value) (t2 : TypeId) : ((w.alloc (.cells #[v] t)).alloc (.cells #[v2] t2)).cell? ⟨w.heap.size + 1, 0, none⟩ = some v2 := by
  have := (Boxed.new (w.alloc (.cells #[v] t)) t2 v2).cell
  rwa [World.size_alloc] at this
end Go.Proofs.Ytobjiamdljjkjaa.Bl

/- The project's Build. -/
namespace Go.Proofs.Ytobjiamdljjkjaa.Bl
set_option linter.unusedVariables false
set_option linter.unusedSimpArgs false
open Go.RowKit Lift Ik Sq
attribute [local go_sem] Oper.semAt_some
/-- Bits set one after the other. -/
def setA {m : Nat} (f : List Nat) (pre : List (Fin m)) : List Nat := pre.foldl (fun f x => setB f x.val) f
theorem setA_one {m : Nat} (f : List Nat) (pre : List (Fin m)) (x : Fin m) : setA f (pre ++ [x]) = setB (setA f pre) x.val := by unfold setA; rw [List.foldl_append, List.foldl_cons, List.foldl_nil]
theorem setA_pls {m : Nat} (f : List Nat) (h d : Nat) (hm : 0 < m) : ∀ k, setA f (pls m k h d hm) = addN m f h d k
  | 0 => rfl
  | k + 1 => by
    have e : pls m (k + 1) h d hm = pls m k h d hm ++ [⟨nth h d k % m, Nat.mod_lt _ hm⟩] := by unfold pls; rw [List.range_succ, List.map_append]; rfl
    rw [e, setA_one, setA_pls f h d hm k]
    rfl
theorem setA_len {m : Nat} (f : List Nat) (pre : List (Fin m)) : (setA f pre).length = f.length := by
  unfold setA
  induction pre generalizing f with
  | nil => rfl
  | cons x pre ih => rw [List.foldl_cons, ih, setB_len]
theorem setA_byte {m : Nat} {f : List Nat} (pre : List (Fin m)) (h : ∀ c, c ∈ f → c < 256) : ∀ c, c ∈ setA f pre → c < 256 := by
  unfold setA
  induction pre generalizing f with
  | nil => exact h
  | cons x pre ih => rw [List.foldl_cons]; exact ih (setB_byte h)
theorem mid_set {lo hi g : Nat} (W : World) (j : Nat) (v : Value) (h : g < lo) : Mid lo hi W (W.setCell ⟨g, j, none⟩ v) := fun p h1 h2 => by
  have := Below.heap_setCell W ⟨g, j, none⟩ v p.block (by show p.block ≠ g; omega)
  unfold World.cell?
  rw [this]
theorem own_row {β : Type} (base size n : Nat) (e : TypeId) (v : Value) (f : β → List Value) : Own (fun s W => W.ownsRow base e size v n (f s)) := fun s X Y row hr hg hrow => by
  refine hr.kept hg ?_
  rcases hr.2 with ⟨rfl, _⟩ | ⟨g, cap, cur, rfl, _, hgb, _⟩
  · exact .inl rfl
  · refine .inr fun e' => ?_
    obtain ⟨o, ho, hc⟩ := hrow g (by simpa [Value.ownBlock] using e'.symm)
    rw [hgb] at ho; cases ho; cases hc
theorem marks_own {β : Type} {B b : Nat} {Ds : List Nat} (h : ∀ D, D ∈ Ds → D < B) : OwnFrom B (fun (_ : β) W => ∀ D, D ∈ Ds → b ≤ D ∧ W.heap[D]? = some (.deferred (some []))) := fun s X Y row hs hg hr D hD =>
  ⟨(hs D hD).1, (hg.block D (Array.getElem?_eq_some_iff.1 (hs D hD).2).1 (fun e => by obtain ⟨h1, _⟩ := hr D e.symm; have := h D hD; omega)).trans (hs D hD).2⟩
/-- A frame on its way out takes up all its marks. -/
abbrev mark (D : Nat) : Deferred := { target := .collected D, args := #[] }
theorem leave_all {F : Fence} {n B : Nat} {P : Program} {fn : Func} {tmps : Array Value} {R : Ending → World → Prop} (G : World → Prop)
    (hG : ∀ W D, B ≤ D → W.heap[D]? = some (.deferred (some [])) → G W → G (W.putObj D (.deferred none))) (hR : ∀ W, G W → LeavesIn F n P fn tmps R [] .returning W) :
    ∀ (Ds : List Nat) (W : World), Ds.Nodup → (∀ D, D ∈ Ds → B ≤ D ∧ W.heap[D]? = some (.deferred (some []))) → G W → LeavesInM F n P fn tmps R (Ds.map mark) .returning W
  | [], W, _, _, h => hR W h
  | D :: Ds, W, hn, hD, h => by
    obtain ⟨h1, h2⟩ := hD D (List.mem_cons_self ..)
    have hn' := List.nodup_cons.1 hn
    refine ⟨by simp, .inl ⟨D, _, rfl, run_takeDeferred h2, leave_all G hG hR Ds _ hn'.2 (fun D' hm => ?_) (hG W D h1 h2 h)⟩⟩
    obtain ⟨h3, h4⟩ := hD D' (List.mem_cons_of_mem _ hm)
    exact ⟨h3, (World.putObj_heap_other (fun e => hn'.1 (by cases e; exact hm))).trans h4⟩
set_option maxRecDepth 100000 in
set_option maxHeartbeats 3200000 in
theorem obloom_any (A : Option Addr) (c B : Nat) (L : List E) (bits' : Int) (w : World) (hl : Seqs w B A c L) (hB : B ≤ w.heap.size) (hn : L.length ≤ 1000000) :
    Calls Try.prog 48 #[.slice A L.length c, .int .i64 bits'] w (Made w.heap.size w (bloomB (L.map E.bs) (clampB bits'))) := by
  have HS := Lib.hid (hl.up hB)
  have hc := hl.len
  have hm := hl.cap
  unfold maxLen at hm
  have hlen : (L.map E.bs).length = L.length := List.length_map ..
  obtain ⟨be, hbe⟩ : ∃ be, be = clampB bits' := ⟨_, rfl⟩
  have hbi := clampB_in bits'
  rw [← hbe] at hbi ⊢
  obtain ⟨b1, b2⟩ := hbi
  have eb1 : min (max bits' 1) 40 = (be : Int) := by rw [hbe]; unfold clampB; omega
  have e69 : (be : Int) * 69 / 100 = ((be * 69 / 100 : Nat) : Int) := by omega
  have hk0 : min (max ((be * 69 / 100 : Nat) : Int) 1) 30 = ((kOf be : Nat) : Int) := by unfold kOf; omega
  have hki := kOf_in be
  have hmi := mOf_in (L.map E.bs).length be
  unfold bloomB
  rw [hlen] at hmi ⊢
  have hPb : L.length * be ≤ 40000000 := Nat.le_trans (Nat.mul_le_mul hn b2) (by decide)
  obtain ⟨P, hP⟩ : ∃ P, P = L.length * be := ⟨_, rfl⟩
  rw [← hP] at hPb
  have eP : (L.length : Int) * (be : Int) = (P : Int) := by rw [hP]; exact (Int.natCast_mul _ _).symm
  have hM : mOf L.length be = (max P 64 + 7) / 8 * 8 := by unfold mOf; rw [hP]
  clear hl
  have HLEN := Lib.hid hlen
  clear hlen hbe
  generalize kOf be = k at *
  generalize hQ : be * 69 / 100 = Q at *
  generalize mOf L.length be = m at *
  obtain ⟨n8, hn8⟩ : ∃ n8, m / 8 = n8 := ⟨_, rfl⟩
  rw [hn8]
  obtain ⟨k1, k2⟩ := hki
  obtain ⟨m1, m2⟩ := hmi
  have hm4 : m ≤ 50000000 := by omega
  have en8 : (max (P : Int) 64 + 8 - 1) / 8 = (n8 : Int) := by omega
  have eR : max (P : Int) 64 = ((max P 64 : Nat) : Int) := by omega
  have hmn : m = 8 * n8 := by omega
  have hR : max P 64 ≤ 50000000 := by omega
  generalize max P 64 = R at *
  rw [eR] at en8
  have en9 : ((R : Int) + 8 - 1) / 8 = (n8 : Int) := en8
  have HMN := Lib.hid hmn
  have HQ := Lib.hid hQ
  have HPL := Lib.hid hP
  have hqb : Q ≤ 100 := by omega
  have hn8b : n8 ≤ 10000000 := by omega
  clear hQ hP hmn m2 hM hn8 en8
  obtain ⟨hrun, hown0⟩ := make_own (n8 + 1) (by omega) w
  rw [show ((n8 + 1 : Nat) : Int) = (n8 : Int) + 1 from by omega] at hrun
  rw [List.length_replicate] at hown0
  have hown1 := hown0.alloc (.cells #[.slice (some ⟨w.heap.size, 0, none⟩) (n8 + 1) (n8 + 1)] 25)
  have hbx := Boxed.new (w.alloc (.cells (madeCells #[.int .u8 0] (n8 + 1)) 5)) 25 (.slice (some ⟨w.heap.size, 0, none⟩) (n8 + 1) (n8 + 1))
  rw [World.size_alloc] at hbx
  have cb := hbx.cell
  have g1 := hown1.cells (g := w.heap.size) rfl n8 (vb 0) (by rw [List.getElem?_map, List.getElem?_replicate, if_pos (Nat.lt_succ_self _)]; rfl)
  rw [add_zero_at] at g1
  have g2 := own_free hown1 n8
  have k256 : k < 256 := by omega
  have ek : IntKind.u8.wrap (k : Int) = (k : Int) := by rw [IntKind.wrap_u8]; omega
  have HOWN := Lib.hid hown1
  have HBX := Lib.hid hbx
  clear hown0 hown1 hbx
  refine (callsIn_wide (n := 6)).1 ?_
  refine callsIn_of_wp_marks Try.func48 rfl trivial ?_ rfl
  simp only [Try.ntmps48, List.size_toArray, List.length_cons, List.length_nil, Nat.reduceAdd, Nat.reduceSub, Array.replicate_succ, Array.replicate_zero, List.push_toArray, List.append_toArray, List.nil_append, List.cons_append]
  gi_wp2_with fail
  rw [en9]
  have hown2 := own_put (j := n8) (u := vb k) HOWN.out (by simp)
  have hbox2 := HBX.out
  have hb2 : Below w.heap.size w ((w.alloc (.cells ((madeCells #[.int .u8 0] (n8 + 1)).setIfInBounds n8 (.int .u8 (k : Int))) 5)).alloc (.cells #[.slice (some ⟨w.heap.size, 0, none⟩) (n8 + 1) (n8 + 1)] 25)) := below_two
  have hW : (((w.alloc (.cells (madeCells #[.int .u8 0] (n8 + 1)) 5)).alloc (.cells #[.slice (some ⟨w.heap.size, 0, none⟩) (n8 + 1) (n8 + 1)] 25)).setCell ⟨w.heap.size, n8, none⟩ (vb k)) =
      (w.alloc (.cells ((madeCells #[.int .u8 0] (n8 + 1)).setIfInBounds n8 (.int .u8 (k : Int))) 5)).alloc (.cells #[.slice (some ⟨w.heap.size, 0, none⟩) (n8 + 1) (n8 + 1)] 25) := by simp [go_sem, vb]
  have hbox3 : Boxed (((w.alloc (.cells (madeCells #[.int .u8 0] (n8 + 1)) 5)).alloc (.cells #[.slice (some ⟨w.heap.size, 0, none⟩) (n8 + 1) (n8 + 1)] 25)).setCell ⟨w.heap.size, n8, none⟩ (vb k)) (w.heap.size + 1) 25 (.slice (some ⟨w.heap.size, 0, none⟩) (n8 + 1) (n8 + 1)) :=
    (Below.heap_setCell _ _ _ _ (by simp)).trans hbox2
  rw [hW] at hown2 hbox3
  rw [show (List.map vb (List.replicate (n8 + 1) 0)).set n8 (vb k) = ((addA m k (zeroB n8) ((L.map E.bs).take 0)) ++ [k]).map vb from by
    show _ = (zeroB n8 ++ [k]).map vb
    unfold zeroB
    rw [← List.map_set, List.replicate_succ', List.set_append_right _ _ (by rw [List.length_replicate]; exact Nat.le_refl _), List.length_replicate, Nat.sub_self, List.set_cons_zero]] at hown2
  have HO0 := Lib.hid hown2
  have HX0 := Lib.hid hbox3
  have HB0 := Lib.hid hb2
  clear hown2 hbox2 hbox3 hb2 hW HOWN HBX hrun cb g1 g2 eb1 en9 e69 hk0 eP eR
  generalize (w.alloc (.cells ((madeCells #[.int .u8 0] (n8 + 1)).setIfInBounds n8 (.int .u8 (k : Int))) 5)).alloc (.cells #[.slice (some ⟨w.heap.size, 0, none⟩) (n8 + 1) (n8 + 1)] 25) = W0 at HO0 HX0 HB0 ⊢
  refine wpIn_loop (fun a' wr => ∃ (u9 u10 u37 u38 u39 u40 u41 u42 u43 u44 u45 u46 u47 u48 u49 u50 u51 u52 u53 u54 u55 u56 : Value) (n : Nat) (Ds : List Nat), (n ≤ L.length ∧ u37 = .int .i64 (n : Int) ∧ Hid (wr.ownsRow w.heap.size 5 1 (.slice (some ⟨w.heap.size, 0, none⟩) (n8 + 1) (n8 + 1)) (n8 + 1) (((addA m k (zeroB n8) ((L.map E.bs).take n)) ++ [k]).map vb)) ∧ Hid (Boxed wr (w.heap.size + 1) 25 (.slice (some ⟨w.heap.size, 0, none⟩) (n8 + 1) (n8 + 1))) ∧ Hid (Below w.heap.size w wr) ∧ Hid (Ds.Nodup) ∧ Hid (∀ D, D ∈ Ds → w.heap.size ≤ D ∧ wr.heap[D]? = some (.deferred (some [])))) ∧
      a' = { tmps := #[Value.slice A L.length c, Value.int IntKind.i64 ↑be, undef, undef, Value.slice none 0 0, Value.int IntKind.i64 ↑k, Value.int IntKind.i64 ↑n8, Value.pointer (some { block := w.heap.size + 1, off := 0 }), undef, u9, u10, Value.int IntKind.i64 bits', Value.int IntKind.i64 (max bits' 1), Value.int IntKind.i64 ↑be, Value.int IntKind.i64 ↑be, Value.int IntKind.i64 (↑be * 69), Value.int IntKind.i64 (↑be * 69 / 100), Value.int IntKind.i64 (max (↑Q) 1), Value.int IntKind.i64 ↑k, Value.slice A L.length c, Value.int IntKind.i64 ↑L.length, Value.int IntKind.i64 ↑be, Value.int IntKind.i64 ↑P, Value.int IntKind.i64 ↑R, Value.int IntKind.i64 (↑R + 8), Value.int IntKind.i64 (↑R + 8 - 1), Value.int IntKind.i64 ↑n8, Value.int IntKind.i64 ↑n8, Value.int IntKind.i64 (↑n8 + 1), Value.slice (some { block := w.heap.size, off := 0 }) (n8 + 1) (n8 + 1), Value.slice (some { block := w.heap.size, off := 0 }) (n8 + 1) (n8 + 1), Value.int IntKind.i64 ↑n8, Value.int IntKind.i64 ↑k, Value.int IntKind.u8 ↑k, Value.pointer (some { block := w.heap.size, off := n8 }), Value.slice A L.length c, Value.int IntKind.i64 ↑L.length, u37, u38, u39, u40, u41, u42, u43, u44, u45, u46, u47, u48, u49, u50, u51, u52, u53, u54, u55, u56, undef], defers := Ds.map mark }) (fun a' _ => L.length + 1 - (intOf (a'.tmps.getD 37 undef)).toNat) ?start ?round
  case start => exact ⟨_, _, _, _, _, _, _, _, _, _, _, _, _, _, _, _, _, _, _, _, _, _, 0, [], ⟨Nat.zero_le _, rfl, HO0, HX0, HB0, Lib.hid List.nodup_nil, Lib.hid (fun D hD => by cases hD)⟩, rfl⟩
  case round =>
    rintro a' wr ⟨u9, u10, u37, u38, u39, u40, u41, u42, u43, u44, u45, u46, u47, u48, u49, u50, u51, u52, u53, u54, u55, u56, n, Ds, ⟨hn', rfl, hown, hbox, hb, hnd, hds⟩, rfl⟩
    by_cases hlt : n < L.length
    · obtain ⟨e, he⟩ : ∃ e, L[n]? = some e := ⟨_, List.getElem?_eq_getElem hlt⟩
      obtain ⟨ad, hA, -, hp⟩ := (HS.out.below hb.out).place he
      subst hA
      have hok := (HS.out.below hb.out).ok e (List.mem_of_getElem? he)
      have HP := Lib.hid (places_any e.a e.c w.heap.size k n8 e.bs wr hok.lies hb.out.size hok.cap hok.max hok.byte (by omega) (by omega))
      have hhl := hsh_lt e.bs
      have hrl := rot_lt hhl
      have HNX : Hid (addA m k (zeroB n8) ((L.map E.bs).take (n + 1)) = addN m (addA m k (zeroB n8) ((L.map E.bs).take n)) (hsh e.bs) (rot (hsh e.bs)) k) := Lib.hid (addA_next (by rw [List.getElem?_map, he]; rfl))
      have HF8 : Hid (∀ x, x ∈ addA m k (zeroB n8) ((L.map E.bs).take n) → x < 256) := Lib.hid (addA_byte _ _ fun c hc => by
        unfold zeroB at hc
        rw [List.mem_replicate] at hc
        omega)
      have HFL : Hid ((addA m k (zeroB n8) ((L.map E.bs).take n)).length = n8) := Lib.hid (by rw [addA_len]; simp [zeroB])
      generalize addA m k (zeroB n8) ((L.map E.bs).take n) = F at *
      generalize hsh e.bs = h at *
      generalize rot h = d at *
      clear hok he
      gi_wp2_with fail
      refine ⟨trivial, (callsIn_wide.2 HP.out).mono ?_⟩
      rintro e' w' ⟨rfl, rfl⟩
      clear HP hp
      gi_wp2_with fail
      obtain ⟨p0, p1, p2, p3, psz, pb⟩ := four_cells wr k n8 h d
      have hbx1 : Boxed (four wr k n8 h d) (w.heap.size + 1) 25 (.slice (some ⟨w.heap.size, 0, none⟩) (n8 + 1) (n8 + 1)) := by
        unfold four
        exact (((hbox.out.alloc _).alloc _).alloc _).alloc _
      have hown1 : (four wr k n8 h d).ownsRow w.heap.size 5 1 (.slice (some ⟨w.heap.size, 0, none⟩) (n8 + 1) (n8 + 1)) (n8 + 1) ((F ++ [k]).map vb) := by
        unfold four
        exact (((hown.out.alloc _).alloc _).alloc _).alloc _
      have hds1 : ∀ D, D ∈ Ds → w.heap.size ≤ D ∧ (four wr k n8 h d).heap[D]? = some (.deferred (some [])) := fun D hD => ⟨(hds.out D hD).1, (pb.block D (Array.getElem?_eq_some_iff.1 (hds.out D hD).2).1).trans (hds.out D hD).2⟩
      have hb1 := hb.out.trans (pb.mono hb.out.size)
      have hlo : w.heap.size + 1 < wr.heap.size := hbox.out.lt
      rw [← HMN.out] at p1
      have hm0 : 0 < m := by omega
      have HLO := Lib.hid hlo
      generalize wr.heap.size = lo at *
      generalize four wr k n8 h d = W1 at *
      have hn8p : 0 < n8 := by have := HMN.out; omega
      refine wpIn_rangeFunc_ownF rfl (by omega) (gf := 107) (lb := box4 lo) rfl trivial (enters_of Try.func107 (by kernel_rfl) rfl)
        (pls_stops _ lo k m h d hm0 (by omega) (by omega) hhl hrl (by omega) W1 (by omega) p0 p1 p2 p3) mid_t (mid_b (by omega)) (Below.refl _ _) (fun _ => rfl)
        (fun pre W => (W.ownsRow w.heap.size 5 1 (.slice (some ⟨w.heap.size, 0, none⟩) (n8 + 1) (n8 + 1)) (n8 + 1) (((setA F pre) ++ [k]).map vb) ∧ Boxed W (w.heap.size + 1) 25 (.slice (some ⟨w.heap.size, 0, none⟩) (n8 + 1) (n8 + 1)) ∧ ∀ D, D ∈ Ds → w.heap.size ≤ D ∧ W.heap[D]? = some (.deferred (some []))) ∧ Below w.heap.size w W)
        (fun _ _ _ => False)
        (OwnFrom.and (OwnFrom.and (Own.from (own_row w.heap.size 1 (n8 + 1) 5 (.slice (some ⟨w.heap.size, 0, none⟩) (n8 + 1) (n8 + 1)) (fun pre => (setA F pre ++ [k]).map vb)) _) (OwnFrom.and (Own.from (boxed_own _ _ _) _) (marks_own (fun D hD => (Array.getElem?_eq_some_iff.1 (hds1 D hD).2).1)))) (ownFrom_below (Nat.le_refl _) hb1.size))
        (fun _ _ _ _ _ hs _ _ => hs)
        ⟨⟨hown1, hbx1, hds1⟩, hb1⟩
        (fun x => { tmps := #[Value.slice (some ad) L.length c, Value.int IntKind.i64 ↑be, undef, undef, Value.slice none 0 0, Value.int IntKind.i64 ↑k, Value.int IntKind.i64 ↑n8, Value.pointer (some { block := w.heap.size + 1, off := 0 }), undef, Value.slice e.a e.bs.length e.c, Value.int .u64 (x.val : Int), Value.int IntKind.i64 bits', Value.int IntKind.i64 (max bits' 1), Value.int IntKind.i64 ↑be, Value.int IntKind.i64 ↑be, Value.int IntKind.i64 (↑be * 69), Value.int IntKind.i64 (↑be * 69 / 100), Value.int IntKind.i64 (max (↑Q) 1), Value.int IntKind.i64 ↑k, Value.slice (some ad) L.length c, Value.int IntKind.i64 ↑L.length, Value.int IntKind.i64 ↑be, Value.int IntKind.i64 ↑P, Value.int IntKind.i64 ↑R, Value.int IntKind.i64 (↑R + 8), Value.int IntKind.i64 (↑R + 8 - 1), Value.int IntKind.i64 ↑n8, Value.int IntKind.i64 ↑n8, Value.int IntKind.i64 (↑n8 + 1), Value.slice (some { block := w.heap.size, off := 0 }) (n8 + 1) (n8 + 1), Value.slice (some { block := w.heap.size, off := 0 }) (n8 + 1) (n8 + 1), Value.int IntKind.i64 ↑n8, Value.int IntKind.i64 ↑k, Value.int IntKind.u8 ↑k, Value.pointer (some { block := w.heap.size, off := n8 }), Value.slice (some ad) L.length c, Value.int IntKind.i64 ↑L.length, Value.int IntKind.i64 ↑n, Value.bool true, Value.pointer (some (ad.add n)), Value.slice e.a e.bs.length e.c, Value.slice e.a e.bs.length e.c, Value.int IntKind.i64 ↑k, Value.int IntKind.i64 ↑n8, Value.func (Fn.func 107) #[] (box4 lo), Value.int .u64 (x.val : Int), u46, u47, u48, u49, u50, u51, u52, u53, u54, u55, u56, undef], defers := [] }) ?assign ?body ?done ?stop
      case assign =>
        intro l x W K hK
        gi_wp2
        exact hK
      case body =>
        rintro l pre x W ⟨⟨hO, hX, hD⟩, hB⟩ _
        obtain ⟨X, hXm⟩ := x
        dsimp only
        have hl8 : (setA F pre).length = n8 := by rw [setA_len]; exact HFL.out
        obtain ⟨b, hb'⟩ : ∃ b, (setA F pre)[X / 8]? = some b := ⟨_, List.getElem?_eq_getElem (by have := HMN.out; omega)⟩
        obtain ⟨Y, hY⟩ : ∃ Y, Y = X / 8 := ⟨_, rfl⟩
        obtain ⟨Z, hZ⟩ : ∃ Z, Z = X % 8 := ⟨_, rfl⟩
        have q1 : (X : Int) / 8 = (Y : Int) := by omega
        have q2 : (X : Int) % 8 = (Z : Int) := by omega
        have hYl : Y < n8 := by have := HMN.out; omega
        have hYl' : Y < n8 + 1 := by omega
        have hZ8 : Z < 8 := by omega
        have b8 := setA_byte pre HF8.out b (List.mem_of_getElem? hb')
        rw [← hY] at hb'
        have g1 := hO.cells (g := w.heap.size) rfl Y (vb b) (by rw [List.getElem?_map, List.getElem?_append_left (by omega), hb']; rfl)
        rw [add_zero_at] at g1
        have g2 := own_free hO Y
        have e8 := set_int b8 hZ8
        have cb := hX.cell
        have hO2 := own_put (j := Y) (u := vb (b ||| 2 ^ Z)) hO (by rw [List.length_map, List.length_append, hl8, List.length_singleton]; exact hYl')
        have hrow : ((setA F pre ++ [k]).map vb).set Y (vb (b ||| 2 ^ Z)) = ((setA F (pre ++ [⟨X, hXm⟩]) ++ [k]).map vb) := by
          rw [setA_one, ← List.map_set, List.set_append_left _ _ (by omega)]
          unfold setB
          rw [← hY, ← hZ, List.getD_eq_getElem?_getD, hb']
          rfl
        rw [hrow] at hO2
        have HO2 := Lib.hid hO2
        have HX := Lib.hid hX
        have HD := Lib.hid hD
        clear hO2 hrow hO hX hD hb' hY hZ hl8 p0 p1 p2 p3 pb hown1 hbx1 hds1
        gi_wp2_with fail
        exact ⟨KeepsOthers.setCell _ _ _, mid_set _ _ _ (by have := HLO.out; omega), ⟨HO2.out, (Below.heap_setCell _ _ _ _ (by simp)).trans HX.out, fun D hD => ⟨(HD.out D hD).1, (KeepsOthers.setCell W _ _).same D _ (HD.out D hD).2 rfl⟩⟩, hB.setCell (p := ⟨w.heap.size, Y, none⟩) (Nat.le_refl _) _⟩
      case done =>
        rintro D ys W hD rfl ⟨⟨hO, hX, hM⟩, hB⟩ hK
        rw [setA_pls, ← HNX.out] at hO
        have HO := Lib.hid hO
        have HX := Lib.hid hX
        have HB := Lib.hid hB
        have HND : Hid ((D :: Ds).Nodup) := Lib.hid (List.nodup_cons.2 ⟨fun hm => by have := (Array.getElem?_eq_some_iff.1 (hds1 D hm).2).1; omega, hnd.out⟩)
        have HDS : Hid (∀ D', D' ∈ D :: Ds → w.heap.size ≤ D' ∧ W.heap[D']? = some (.deferred (some []))) := Lib.hid (fun D' hm => by
          rcases List.mem_cons.1 hm with rfl | h2
          · exact ⟨Nat.le_trans hb1.size hD, hK⟩
          · exact hM D' h2)
        clear hO hX hM hK hB hown1 hbx1 hds1 p0 p1 p2 p3 pb
        gi_wp2_with fail
        refine ⟨⟨_, _, _, _, _, _, _, _, _, _, _, _, _, _, _, _, _, _, _, _, _, _, n + 1, D :: Ds, ⟨by omega, ?_, HO, HX, HB, HND, HDS⟩, rfl⟩, ?_⟩
        · go_num
        · simp [intOf]; omega
      case stop =>
        rintro D c pre W _ _ h _
        exact h.elim
    · obtain rfl : n = L.length := by omega
      have hall : (L.map E.bs).take L.length = L.map E.bs := List.take_of_length_le (by rw [HLEN.out]; exact Nat.le_refl _)
      rw [hall] at hown
      have HFL : Hid ((addA m k (zeroB n8) (L.map E.bs)).length = n8) := Lib.hid (by rw [addA_len]; simp [zeroB])
      clear hall
      generalize addA m k (zeroB n8) (L.map E.bs) = F at *
      have cb := hbox.out.cell
      gi_wp2_with fail
      refine leave_all (B := w.heap.size) (fun W => W.ownsRow w.heap.size 5 1 (.slice (some ⟨w.heap.size, 0, none⟩) (n8 + 1) (n8 + 1)) (n8 + 1) ((F ++ [k]).map vb) ∧ Below w.heap.size w W) (fun W D hD hK hG => ⟨ownsRow_putObj hG.1 _ hK rfl, hG.2.trans (belowK_b (w := w) (Nat.le_refl _) W D _ _ hD hK rfl rfl)⟩) (fun W hG => ?_) Ds wr hnd.out hds.out ⟨hown.out, hb.out⟩
      refine ⟨_, results_tmp rfl _ _ _, _, rfl, ?_, hG.2⟩
      have := hG.1
      rw [show (F ++ [k]).length = n8 + 1 from by rw [List.length_append, HFL.out]; rfl]
      exact this
end Go.Proofs.Ytobjiamdljjkjaa.Bl

/- The project's own functions, all three. -/
