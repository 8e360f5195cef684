/- Plain mathematics of the checksum: the step of division by the polynomial, eight of them, the register, and that all of it is linear and loses nothing. -/
import Derived.WalkKit
namespace Go.Proofs.Ytobjiamdljjkjaa.Crc

/-- One step of the division. -/
def st (x : Nat) : Nat := if x % 2 = 1 then x / 2 ^^^ 2197175160 else x / 2
/-- n steps. -/
def sts : Nat → Nat → Nat
  | 0, x => x
  | n + 1, x => sts n (st x)
/-- What stands in the table at place x. -/
def ent (x : Nat) : Nat := sts 8 x
/-- The register behind one byte. -/
def turn (T : Nat → Nat) (r c : Nat) : Nat := r / 256 ^^^ T (r % 256 ^^^ c)
/-- The register behind bytes. -/
def reg (T : Nat → Nat) (r : Nat) (bs : List Nat) : Nat := bs.foldl (turn T) r
def crc (T : Nat → Nat) (bs : List Nat) : Nat := 4294967295 - reg T 4294967295 bs

theorem st_xor (x y : Nat) : st (x ^^^ y) = st x ^^^ st y := by
  have h1 : (x ^^^ y) / 2 = x / 2 ^^^ y / 2 := Nat.xor_div_two
  have h2 : (x ^^^ y) % 2 = (x + y) % 2 := by
    have h0 : (x ^^^ y).testBit 0 = (x.testBit 0 ^^ y.testBit 0) := Nat.testBit_xor ..
    simp only [Nat.testBit_zero] at h0
    rcases Nat.mod_two_eq_zero_or_one (x ^^^ y) with h | h <;> rcases Nat.mod_two_eq_zero_or_one x with hx | hx <;> rcases Nat.mod_two_eq_zero_or_one y with hy | hy <;> rw [h, hx, hy] at h0 <;> first | omega | (exfalso; revert h0; decide)
  unfold st
  rw [h1, h2]
  rcases Nat.mod_two_eq_zero_or_one x with hx | hx <;> rcases Nat.mod_two_eq_zero_or_one y with hy | hy
  · rw [if_neg (by omega), if_neg (by omega), if_neg (by omega)]
  · rw [if_pos (by omega), if_neg (by omega), if_pos (by omega), Nat.xor_assoc]
  · rw [if_pos (by omega), if_pos (by omega), if_neg (by omega), Nat.xor_assoc, Nat.xor_assoc, Nat.xor_comm (y / 2)]
  · rw [if_neg (by omega), if_pos (by omega), if_pos (by omega), Nat.xor_assoc, Nat.xor_comm (y / 2), ← Nat.xor_assoc 2197175160, Nat.xor_self, Nat.zero_xor]
theorem sts_xor (n x y : Nat) : sts n (x ^^^ y) = sts n x ^^^ sts n y := by
  induction n generalizing x y with
  | zero => rfl
  | succ n ih => simp only [sts]; rw [st_xor, ih]
theorem ent_xor (x y : Nat) : ent (x ^^^ y) = ent x ^^^ ent y := sts_xor 8 x y

theorem xor_lt {x y : Nat} (hx : x < 4294967296) (hy : y < 4294967296) : x ^^^ y < 4294967296 := Nat.xor_lt_two_pow (n := 32) hx hy
theorem xor_lt8 {x y : Nat} (hx : x < 256) (hy : y < 256) : x ^^^ y < 256 := Nat.xor_lt_two_pow (n := 8) hx hy
theorem st_lt {x : Nat} (h : x < 4294967296) : st x < 4294967296 := by
  unfold st
  split
  · exact xor_lt (by omega) (by decide)
  · omega
theorem sts_lt (n : Nat) {x : Nat} (h : x < 4294967296) : sts n x < 4294967296 := by
  induction n generalizing x with
  | zero => exact h
  | succ n ih => exact ih (st_lt h)
theorem ent_lt {x : Nat} (h : x < 4294967296) : ent x < 4294967296 := sts_lt 8 h

theorem xor_ne {x y : Nat} (h : x ^^^ y = 0) : x = y := by
  have : (x ^^^ y) ^^^ y = 0 ^^^ y := by rw [h]
  rwa [Nat.xor_assoc, Nat.xor_self, Nat.xor_zero, Nat.zero_xor] at this
theorem st_zero {x : Nat} (h : x < 4294967296) (h0 : st x = 0) : x = 0 := by
  unfold st at h0
  split at h0
  · have := xor_ne h0
    omega
  · omega
theorem sts_zero (n : Nat) {x : Nat} (h : x < 4294967296) (h0 : sts n x = 0) : x = 0 := by
  induction n generalizing x with
  | zero => exact h0
  | succ n ih => exact st_zero h (ih (st_lt h) h0)
theorem sts_even (n q : Nat) : sts n (q * 2 ^ n) = q := by
  induction n generalizing q with
  | zero => simp [sts]
  | succ n ih =>
    have e : st (q * 2 ^ (n + 1)) = q * 2 ^ n := by
      have h2 : q * 2 ^ (n + 1) = 2 * (q * 2 ^ n) := by rw [Nat.pow_succ, ← Nat.mul_assoc, Nat.mul_comm]
      unfold st
      rw [h2, if_neg (by omega)]
      omega
    simp only [sts]
    rw [e, ih]

theorem low_high (r : Nat) : r = (r / 256 * 2 ^ 8) ^^^ (r % 256) := by
  have h : r % 256 < 2 ^ 8 := Nat.mod_lt _ (by decide)
  have h1 : (r / 256) <<< 8 + r % 256 = (r / 256) <<< 8 ||| r % 256 := (Nat.shiftLeft_add_eq_or_of_lt h (r / 256))
  have h2 : (r / 256 * 2 ^ 8) &&& (r % 256) = 0 := by
    apply Nat.eq_of_testBit_eq
    intro i
    rw [Nat.testBit_and, Nat.zero_testBit, Nat.testBit_mul_two_pow]
    by_cases hi : 8 ≤ i
    · rw [Nat.testBit_lt_two_pow (x := r % 256) (Nat.lt_of_lt_of_le h (Nat.pow_le_pow_right (by decide) hi)), Bool.and_false]
    · simp [hi]
  have h3 : (r / 256 * 2 ^ 8) ^^^ (r % 256) = (r / 256 * 2 ^ 8) ||| (r % 256) := by
    apply Nat.eq_of_testBit_eq
    intro i
    have := congrArg (fun n => Nat.testBit n i) h2
    simp only [Nat.testBit_and, Nat.zero_testBit] at this
    rw [Nat.testBit_xor, Nat.testBit_or]
    revert this
    cases Nat.testBit (r / 256 * 2 ^ 8) i <;> cases Nat.testBit (r % 256) i <;> simp
  rw [h3, ← Nat.shiftLeft_eq, ← h1, Nat.shiftLeft_eq]
  omega

/-- One byte turns the register as eight steps turn both together. -/
theorem turn_ent (r c : Nat) : turn ent r c = ent (r ^^^ c) := by
  have h : r ^^^ c = (r / 256 * 2 ^ 8) ^^^ (r % 256 ^^^ c) := by
    conv => lhs; rw [low_high r]
    rw [Nat.xor_assoc]
  rw [h, ent_xor]
  unfold turn
  congr 1
  exact (sts_even 8 _).symm
theorem turn_lt {T : Nat → Nat} (hT : ∀ x, x < 256 → T x < 4294967296) {r c : Nat} (hr : r < 4294967296) (hc : c < 256) : turn T r c < 4294967296 :=
  xor_lt (by omega) (hT _ (xor_lt8 (Nat.mod_lt _ (by decide)) hc))
theorem reg_lt {T : Nat → Nat} (hT : ∀ x, x < 256 → T x < 4294967296) : ∀ (bs : List Nat) {r : Nat}, r < 4294967296 → (∀ c, c ∈ bs → c < 256) → reg T r bs < 4294967296 := by
  intro bs
  induction bs with
  | nil => intro r h _; exact h
  | cons c bs ih => intro r h hb; exact ih (turn_lt hT h (hb c (by simp))) (fun d hd => hb d (by simp [hd]))
theorem ent_ok : ∀ x, x < 256 → ent x < 4294967296 := fun _ h => ent_lt (by omega)
theorem reg_cons (T : Nat → Nat) (r c : Nat) (bs : List Nat) : reg T r (c :: bs) = reg T (turn T r c) bs := rfl
theorem reg_append (T : Nat → Nat) (r : Nat) (bs cs : List Nat) : reg T r (bs ++ cs) = reg T (reg T r bs) cs := List.foldl_append
theorem reg_snoc (T : Nat → Nat) (r c : Nat) (bs : List Nat) : reg T r (bs ++ [c]) = turn T (reg T r bs) c := reg_append T r bs [c]
theorem reg_congr {T U : Nat → Nat} (h : ∀ x, x < 256 → T x = U x) : ∀ (bs : List Nat) (r : Nat), (∀ c, c ∈ bs → c < 256) → reg T r bs = reg U r bs := by
  intro bs
  induction bs with
  | nil => intro r _; rfl
  | cons c bs ih =>
    intro r hb
    rw [reg_cons, reg_cons]
    have : turn T r c = turn U r c := by
      unfold turn
      rw [h _ (xor_lt8 (Nat.mod_lt _ (by decide)) (hb c (by simp)))]
    rw [this]
    exact ih _ (fun d hd => hb d (by simp [hd]))

/-- Three registers and three texts. -/
theorem three (a b c : Nat) (x y z : Nat) : (a ^^^ x) ^^^ (b ^^^ y) ^^^ (c ^^^ z) = (a ^^^ b ^^^ c) ^^^ (x ^^^ y ^^^ z) := by
  have lc : ∀ p q r : Nat, p ^^^ (q ^^^ r) = q ^^^ (p ^^^ r) := fun p q r => by rw [← Nat.xor_assoc, Nat.xor_comm p, Nat.xor_assoc]
  simp only [Nat.xor_assoc]
  congr 1
  rw [lc x b]
  congr 1
  rw [lc y c, lc x c]
/-- The bytes of three texts, xored. -/
def mix : List Nat → List Nat → List Nat → List Nat
  | a :: as, b :: bs, c :: cs => (a ^^^ b ^^^ c) :: mix as bs cs
  | _, _, _ => []
theorem reg_mix : ∀ (as bs cs : List Nat) (r s t : Nat), bs.length = as.length → cs.length = as.length → reg ent r as ^^^ reg ent s bs ^^^ reg ent t cs = reg ent (r ^^^ s ^^^ t) (mix as bs cs) := by
  intro as
  induction as with
  | nil =>
    intro bs cs r s t h1 h2
    have e1 : bs = [] := List.eq_nil_of_length_eq_zero h1
    have e2 : cs = [] := List.eq_nil_of_length_eq_zero h2
    subst e1; subst e2; rfl
  | cons a as ih =>
    intro bs cs r s t h1 h2
    rcases bs with _ | ⟨b, bs⟩
    · simp at h1
    rcases cs with _ | ⟨c, cs⟩
    · simp at h2
    simp only [reg_cons, mix]
    rw [ih _ _ _ _ _ (by simpa using h1) (by simpa using h2)]
    congr 1
    rw [turn_ent, turn_ent, turn_ent, turn_ent, ← ent_xor, ← ent_xor, three]

/-- One bit less or more: another register. -/
theorem ent_ne {x y : Nat} (hx : x < 4294967296) (hy : y < 4294967296) (h : x ≠ y) : ent x ≠ ent y := fun he => by
  have h0 : ent (x ^^^ y) = 0 := by rw [ent_xor, he, Nat.xor_self]
  exact h (xor_ne (sts_zero 8 (xor_lt hx hy) h0))
theorem reg_ne : ∀ (bs : List Nat) {r s : Nat}, r < 4294967296 → s < 4294967296 → (∀ c, c ∈ bs → c < 256) → r ≠ s → reg ent r bs ≠ reg ent s bs := by
  intro bs
  induction bs with
  | nil => intro r s _ _ _ h; exact h
  | cons c bs ih =>
    intro r s hr hs hb h
    have hc := hb c (by simp)
    rw [reg_cons, reg_cons]
    refine ih (turn_lt ent_ok hr hc) (turn_lt ent_ok hs hc) (fun d hd => hb d (by simp [hd])) ?_
    rw [turn_ent, turn_ent]
    refine ent_ne (xor_lt hr (by omega)) (xor_lt hs (by omega)) fun e => h ?_
    have : (r ^^^ c) ^^^ c = (s ^^^ c) ^^^ c := by rw [e]
    rwa [Nat.xor_assoc, Nat.xor_self, Nat.xor_zero, Nat.xor_assoc, Nat.xor_self, Nat.xor_zero] at this
theorem reg_turned (as bs : List Nat) (c d : Nat) (r : Nat) (hr : r < 4294967296) (ha : ∀ c, c ∈ as → c < 256) (hb : ∀ c, c ∈ bs → c < 256) (hc : c < 256) (hd : d < 256) (h : c ≠ d) :
    reg ent r (as ++ c :: bs) ≠ reg ent r (as ++ d :: bs) := by
  rw [reg_append, reg_append, reg_cons, reg_cons]
  have hq := reg_lt ent_ok as hr ha
  refine reg_ne bs (turn_lt ent_ok hq hc) (turn_lt ent_ok hq hd) hb ?_
  rw [turn_ent, turn_ent]
  generalize reg ent r as = q at hq
  refine ent_ne (xor_lt hq (by omega)) (xor_lt hq (by omega)) fun e => h ?_
  have : q ^^^ (q ^^^ c) = q ^^^ (q ^^^ d) := by rw [e]
  rwa [← Nat.xor_assoc, Nat.xor_self, Nat.zero_xor, ← Nat.xor_assoc, Nat.xor_self, Nat.zero_xor] at this

/-- The complement of a register of 32 bits. -/
theorem not_xor {x : Nat} (h : x < 4294967296) : 4294967295 - x = 4294967295 ^^^ x := by
  have h1 : 4294967295 - x = 2 ^ 32 - (x + 1) := by omega
  apply Nat.eq_of_testBit_eq
  intro i
  rw [h1, Nat.testBit_two_pow_sub_succ h, Nat.testBit_xor]
  have : Nat.testBit 4294967295 i = decide (i < 32) := by
    rw [show 4294967295 = 2 ^ 32 - 1 by decide, Nat.testBit_two_pow_sub_one]
  rw [this]
  by_cases hi : i < 32
  · simp [hi]
  · have : Nat.testBit x i = false := Nat.testBit_lt_two_pow (Nat.lt_of_lt_of_le (m := 2 ^ 32) h (Nat.pow_le_pow_right (by decide) (by omega)))
    simp [hi, this]
theorem crc_mix (as bs cs : List Nat) (h1 : bs.length = as.length) (h2 : cs.length = as.length) (ha : ∀ c, c ∈ as → c < 256) (hb : ∀ c, c ∈ bs → c < 256) (hc : ∀ c, c ∈ cs → c < 256) :
    crc ent as ^^^ crc ent bs ^^^ crc ent cs = crc ent (mix as bs cs) := by
  have hF : (4294967295 : Nat) < 4294967296 := by decide
  have hm := reg_mix as bs cs 4294967295 4294967295 4294967295 h1 h2
  have ra := reg_lt ent_ok as hF ha
  have rb := reg_lt ent_ok bs hF hb
  have rc := reg_lt ent_ok cs hF hc
  have e : (4294967295 : Nat) ^^^ 4294967295 ^^^ 4294967295 = 4294967295 := by decide
  rw [e] at hm
  unfold crc
  have rx : reg ent 4294967295 (mix as bs cs) < 4294967296 := by rw [← hm]; exact xor_lt (xor_lt ra rb) rc
  rw [not_xor ra, not_xor rb, not_xor rc, not_xor rx, three, e, hm]
theorem crc_lt (T : Nat → Nat) (bs : List Nat) : crc T bs < 4294967296 := by unfold crc; omega
theorem crc_ne (as bs : List Nat) (c d : Nat) (ha : ∀ c, c ∈ as → c < 256) (hb : ∀ c, c ∈ bs → c < 256) (hc : c < 256) (hd : d < 256) (h : c ≠ d) :
    crc ent (as ++ c :: bs) ≠ crc ent (as ++ d :: bs) := by
  have hF : (4294967295 : Nat) < 4294967296 := by decide
  have hn := reg_turned as bs c d 4294967295 hF ha hb hc hd h
  have r1 : reg ent 4294967295 (as ++ c :: bs) < 4294967296 := reg_lt ent_ok _ hF (by
    intro x hx; rcases List.mem_append.1 hx with h | h
    · exact ha x h
    · rcases List.mem_cons.1 h with rfl | h
      · exact hc
      · exact hb x h)
  have r2 : reg ent 4294967295 (as ++ d :: bs) < 4294967296 := reg_lt ent_ok _ hF (by
    intro x hx; rcases List.mem_append.1 hx with h | h
    · exact ha x h
    · rcases List.mem_cons.1 h with rfl | h
      · exact hd
      · exact hb x h)
  unfold crc
  omega
theorem crc_congr {T U : Nat → Nat} (h : ∀ x, x < 256 → T x = U x) (bs : List Nat) (hb : ∀ c, c ∈ bs → c < 256) : crc T bs = crc U bs := by
  unfold crc; rw [reg_congr h bs _ hb]
theorem crc_known : crc ent [49, 50, 51, 52, 53, 54, 55, 56, 57] = 3808858755 := by decide +kernel
/-- The table as a list. -/
def tab : List Nat := (List.range 256).map ent
theorem tab_length : tab.length = 256 := by simp [tab]
theorem tab_at (x : Nat) (h : x < 256) : tab[x]? = some (ent x) := by simp [tab, h]
end Go.Proofs.Ytobjiamdljjkjaa.Crc
