/- Plain mathematics on double words: whole numbers as floats, and what +, -, *, comparisons and truncation make of them. -/
import Derived.Laws.ComplexArith
namespace Go.Proofs.Ytafcepjkjcnmfaa.Fl
open Ieee

/-- A power of two, kept closed. -/
def P2 (k : Nat) : Nat := 2 ^ k
theorem P2_add (a b : Nat) : P2 (a + b) = P2 a * P2 b := Nat.pow_add ..
theorem P2_pos (k : Nat) : 0 < P2 k := Nat.two_pow_pos k
theorem P2_posI (k : Nat) : (0 : Int) < (P2 k : Int) := Int.natCast_pos.2 (P2_pos k)

theorem neg_iff (x c : Int) (hc : 0 < c) : x * c < 0 ↔ x < 0 := by
  constructor
  · intro h
    refine Int.not_le.1 fun hx => ?_
    have := Int.mul_nonneg hx (Int.le_of_lt hc)
    omega
  · intro h; exact Int.mul_neg_of_neg_of_pos h hc

theorem signed_add (s : Bool) (m u v : Nat) : signed s m (u + v) = signed s m u * (P2 v : Int) := by
  unfold signed P2
  have h : m <<< (u + v) = (m <<< u) * 2 ^ v := by simp only [Nat.shiftLeft_eq, Nat.pow_add, Nat.mul_assoc]
  rw [h, Int.natCast_mul]
  cases s
  · simp
  · simp only [if_true, Int.neg_mul]

/-- The number that a word stands for, in units of 2^-1074. -/
def Is (b : Nat) (X : Int) : Prop := ∃ (s : Bool) (m : Nat) (p : Int), double.read b = .number s m p ∧ -1074 ≤ p ∧ signed s m (p + 1074).toNat = X

theorem compare_mul (x y : Int) (c : Int) (hc : 0 < c) : compare (x * c) (y * c) = compare x y := by
  have h1 : (x * c < y * c) ↔ x < y := by
    constructor
    · intro h; exact Int.lt_of_mul_lt_mul_right h (by omega)
    · intro h; exact Int.mul_lt_mul_of_pos_right h hc
  have h2 : (x * c = y * c) ↔ x = y := by
    constructor
    · intro h; exact Int.eq_of_mul_eq_mul_right (by omega) h
    · intro h; rw [h]
  simp only [compare, compareOfLessAndEq, h1, h2]

theorem order_is {a b : Nat} {X Y : Int} (ha : Is a X) (hb : Is b Y) : double.order a b = some (compare X Y) := by
  obtain ⟨s, m, i, ra, hi, rfl⟩ := ha
  obtain ⟨t, n, j, rb, hj, rfl⟩ := hb
  unfold Format.order
  rw [ra, rb]
  simp only [Datum.order]
  have e1 : (i + 1074).toNat = (i - min i j).toNat + (min i j + 1074).toNat := by omega
  have e2 : (j + 1074).toNat = (j - min i j).toNat + (min i j + 1074).toNat := by omega
  rw [e1, e2, signed_add, signed_add, compare_mul _ _ _ (P2_posI _)]

/-! ### Rounding does not see how a number is written -/
theorem cut_scale (neg : Bool) (n drop k : Nat) (hn : 0 < n) : Toward.even.cut neg (n * 2 ^ k) (drop + k) = Toward.even.cut neg n drop := by
  unfold Toward.cut
  have hl : (n * 2 ^ k).log2 = n.log2 + k := by
    have hp : 0 < 2 ^ k := Nat.two_pow_pos k
    have h0 : n * 2 ^ k ≠ 0 := Nat.ne_of_gt (Nat.mul_pos hn hp)
    rw [Nat.log2_eq_iff h0]
    constructor
    · rw [Nat.pow_add]; exact Nat.mul_le_mul_right _ (Nat.log2_self_le (by omega))
    · rw [show n.log2 + k + 1 = (n.log2 + 1) + k from by omega, Nat.pow_add]; exact Nat.mul_lt_mul_of_pos_right Nat.lt_log2_self hp
  have hm : min (drop + k) ((n * 2 ^ k).log2 + 2) = min drop (n.log2 + 2) + k := by rw [hl]; omega
  simp only [hm, Nat.shiftLeft_eq, Nat.one_mul]
  generalize min drop (n.log2 + 2) = g
  have hp : 0 < 2 ^ k := Nat.two_pow_pos k
  have hg : 0 < 2 ^ g := Nat.two_pow_pos g
  rw [Nat.pow_add]
  have hd : n * 2 ^ k / (2 ^ g * 2 ^ k) = n / 2 ^ g := Nat.mul_div_mul_right _ _ hp
  have hr : n * 2 ^ k % (2 ^ g * 2 ^ k) = (n % 2 ^ g) * 2 ^ k := Nat.mul_mod_mul_right _ _ _
  rw [hd, hr]
  have c1 : (2 ^ g * 2 ^ k < 2 * (n % 2 ^ g * 2 ^ k)) ↔ (2 ^ g < 2 * (n % 2 ^ g)) := by
    rw [← Nat.mul_assoc]; exact Nat.mul_lt_mul_right hp
  have c2 : (2 ^ g * 2 ^ k = 2 * (n % 2 ^ g * 2 ^ k)) ↔ (2 ^ g = 2 * (n % 2 ^ g)) := by
    rw [← Nat.mul_assoc]; exact ⟨fun h => Nat.eq_of_mul_eq_mul_right hp h, fun h => congrArg (· * 2 ^ k) h⟩
  have b2 : (2 ^ g * 2 ^ k == 2 * (n % 2 ^ g * 2 ^ k)) = (2 ^ g == 2 * (n % 2 ^ g)) := by
    rw [Bool.eq_iff_iff]; simp only [beq_iff_eq]; exact c2
  simp only [c1, b2]

theorem log2_scale (n k : Nat) (hn : 0 < n) : (n * 2 ^ k).log2 = n.log2 + k := by
  have hp : 0 < 2 ^ k := Nat.two_pow_pos k
  have h0 : n * 2 ^ k ≠ 0 := Nat.ne_of_gt (Nat.mul_pos hn hp)
  rw [Nat.log2_eq_iff h0]
  constructor
  · rw [Nat.pow_add]; exact Nat.mul_le_mul_right _ (Nat.log2_self_le (by omega))
  · rw [show n.log2 + k + 1 = (n.log2 + 1) + k from by omega, Nat.pow_add]; exact Nat.mul_lt_mul_of_pos_right Nat.lt_log2_self hp

theorem nearest_scale (f : Format) (neg : Bool) (mag k : Nat) (place : Int) : f.nearest neg (mag * 2 ^ k) (place - k) = f.nearest neg mag place := by
  by_cases h0 : mag = 0
  · subst h0; simp [Format.nearest]
  · have hm : 0 < mag := Nat.pos_of_ne_zero h0
    have hp : 0 < 2 ^ k := Nat.two_pow_pos k
    have h1 : mag * 2 ^ k ≠ 0 := Nat.ne_of_gt (Nat.mul_pos hm hp)
    unfold Format.nearest
    rw [if_neg h0, if_neg h1]
    simp only [log2_scale mag k hm]
    have e : (place - (k : Int) + ((mag.log2 + k : Nat) : Int) - (f.fractionBits : Int)) = place + (mag.log2 : Int) - f.fractionBits := by omega
    rw [e]
    generalize max (place + (mag.log2 : Int) - f.fractionBits) f.leastPlace = last
    have hk : Toward.even.cut neg ((mag * 2 ^ k) <<< (place - (k : Int) - last).toNat) (last - (place - (k : Int))).toNat = Toward.even.cut neg (mag <<< (place - last).toNat) (last - place).toNat := by
      by_cases hc : last ≤ place - k
      · have e1 : (last - (place - (k : Int))).toNat = 0 := by omega
        have e2 : (last - place).toNat = 0 := by omega
        rw [e1, e2, Nat.shiftLeft_eq, Nat.shiftLeft_eq, Nat.mul_assoc, ← Nat.pow_add]
        congr 3; omega
      · have e1 : (place - (k : Int) - last).toNat = 0 := by omega
        rw [e1, Nat.shiftLeft_zero, Nat.shiftLeft_eq]
        by_cases hd : last ≤ place
        · have e3 : (last - place).toNat = 0 := by omega
          have e4 : (last - (place - (k : Int))).toNat = 0 + (last - (place - (k : Int))).toNat := by omega
          rw [e3, e4]
          have e5 : mag * 2 ^ k = mag * 2 ^ (place - last).toNat * 2 ^ (last - (place - (k : Int))).toNat := by
            rw [Nat.mul_assoc, ← Nat.pow_add]; congr 2; omega
          rw [e5, cut_scale _ _ _ _ (Nat.mul_pos hm (Nat.two_pow_pos _))]
        · have e3 : (place - last).toNat = 0 := by omega
          have e4 : (last - (place - (k : Int))).toNat = (last - place).toNat + k := by omega
          rw [e3, e4, cut_scale _ _ _ _ hm]; simp
    rw [hk]

/-! ### Canonical words -/
theorem cut_zero (neg : Bool) (n : Nat) : Toward.even.cut neg n 0 = n := by
  unfold Toward.cut
  have h : min 0 (n.log2 + 2) = 0 := by omega
  simp [h, Nat.mod_one]

theorem rung_le (q m : Nat) (h1 : m ≤ 9007199254740992) (h2 : q ≤ 1976) : min (q * 4503599627370496 + m) 9218868437227405312 = q * 4503599627370496 + m :=
  Nat.min_eq_left (by omega)

theorem nearest_canon (neg : Bool) (m : Nat) (p : Int) (h1 : 4503599627370496 ≤ m) (h2 : m ≤ 9007199254740992) (h3 : -1074 ≤ p) (h4 : p ≤ 900) :
    double.nearest neg m p = double.word neg ((p + 1074).toNat * 4503599627370496 + m) := by
  by_cases h5 : m = 9007199254740992
  · subst h5
    have e : (9007199254740992 : Nat) = 4503599627370496 * 2 ^ 1 := by decide
    have hp : p = (p + 1) - ((1 : Nat) : Int) := by omega
    rw [show double.nearest neg 9007199254740992 p = double.nearest neg (4503599627370496 * 2 ^ 1) ((p + 1) - ((1 : Nat) : Int)) from by rw [← e, ← hp], nearest_scale]
    unfold Format.nearest
    have hl : Nat.log2 4503599627370496 = 52 := by rw [show (4503599627370496 : Nat) = 2 ^ 52 from by decide, Nat.log2_two_pow]
    have hlp : double.leastPlace = -1074 := by decide
    have hfb : double.fractionBits = 52 := rfl
    have hbn : double.binade = 4503599627370496 := by decide
    have hin : double.infRung = 9218868437227405312 := by decide
    rw [if_neg (by omega), hl, hlp, hfb, hbn, hin]
    have el : max (p + 1 + ((52 : Nat) : Int) - ((52 : Nat) : Int)) (-1074) = p + 1 := by omega
    simp only [el]
    have ez : (p + 1 - (p + 1)).toNat = 0 := by omega
    have eq : (p + 1 - -1074).toNat = (p + 1074).toNat + 1 := by omega
    rw [ez, Nat.shiftLeft_zero, cut_zero, eq, rung_le _ _ (by omega) (by omega)]
    exact congrArg (double.word neg) (by omega)
  · have hl : m.log2 = 52 := by rw [Nat.log2_eq_iff (by omega)]; constructor <;> simp <;> omega
    unfold Format.nearest
    have hlp : double.leastPlace = -1074 := by decide
    have hfb : double.fractionBits = 52 := rfl
    have hbn : double.binade = 4503599627370496 := by decide
    have hin : double.infRung = 9218868437227405312 := by decide
    rw [if_neg (by omega), hl, hlp, hfb, hbn, hin]
    have el : max (p + ((52 : Nat) : Int) - ((52 : Nat) : Int)) (-1074) = p := by omega
    simp only [el]
    have ez : (p - p).toNat = 0 := by omega
    have eq : (p - -1074).toNat = (p + 1074).toNat := by omega
    rw [ez, Nat.shiftLeft_zero, cut_zero, eq, rung_le _ _ h2 (by omega)]

theorem read_canon (neg : Bool) (m : Nat) (p : Int) (h1 : 4503599627370496 ≤ m) (h2 : m < 9007199254740992) (h3 : -1074 ≤ p) (h4 : p ≤ 900) :
    double.read (double.word neg ((p + 1074).toNat * 4503599627370496 + m)) = .number neg m p := by
  have hlp : double.leastPlace = -1074 := by decide
  have hbn : double.binade = 4503599627370496 := by decide
  have hin : double.infRung = 9218868437227405312 := by decide
  have hsw : double.signWeight = 9223372036854775808 := by decide
  obtain ⟨q, hq⟩ : ∃ q : Nat, p = q - 1074 := ⟨(p + 1074).toNat, by omega⟩
  subst hq
  have eq : ((q : Int) - 1074 + 1074).toNat = q := by omega
  rw [eq]
  unfold Format.read
  simp only [hbn, hin, hsw, hlp]
  have hw : double.word neg (q * 4503599627370496 + m) / 9223372036854775808 % 2 = (if neg then 1 else 0) ∧ double.word neg (q * 4503599627370496 + m) % 9223372036854775808 = q * 4503599627370496 + m := by
    unfold Format.word
    rw [hsw]
    cases neg <;> simp <;> omega
  rw [hw.1, hw.2]
  have hs : ((if neg then 1 else 0) == 1) = neg := by cases neg <;> rfl
  rw [if_neg (by omega), if_pos (by omega)]
  have e1 : (q * 4503599627370496 + m) % 4503599627370496 = m - 4503599627370496 := by omega
  have e2 : (q * 4503599627370496 + m) / 4503599627370496 = q + 1 := by omega
  have e3 : 4503599627370496 + (m - 4503599627370496) = m := by omega
  have e4 : -1074 + ((q + 1 - 1 : Nat) : Int) = (q : Int) - 1074 := by omega
  rw [e1, e2, hs, e3, e4]

theorem read_zero (neg : Bool) : double.read (double.word neg 0) = .number neg 0 (-1074) := by cases neg <;> decide +kernel

/-! ### Whole numbers -/
/-- The float of a whole number. -/
def F (n : Int) : Nat := floatOfInt .f64 n

theorem F_eq (n : Int) : F n = double.nearest (decide (n < 0)) n.natAbs 0 := rfl

theorem F_read (n : Int) (h0 : n ≠ 0) (h : n.natAbs < 9007199254740992) : ∃ k : Nat, k ≤ 52 ∧ double.read (F n) = .number (decide (n < 0)) (n.natAbs * 2 ^ k) (-(k : Int)) := by
  have hn : n.natAbs ≠ 0 := by omega
  have hl : n.natAbs.log2 < 53 := (Nat.log2_lt hn).2 (by simpa using h)
  refine ⟨52 - n.natAbs.log2, by omega, ?_⟩
  generalize hk : 52 - n.natAbs.log2 = k
  have hlk : n.natAbs.log2 + k = 52 := by omega
  have hp : 0 < 2 ^ k := Nat.two_pow_pos k
  have hlo : 4503599627370496 ≤ n.natAbs * 2 ^ k := by
    have := Nat.mul_le_mul_right (2 ^ k) (Nat.log2_self_le hn)
    rw [← Nat.pow_add, hlk] at this; simpa using this
  have hhi : n.natAbs * 2 ^ k < 9007199254740992 := by
    have := Nat.mul_lt_mul_of_pos_right (@Nat.lt_log2_self n.natAbs) hp
    rw [← Nat.pow_add, show n.natAbs.log2 + 1 + k = 53 from by omega] at this; simpa using this
  have e : F n = double.nearest (decide (n < 0)) (n.natAbs * 2 ^ k) (-(k : Int)) := by
    rw [F_eq, ← nearest_scale double _ n.natAbs k 0]; congr 1; omega
  rw [e, nearest_canon _ _ _ hlo (by omega) (by omega) (by omega), read_canon _ _ _ hlo hhi (by omega) (by omega)]

theorem F_zero : F 0 = 0 := rfl

theorem F_is (n : Int) (h : n.natAbs < 9007199254740992) : Is (F n) (n * (P2 1074 : Int)) := by
  by_cases h0 : n = 0
  · subst h0; exact ⟨false, 0, -1074, by rw [F_zero]; exact read_zero false, by omega, by simp [signed]⟩
  · obtain ⟨k, hk, hr⟩ := F_read n h0 h
    refine ⟨_, _, _, hr, by omega, ?_⟩
    have ek : (-(k : Int) + 1074).toNat = 1074 - k := by omega
    rw [ek]
    have e2 : (n.natAbs * 2 ^ k) <<< (1074 - k) = n.natAbs * P2 1074 := by
      rw [Nat.shiftLeft_eq, Nat.mul_assoc, ← Nat.pow_add]
      unfold P2
      congr 2; omega
    unfold signed
    rw [e2]
    by_cases hs : n < 0
    · simp only [hs, decide_true, if_true, Int.natCast_mul]
      rw [← Int.neg_mul]; congr 1; omega
    · simp only [hs, decide_false, Bool.false_eq_true, if_false, Int.natCast_mul]
      congr 1; omega

theorem F_order (a b : Int) (ha : a.natAbs < 9007199254740992) (hb : b.natAbs < 9007199254740992) : double.order (F a) (F b) = some (compare a b) := by
  rw [order_is (F_is a ha) (F_is b hb), compare_mul _ _ _ (P2_posI 1074)]

/-- The sign that a zero or number bears. -/
theorem F_neg (n : Int) (h : n.natAbs < 9007199254740992) : ∃ m p, double.read (F n) = .number (decide (n < 0)) m p ∧ -1074 ≤ p := by
  by_cases h0 : n = 0
  · subst h0; exact ⟨0, -1074, by rw [F_zero]; exact read_zero false, by omega⟩
  · obtain ⟨k, hk, hr⟩ := F_read n h0 h
    exact ⟨_, _, hr, by omega⟩

/-- Rounding of a sum whose exact value is a whole number. -/
theorem nearest_whole (neg : Bool) (total : Int) (base : Int) (n : Int) (hb : -1074 ≤ base) (h : total * (P2 (base + 1074).toNat : Int) = n * (P2 1074 : Int)) (hneg : neg = decide (total < 0)) :
    double.nearest neg total.natAbs base = F n := by
  have habs : total.natAbs * P2 (base + 1074).toNat = n.natAbs * P2 1074 := by
    have := congrArg Int.natAbs h
    simpa only [Int.natAbs_mul, Int.natAbs_natCast] using this
  have hs : (total < 0) ↔ (n < 0) := by
    rw [← neg_iff total _ (P2_posI (base + 1074).toNat), h, neg_iff n _ (P2_posI 1074)]
  rw [F_eq, hneg]
  have hd : decide (total < 0) = decide (n < 0) := by simp only [hs]
  rw [hd]
  by_cases hc : base ≤ 0
  · obtain ⟨k, hk⟩ : ∃ k : Nat, base = 0 - (k : Int) := ⟨(-base).toNat, by omega⟩
    have e : total.natAbs = n.natAbs * 2 ^ k := by
      have h1 : (base + 1074).toNat + k = 1074 := by omega
      have h2 : total.natAbs * P2 (base + 1074).toNat = n.natAbs * 2 ^ k * P2 (base + 1074).toNat := by
        have e3 : P2 1074 = P2 k * P2 (base + 1074).toNat := by rw [← P2_add]; exact congrArg P2 (by omega)
        rw [habs, e3, Nat.mul_assoc]; rfl
      exact Nat.eq_of_mul_eq_mul_right (P2_pos _) h2
    rw [e, hk, nearest_scale]
  · obtain ⟨k, hk⟩ : ∃ k : Nat, base = (k : Int) := ⟨base.toNat, by omega⟩
    have e : n.natAbs = total.natAbs * 2 ^ k := by
      have h2 : n.natAbs * P2 1074 = total.natAbs * 2 ^ k * P2 1074 := by
        have e3 : P2 (base + 1074).toNat = P2 k * P2 1074 := by rw [← P2_add]; exact congrArg P2 (by omega)
        rw [← habs, e3, Nat.mul_assoc]; rfl
      exact Nat.eq_of_mul_eq_mul_right (P2_pos _) h2
    rw [e, ← nearest_scale double _ total.natAbs k base]
    congr 1; omega

theorem sum_whole {s t : Bool} {m n : Nat} {i j : Int} (hi : -1074 ≤ i) (hj : -1074 ≤ j) (z : Int) (h : signed s m (i + 1074).toNat + signed t n (j + 1074).toNat = z * (P2 1074 : Int)) (hst : z = 0 → (s && t) = false) :
    ((Datum.number s m i).sum (.number t n j)).map double.write = some (F z) := by
  simp only [Datum.sum, Option.map_some, Format.write, Option.some.injEq]
  have e1 : (i + 1074).toNat = (i - min i j).toNat + (min i j + 1074).toNat := by omega
  have e2 : (j + 1074).toNat = (j - min i j).toNat + (min i j + 1074).toNat := by omega
  rw [e1, e2, signed_add, signed_add, ← Int.add_mul] at h
  generalize signed s m (i - min i j).toNat + signed t n (j - min i j).toNat = total at h
  have h2 : (0 : Int) < (P2 (min i j + 1074).toNat : Int) := P2_posI _
  by_cases h0 : z = 0
  · subst h0
    have ht : total = 0 := by
      rw [Int.zero_mul] at h
      rcases Int.mul_eq_zero.1 h with h | h
      · exact h
      · omega
    subst ht
    rw [if_pos rfl, hst rfl]
    simp [Format.nearest, F_zero, Format.word]
  · have ht : total ≠ 0 := by
      rintro rfl
      rw [Int.zero_mul] at h
      rcases Int.mul_eq_zero.1 h.symm with h | h
      · exact h0 h
      · exact absurd h (Int.ne_of_gt (P2_posI 1074))
    rw [if_neg ht]
    exact nearest_whole _ total (min i j) z (by omega) h rfl

theorem add_F (a b : Int) (ha : a.natAbs < 9007199254740992) (hb : b.natAbs < 9007199254740992) : double.add (F a) (F b) = some (F (a + b)) := by
  obtain ⟨s, m, i, ra, hi, ea⟩ := F_is a ha
  obtain ⟨t, n, j, rb, hj, eb⟩ := F_is b hb
  obtain ⟨m', i', ra', _⟩ := F_neg a ha
  obtain ⟨n', j', rb', _⟩ := F_neg b hb
  rw [ra] at ra'; rw [rb] at rb'
  injection ra' with hs _ _
  injection rb' with ht _ _
  unfold Format.add
  rw [ra, rb]
  refine sum_whole hi hj (a + b) (by rw [ea, eb, Int.add_mul]) (fun h => ?_)
  rw [hs, ht]
  by_cases h1 : a < 0
  · have : ¬ b < 0 := by omega
    simp [this]
  · simp [h1]

theorem signed_not (s : Bool) (m u : Nat) : signed (!s) m u = -signed s m u := by unfold signed; cases s <;> simp

theorem sub_F (a b : Int) (ha : a.natAbs < 9007199254740992) (hb : b.natAbs < 9007199254740992) : double.sub (F a) (F b) = some (F (a - b)) := by
  obtain ⟨s, m, i, ra, hi, ea⟩ := F_is a ha
  obtain ⟨t, n, j, rb, hj, eb⟩ := F_is b hb
  obtain ⟨m', i', ra', _⟩ := F_neg a ha
  obtain ⟨n', j', rb', _⟩ := F_neg b hb
  rw [ra] at ra'; rw [rb] at rb'
  injection ra' with hs _ _
  injection rb' with ht _ _
  unfold Format.sub
  rw [ra, rb]
  simp only [Datum.opposite]
  refine sum_whole hi hj (a - b) (by rw [signed_not, ea, eb, Int.sub_mul]; omega) (fun h => ?_)
  rw [hs, ht]
  have : a = b := by omega
  subst this
  cases decide (a < 0) <;> rfl

theorem mul_F (a b : Int) (ha : 0 ≤ a) (hb : 0 ≤ b) (ha' : a.natAbs < 9007199254740992) (hb' : b.natAbs < 9007199254740992) : double.mul (F a) (F b) = some (F (a * b)) := by
  unfold Format.mul
  by_cases h0 : a = 0 ∨ b = 0
  · obtain ⟨m, i, ra, _⟩ := F_neg a ha'
    obtain ⟨n, j, rb, _⟩ := F_neg b hb'
    have hm : m * n = 0 := by
      rcases h0 with rfl | rfl
      · rw [F_zero, show (0 : Nat) = double.word false 0 from rfl, read_zero] at ra
        injection ra with _ hm _; subst hm; simp
      · rw [F_zero, show (0 : Nat) = double.word false 0 from rfl, read_zero] at rb
        injection rb with _ hm _; subst hm; simp
    have hz : a * b = 0 := by rcases h0 with rfl | rfl <;> simp
    rw [ra, rb, hz]
    have h1 : ¬ a < 0 := by omega
    have h2 : ¬ b < 0 := by omega
    simp [Datum.product, Format.write, Format.nearest, hm, h1, h2, F_zero, Format.word]
  · obtain ⟨k, _, ra⟩ := F_read a (fun h => h0 (.inl h)) ha'
    obtain ⟨l, _, rb⟩ := F_read b (fun h => h0 (.inr h)) hb'
    rw [ra, rb]
    have h1 : ¬ a < 0 := by omega
    have h2 : ¬ b < 0 := by omega
    have hab : ¬ a * b < 0 := by have := Int.mul_nonneg ha hb; omega
    simp only [Datum.product, Option.map_some, Format.write, h1, h2, decide_false, Bool.xor_false, Option.some.injEq]
    rw [F_eq, Int.natAbs_mul]
    simp only [hab, decide_false]
    rw [← nearest_scale double false (a.natAbs * b.natAbs) (k + l) 0]
    congr 1
    · rw [Nat.pow_add, Nat.mul_mul_mul_comm]
    · omega

/-! ### Large products -/
theorem log_bounds (n : Nat) (h : n ≠ 0) (a : Nat) (hlo : 2 ^ a ≤ n) (b : Nat) (hhi : n < 2 ^ b) : a ≤ n.log2 ∧ n.log2 < b :=
  ⟨(Nat.le_log2 h).2 hlo, (Nat.log2_lt h).2 hhi⟩

/-- A whole number of 54 to 100 binary digits is rounded to a word of at least 2^53. -/
theorem F_big (n : Int) (h1 : 9007199254740992 ≤ n) (h2 : n < 1267650600228229401496703205376) :
    ∃ (m : Nat) (p : Int), 4503599627370496 ≤ m ∧ m ≤ 9007199254740992 ∧ 1 ≤ p ∧ p ≤ 50 ∧ F n = double.nearest false m p := by
  obtain ⟨N, rfl⟩ := Int.eq_ofNat_of_zero_le (show 0 ≤ n by omega)
  have hN : N ≠ 0 := by omega
  obtain ⟨l1, l2⟩ := log_bounds N hN 53 (by simp; omega) 100 (by simp; omega)
  obtain ⟨d, hd⟩ : ∃ d, N.log2 = 52 + d := ⟨N.log2 - 52, by omega⟩
  have hlo : 4503599627370496 * 2 ^ d ≤ N := by
    have := Nat.log2_self_le hN; rw [hd, Nat.pow_add] at this; simpa using this
  have hhi : N < 9007199254740992 * 2 ^ d := by
    have := @Nat.lt_log2_self N; rw [show N.log2 + 1 = 53 + d from by omega, Nat.pow_add] at this; simpa using this
  have hp : 0 < 2 ^ d := Nat.two_pow_pos d
  have q1 : 4503599627370496 ≤ N / 2 ^ d := (Nat.le_div_iff_mul_le hp).2 hlo
  have q2 : N / 2 ^ d < 9007199254740992 := (Nat.div_lt_iff_lt_mul hp).2 hhi
  have hneg : decide ((N : Int) < 0) = false := by simp
  refine ⟨Toward.even.cut false N d, (d : Int), ?_, ?_, by omega, by omega, ?_⟩
  · unfold Toward.cut
    rw [show min d (N.log2 + 2) = d from by omega, Nat.shiftLeft_eq, Nat.one_mul]
    exact Nat.le_trans q1 (Nat.le_add_right _ _)
  · unfold Toward.cut
    rw [show min d (N.log2 + 2) = d from by omega, Nat.shiftLeft_eq, Nat.one_mul]
    refine Nat.le_trans (Nat.add_le_add_left (Bool.toNat_le _) _) ?_
    omega
  · rw [F_eq, hneg, Int.natAbs_natCast]
    have hc1 : 4503599627370496 ≤ Toward.even.cut false N d := by
      unfold Toward.cut
      rw [show min d (N.log2 + 2) = d from by omega, Nat.shiftLeft_eq, Nat.one_mul]
      exact Nat.le_trans q1 (Nat.le_add_right _ _)
    have hc2 : Toward.even.cut false N d ≤ 9007199254740992 := by
      unfold Toward.cut
      rw [show min d (N.log2 + 2) = d from by omega, Nat.shiftLeft_eq, Nat.one_mul]
      refine Nat.le_trans (Nat.add_le_add_left (Bool.toNat_le _) _) ?_
      omega
    rw [nearest_canon false _ (d : Int) hc1 hc2 (by omega) (by omega)]
    unfold Format.nearest
    have hlp : double.leastPlace = -1074 := by decide
    have hfb : double.fractionBits = 52 := rfl
    have hbn : double.binade = 4503599627370496 := by decide
    have hin : double.infRung = 9218868437227405312 := by decide
    rw [if_neg hN, hd, hlp, hfb, hbn, hin]
    have el : max (0 + ((52 + d : Nat) : Int) - ((52 : Nat) : Int)) (-1074) = (d : Int) := by omega
    simp only [el]
    have ez : (0 - (d : Int)).toNat = 0 := by omega
    have ed : ((d : Int) - 0).toNat = d := by omega
    have eq : ((d : Int) - -1074).toNat = ((d : Int) + 1074).toNat := by omega
    rw [ez, ed, Nat.shiftLeft_zero, eq, rung_le _ _ hc2 (by omega)]

theorem read_near (m : Nat) (p : Int) (h1 : 4503599627370496 ≤ m) (h2 : m ≤ 9007199254740992) (h3 : 1 ≤ p) (h4 : p ≤ 50) :
    ∃ (m' : Nat) (p' : Int), 4503599627370496 ≤ m' ∧ m' < 9007199254740992 ∧ 1 ≤ p' ∧ p' ≤ 51 ∧ double.read (double.nearest false m p) = .number false m' p' ∧ double.nearest false m p = double.nearest false m' p' := by
  by_cases h5 : m = 9007199254740992
  · have e : double.nearest false m p = double.nearest false 4503599627370496 (p + 1) := by
      rw [h5, show (9007199254740992 : Nat) = 4503599627370496 * 2 ^ 1 from by decide, show p = (p + 1) - ((1 : Nat) : Int) from by omega, nearest_scale]
      congr 1; omega
    refine ⟨4503599627370496, p + 1, by omega, by omega, by omega, by omega, ?_, e⟩
    rw [e, nearest_canon _ _ _ (by omega) (by omega) (by omega) (by omega), read_canon _ _ _ (by omega) (by omega) (by omega) (by omega)]
  · exact ⟨m, p, h1, by omega, h3, by omega, by rw [nearest_canon _ _ _ (by omega) (by omega) (by omega) (by omega), read_canon _ _ _ (by omega) (by omega) (by omega) (by omega)], rfl⟩

/-- Taking nothing away from a large product, or adding it to nothing, leaves it. -/
theorem sub_big (n : Int) (h1 : 9007199254740992 ≤ n) (h2 : n < 1267650600228229401496703205376) : double.sub (F n) (F 0) = some (F n) := by
  obtain ⟨m, p, a, b, c, d, e⟩ := F_big n h1 h2
  obtain ⟨m', p', a', b', c', d', r, e'⟩ := read_near m p a b c d
  unfold Format.sub
  rw [e, r, F_zero, show (0 : Nat) = double.word false 0 from by decide, read_zero]
  simp only [Datum.opposite, Datum.sum, Option.map_some, Format.write, Option.some.injEq]
  have hb : min p' (-1074) = -1074 := by omega
  rw [hb, e']
  obtain ⟨k, hk⟩ : ∃ k : Nat, p' = -1074 + (k : Int) := ⟨(p' + 1074).toNat, by omega⟩
  have ek : (p' - -1074).toNat = k := by omega
  have ez : ((-1074 : Int) - -1074).toNat = 0 := by omega
  rw [ek, ez]
  have hs : signed false m' k + signed (!false) 0 0 = ((m' * 2 ^ k : Nat) : Int) := by simp [signed, Nat.shiftLeft_eq]
  have hpos : 0 < m' * 2 ^ k := Nat.mul_pos (by omega) (Nat.two_pow_pos _)
  rw [hs, if_neg (by omega), Int.natAbs_natCast]
  have hlt : decide (((m' * 2 ^ k : Nat) : Int) < 0) = false := by simp only [decide_eq_false_iff_not]; omega
  rw [hlt, ← nearest_scale double false m' k p']
  congr 1; omega

theorem add_big (n : Int) (h1 : 9007199254740992 ≤ n) (h2 : n < 1267650600228229401496703205376) : double.add (F 0) (F n) = some (F n) := by
  obtain ⟨m, p, a, b, c, d, e⟩ := F_big n h1 h2
  obtain ⟨m', p', a', b', c', d', r, e'⟩ := read_near m p a b c d
  unfold Format.add
  rw [e, r, F_zero, show (0 : Nat) = double.word false 0 from by decide, read_zero]
  simp only [Datum.sum, Option.map_some, Format.write, Option.some.injEq]
  have hb : min (-1074) p' = -1074 := by omega
  rw [hb, e']
  obtain ⟨k, hk⟩ : ∃ k : Nat, p' = -1074 + (k : Int) := ⟨(p' + 1074).toNat, by omega⟩
  have ek : (p' - -1074).toNat = k := by omega
  have ez : ((-1074 : Int) - -1074).toNat = 0 := by omega
  rw [ek, ez]
  have hs : signed false 0 0 + signed false m' k = ((m' * 2 ^ k : Nat) : Int) := by simp [signed, Nat.shiftLeft_eq]
  have hpos : 0 < m' * 2 ^ k := Nat.mul_pos (by omega) (Nat.two_pow_pos _)
  rw [hs, if_neg (by omega), Int.natAbs_natCast]
  have hlt : decide (((m' * 2 ^ k : Nat) : Int) < 0) = false := by simp only [decide_eq_false_iff_not]; omega
  rw [hlt, ← nearest_scale double false m' k p']
  congr 1; omega

theorem order_big (n : Int) (h1 : 9007199254740992 ≤ n) (h2 : n < 1267650600228229401496703205376) (c : Int) (hc : c.natAbs ≤ 1099511627776) : double.order (F n) (F c) = some .gt := by
  obtain ⟨m, p, a, b, c1, d, e⟩ := F_big n h1 h2
  obtain ⟨m', p', a', b', c', d', r, e'⟩ := read_near m p a b c1 d
  have hi : Is (F n) (((m' : Int) * (P2 p'.toNat : Int)) * (P2 1074 : Int)) := by
    refine ⟨false, m', p', by rw [e]; exact r, by omega, ?_⟩
    unfold signed
    simp only [Bool.false_eq_true, if_false, Nat.shiftLeft_eq]
    rw [show (p' + 1074).toNat = p'.toNat + 1074 from by omega]
    show ((m' * P2 (p'.toNat + 1074) : Nat) : Int) = _
    rw [P2_add, Int.natCast_mul, Int.natCast_mul, ← Int.mul_assoc]
  rw [order_is hi (F_is c (by omega)), compare_mul _ _ _ (P2_posI 1074)]
  have hp : 1 ≤ (P2 p'.toNat : Int) := by have := P2_posI p'.toNat; omega
  have hm : (m' : Int) ≤ (m' : Int) * (P2 p'.toNat : Int) := by
    have := Int.mul_le_mul_of_nonneg_left hp (show (0 : Int) ≤ m' by omega)
    omega
  have : c < (m' : Int) * (P2 p'.toNat : Int) := by omega
  simp only [compare, compareOfLessAndEq]
  rw [if_neg (by omega), if_neg (by omega)]

/-! ### What the model's operations give -/
theorem const_most : (4787326403894837248 : Nat) = F 1099511627776 := by decide +kernel

theorem compare_lt {a b : Int} (h : a < b) : compare a b = .lt := by simp only [compare, compareOfLessAndEq, if_pos h]
theorem compare_eq (a : Int) : compare a a = .eq := by simp [compare, compareOfLessAndEq]
theorem compare_gt {a b : Int} (h : b < a) : compare a b = .gt := by
  simp only [compare, compareOfLessAndEq]; rw [if_neg (by omega), if_neg (by omega)]

section
variable {P : Program} (w : World)
theorem run_max_lt (ts : Array TypeId) (t : TypeId) (a b : Nat) (h : double.order a b = some .lt) : (Builtin.max_ ts t #[.float .f64 a, .float .f64 b]).run P w = .ok (.float .f64 b) w := by
  have h' : FloatKind.f64.format.order a b = some .lt := h
  simp [Builtin.max_, Builtin.max2, h']
theorem run_max_gt (ts : Array TypeId) (t : TypeId) (a b : Nat) (h : double.order a b = some .gt) : (Builtin.max_ ts t #[.float .f64 a, .float .f64 b]).run P w = .ok (.float .f64 a) w := by
  have h' : FloatKind.f64.format.order a b = some .gt := h
  simp [Builtin.max_, Builtin.max2, h']
theorem run_max_same (ts : Array TypeId) (t : TypeId) (a : Nat) (h : double.order a a = some .eq) : (Builtin.max_ ts t #[.float .f64 a, .float .f64 a]).run P w = .ok (.float .f64 a) w := by
  have h' : FloatKind.f64.format.order a a = some .eq := h
  simp [Builtin.max_, Builtin.max2, h']
theorem run_min_lt (ts : Array TypeId) (t : TypeId) (a b : Nat) (h : double.order a b = some .lt) : (Builtin.min_ ts t #[.float .f64 a, .float .f64 b]).run P w = .ok (.float .f64 a) w := by
  have h' : FloatKind.f64.format.order a b = some .lt := h
  simp [Builtin.min_, Builtin.min2, h']
theorem run_min_gt (ts : Array TypeId) (t : TypeId) (a b : Nat) (h : double.order a b = some .gt) : (Builtin.min_ ts t #[.float .f64 a, .float .f64 b]).run P w = .ok (.float .f64 b) w := by
  have h' : FloatKind.f64.format.order a b = some .gt := h
  simp [Builtin.min_, Builtin.min2, h']
theorem run_min_same (ts : Array TypeId) (t : TypeId) (a : Nat) (h : double.order a a = some .eq) : (Builtin.min_ ts t #[.float .f64 a, .float .f64 a]).run P w = .ok (.float .f64 a) w := by
  have h' : FloatKind.f64.format.order a a = some .eq := h
  simp [Builtin.min_, Builtin.min2, h']

/-- At least 0. -/
def up (n : Int) : Int := max n 0
/-- At most the greatest part. -/
def most (n : Int) : Int := min n 1099511627776

/-- A number that a step may come to: small of either sign, or large. -/
def Num (n : Int) : Prop := -9007199254740992 < n ∧ n < 1267650600228229401496703205376

theorem F_up (n : Int) (hn : Num n) (ts : Array TypeId) (t : TypeId) : (Builtin.max_ ts t #[.float .f64 (F n), .float .f64 0]).run P w = .ok (.float .f64 (F (up n))) w := by
  unfold Num at hn
  unfold up
  rw [show (0 : Nat) = F 0 from F_zero.symm]
  by_cases hb : 9007199254740992 ≤ n
  · rw [run_max_gt _ _ _ _ _ (order_big n hb hn.2 0 (by decide))]; congr 3; omega
  · by_cases h : n < 0
    · rw [run_max_lt _ _ _ _ _ (by rw [F_order _ _ (by omega) (by decide), compare_lt h])]; congr 3; omega
    · by_cases h2 : n = 0
      · subst h2
        rw [run_max_same _ _ _ _ (by rw [F_order _ _ (by decide) (by decide), compare_eq])]; rfl
      · rw [run_max_gt _ _ _ _ _ (by rw [F_order _ _ (by omega) (by decide), compare_gt (by omega)])]; congr 3; omega

theorem F_most (n : Int) (h0 : 0 ≤ n) (hn : Num n) (ts : Array TypeId) (t : TypeId) : (Builtin.min_ ts t #[.float .f64 (F n), .float .f64 4787326403894837248]).run P w = .ok (.float .f64 (F (most n))) w := by
  unfold Num at hn
  unfold most
  rw [const_most]
  by_cases hb : 9007199254740992 ≤ n
  · rw [run_min_gt _ _ _ _ _ (order_big n hb hn.2 1099511627776 (by decide))]; congr 3; omega
  · by_cases h : n < 1099511627776
    · rw [run_min_lt _ _ _ _ _ (by rw [F_order _ _ (by omega) (by decide), compare_lt h])]; congr 3; omega
    · by_cases h2 : n = 1099511627776
      · subst h2
        rw [run_min_same _ _ _ _ (by rw [F_order _ _ (by decide) (by decide), compare_eq])]; rfl
      · rw [run_min_gt _ _ _ _ _ (by rw [F_order _ _ (by omega) (by decide), compare_gt (by omega)])]; congr 3; omega
end

/-- A part of a charge. -/
def Part (n : Int) : Prop := 0 ≤ n ∧ n ≤ 1099511627776

theorem integral_F (n : Int) (h : Part n) : double.write ((double.read (F n)).integral .zero) = F n ∧ (double.read (F n)).toInt .zero = some n ∧ (double.read (F n)).isNaN = false := by
  unfold Part at h
  by_cases h0 : n = 0
  · subst h0; exact ⟨by decide +kernel, by decide +kernel, by decide +kernel⟩
  · obtain ⟨k, hk, hr⟩ := F_read n h0 (by omega)
    have hneg : decide (n < 0) = false := by simp; omega
    rw [hneg] at hr
    have e1 : (-(k : Int)).toNat = 0 := by omega
    have e2 : (-(-(k : Int))).toNat = k := by omega
    have hp : 0 < n.natAbs := by omega
    have hc : Toward.zero.cut false (n.natAbs * 2 ^ k) k = n.natAbs := by
      unfold Toward.cut
      rw [log2_scale _ _ hp, show min k (n.natAbs.log2 + k + 2) = k from by omega, Nat.shiftLeft_eq, Nat.one_mul]
      dsimp only
      rw [Nat.mul_div_cancel _ (Nat.two_pow_pos k)]
      rfl
    refine ⟨?_, ?_, ?_⟩
    · rw [hr]
      simp only [Datum.integral, Format.write, e1, e2, Nat.shiftLeft_zero, hc]
      rw [F_eq, hneg]
    · rw [hr]
      simp only [Datum.toInt, Datum.integral, e1, e2, Nat.shiftLeft_zero, hc, signed, Bool.false_eq_true, if_false, Option.some.injEq]
      omega
    · rw [hr]; rfl

theorem toInt_F (n : Int) (h : Part n) : floatToIntVal .f64 (F n) .i64 = some n := by
  have h2 := (integral_F n h).2.1
  unfold Part at h
  unfold floatToIntVal
  have h3 : (FloatKind.f64.decode (F n)).toInt .zero = some n := h2
  rw [h3]
  have hmin : IntKind.i64.min = -9223372036854775808 := by decide
  have hmax : IntKind.i64.max = 9223372036854775807 := by decide
  simp only [hmin, hmax]
  rw [if_pos (by omega)]

theorem integral_run (name : String) (x : Nat) (s : Bool) (m : Nat) (p : Int) (h : FloatKind.f64.decode x = .number s m p) :
    Extern.MathFloor.toIntegral name .zero #[.float .f64 x] = pure (.float .f64 (FloatKind.f64.encode ((Datum.number s m p).integral .zero))) := by
  rw [← h]
  delta Extern.MathFloor.toIntegral
  show (match FloatKind.f64.decode x with | .nan s t => _ | d => _) = _
  rw [h]

theorem trunc_F {P : Program} (w : World) (name : String) (n : Int) (h : Part n) : (Extern.MathFloor.toIntegral name .zero #[.float .f64 (F n)]).run P w = .ok (.float .f64 (F n)) w := by
  have h1 := (integral_F n h).1
  obtain ⟨m, p, hr, _⟩ := F_neg n (by unfold Part at h; omega)
  rw [integral_run name (F n) _ m p hr, Sem.run_pure]
  rw [hr] at h1
  congr 2

/-! ### Charges -/
/-- The complex number of two whole numbers. -/
def chg (a b : Int) : Value := .complex .f64 (F a) (F b)

theorem sum_bits {a b c d : Int} (ha : Part a) (hb : Part b) (hc : Part c) (hd : Part d) : cSumBits .add .f64 (F a) (F b) (F c) (F d) = some (F (a + c), F (b + d)) := by
  unfold Part at *
  unfold cSumBits
  have h1 : floatBits .add .f64 (F a) (F c) = some (F (a + c)) := add_F a c (by omega) (by omega)
  have h2 : floatBits .add .f64 (F b) (F d) = some (F (b + d)) := add_F b d (by omega) (by omega)
  rw [h1, h2]; rfl

theorem sub_bits {a b c d : Int} (ha : Part a) (hb : Part b) (hc : Part c) (hd : Part d) : cSumBits .sub .f64 (F a) (F b) (F c) (F d) = some (F (a - c), F (b - d)) := by
  unfold Part at *
  unfold cSumBits
  have h1 : floatBits .sub .f64 (F a) (F c) = some (F (a - c)) := sub_F a c (by omega) (by omega)
  have h2 : floatBits .sub .f64 (F b) (F d) = some (F (b - d)) := sub_F b d (by omega) (by omega)
  rw [h1, h2]; rfl

theorem prod_bound {a f : Int} (ha : Part a) (hf : Part f) : 0 ≤ a * f ∧ a * f < 1267650600228229401496703205376 := by
  unfold Part at *
  refine ⟨Int.mul_nonneg ha.1 hf.1, ?_⟩
  have := Int.mul_le_mul ha.2 hf.2 hf.1 (by omega)
  omega

theorem sub_nothing (n : Int) (h0 : 0 ≤ n) (h : n < 1267650600228229401496703205376) : floatBits .sub .f64 (F n) (F 0) = some (F n) := by
  by_cases hb : 9007199254740992 ≤ n
  · exact sub_big n hb h
  · have := sub_F n 0 (by omega) (by decide)
    rw [Int.sub_zero] at this; exact this

theorem add_nothing (n : Int) (h0 : 0 ≤ n) (h : n < 1267650600228229401496703205376) : floatBits .add .f64 (F 0) (F n) = some (F n) := by
  by_cases hb : 9007199254740992 ≤ n
  · exact add_big n hb h
  · have := add_F 0 n (by decide) (by omega)
    rw [Int.zero_add] at this; exact this

theorem mul_bits {a b f : Int} (ha : Part a) (hb : Part b) (hf : Part f) : cMulBits (F a) (F b) (F f) 0 = some (F (a * f), F (b * f)) := by
  have pa := prod_bound ha hf
  have pb := prod_bound hb hf
  unfold Part at ha hb hf
  unfold cMulBits
  have h1 : floatBits .mul .f64 (F a) (F f) = some (F (a * f)) := mul_F a f ha.1 hf.1 (by omega) (by omega)
  have h2 : floatBits .mul .f64 (F b) (F 0) = some (F 0) := by have := mul_F b 0 hb.1 (by decide) (by omega) (by decide); rwa [Int.mul_zero] at this
  have h3 : floatBits .mul .f64 (F a) (F 0) = some (F 0) := by have := mul_F a 0 ha.1 (by decide) (by omega) (by decide); rwa [Int.mul_zero] at this
  have h4 : floatBits .mul .f64 (F b) (F f) = some (F (b * f)) := mul_F b f hb.1 hf.1 (by omega) (by omega)
  rw [show (0 : Nat) = F 0 from F_zero.symm, h1, h2, h3, h4]
  simp only [Option.bind_some]
  rw [sub_nothing _ pa.1 pa.2, add_nothing _ pb.1 pb.2]
  rfl
end Go.Proofs.Ytafcepjkjcnmfaa.Fl
