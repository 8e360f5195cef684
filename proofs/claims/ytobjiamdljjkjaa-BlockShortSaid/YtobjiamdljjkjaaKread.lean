/- What Read of package ikey, and the document's own ReadKey, answer: one contract each, for all bytes. -/
import Derived.Test.YtobjiamdljjkjaaKget
import Derived.Handy
import Derived.Laws.ResultCell
namespace Go.Proofs.Ytobjiamdljjkjaa.Ik
set_option linter.unusedVariables false
set_option linter.unusedSimpArgs false
open Go.RowKit Lift

/-- The key that bytes are, whether it is valid or not; the key that is answered; the error. -/
def rawK (bs : List Nat) : K := ⟨bs.take (bs.length - 8), num (bs.drop (bs.length - 8)) / 256, ((num (bs.drop (bs.length - 8)) % 256 : Nat) : Int)⟩
def okR (bs : List Nat) : Bool := okB (rawK bs).key.length (rawK bs).seq (rawK bs).kind
def resK (bs : List Nat) : K := if bs.length < 9 then ⟨[], 0, 0⟩ else if okR bs = true then rawK bs else ⟨[], 0, 0⟩
def resE (bs : List Nat) : Nat := if bs.length < 9 then 4 else if okR bs = true then 0 else 2

/-- A box whose block is known. -/
def Blk (W : World) (g : Nat) (u0 u1 u2 : Value) : Prop := W.heap[g]? = some (.cells #[u0, u1, u2] 38 (0, 0))
theorem Blk.facts {W : World} {g : Nat} {u0 u1 u2 : Value} (h : Blk W g u0 u1 u2) : W.cell? ⟨g, 0, none⟩ = some u0 ∧ W.cell? ⟨g, 1, none⟩ = some u1 ∧ W.cell? ⟨g, 2, none⟩ = some u2 ∧
    W.frozen? ⟨g, 0, none⟩ = false ∧ W.frozen? ⟨g, 1, none⟩ = false ∧ W.frozen? ⟨g, 2, none⟩ = false :=
  ⟨(cell_of_row W g 0 _ _ _ h).trans rfl, (cell_of_row W g 1 _ _ _ h).trans rfl, (cell_of_row W g 2 _ _ _ h).trans rfl, frozen_of_row W g 0 _ _ h, frozen_of_row W g 1 _ _ h, frozen_of_row W g 2 _ _ h⟩
theorem Blk.new (W : World) (u0 u1 u2 : Value) : Blk (W.alloc (.cells #[u0, u1, u2] 38)) W.heap.size u0 u1 u2 := heap_alloc_new W _
theorem Blk.later {W W' : World} {B g : Nat} {u0 u1 u2 : Value} (h : Blk W g u0 u1 u2) (hb : Below B W W') (hg : g < B) : Blk W' g u0 u1 u2 := (hb.block g hg).trans h

theorem Blk.set0 {W : World} {g : Nat} {u0 u1 u2 v0 : Value} (h : Blk W g u0 u1 u2) : Blk (W.setCell ⟨g, 0, none⟩ v0) g v0 u1 u2 := heap_setCell_same W g 0 _ _ v0 h
theorem Blk.set1 {W : World} {g : Nat} {u0 u1 u2 v1 : Value} (h : Blk W g u0 u1 u2) : Blk (W.setCell ⟨g, 1, none⟩ v1) g u0 v1 u2 := heap_setCell_same W g 1 _ _ v1 h
theorem Blk.set2 {W : World} {g : Nat} {u0 u1 u2 v2 : Value} (h : Blk W g u0 u1 u2) : Blk (W.setCell ⟨g, 2, none⟩ v2) g u0 u1 v2 := heap_setCell_same W g 2 _ _ v2 h
theorem Blk.set {W : World} {g k i : Nat} {u0 u1 u2 v : Value} (h : Blk W g u0 u1 u2) (hk : g ≠ k) : Blk (W.setCell ⟨k, i, none⟩ v) g u0 u1 u2 := (heap_setCell_other W ⟨k, i, none⟩ g v hk).trans h

theorem own_later' {w w' : World} {base size n : Nat} {e : TypeId} {v : Value} {xs : List Value} (h : w.ownsRow base e size v n xs) (hb : Below w.heap.size w w') : w'.ownsRow base e size v n xs := by
  refine ⟨h.1, ?_⟩
  rcases h.2 with h0 | ⟨g, cap, cur, hv, hB, hh, r⟩
  · exact .inl h0
  · exact .inr ⟨g, cap, cur, hv, hB, (hb.block g (Array.getElem?_eq_some_iff.1 hh).1).trans hh, r⟩
/-- A key in a box and a number, handed back. -/
theorem results_blk {fn : Func} {p u : Tmp} (h : fn.results = #[.cell p 38, .tmp u]) (tmps : Array Value) (W : World) (g : Nat) (u0 u1 u2 : Value) (hp : tmps.getD p undef = .pointer (some ⟨g, 0, none⟩)) (hb : Blk W g u0 u1 u2) :
    (results fn tmps).run Try.prog W = .ok (.tuple #[.agg #[u0, u1, u2], tmps.getD u undef]) W := by
  rw [results_cell_tmp h, hp]
  have hl := run_loadVar_row (P := Try.prog) W g 38 38 #[u0, u1, u2] (0, 0) _ hb Try.underlying38 rfl (by kernel_rfl)
  simp only [asAddr, Sem.run_pure, Result.andThen, hl]

/-- What is answered of bytes. -/
def Told (W : World) (bs : List Nat) (e : Ending) (w' : World) : Prop :=
  ∃ (A : Option Addr) (c : Nat), e = .returned (.tuple #[key A c (resK bs), .int .i64 (resE bs : Nat)]) ∧ At w' w'.heap.size A c (resK bs) ∧ Below W.heap.size W w'

theorem none_at (w : World) : At w w.heap.size none 0 ⟨[], 0, 0⟩ := ⟨.inl rfl, Nat.le_refl _, by decide, by unfold K.ok; simp⟩
theorem told_short {W w' : World} {bs : List Nat} (h : bs.length < 9) (hb : Below W.heap.size W w') :
    Told W bs (.returned (.tuple #[.agg #[.slice none 0 0, .int .u64 0, .int .i64 0], .int .i64 4])) w' := by
  refine ⟨none, 0, ?_, ?_, hb⟩
  · simp [resK, resE, h]
  · simp only [resK, if_pos h]; exact none_at w'
theorem told_bad {W w' : World} {bs : List Nat} (h : ¬ bs.length < 9) (ho : okR bs = false) (hb : Below W.heap.size W w') :
    Told W bs (.returned (.tuple #[.agg #[.slice none 0 0, .int .u64 0, .int .i64 0], .int .i64 2])) w' := by
  refine ⟨none, 0, ?_, ?_, hb⟩
  · simp [resK, resE, h, ho]
  · simp only [resK, if_neg h, ho]; exact none_at w'

theorem told_ok {W w' : World} {bs : List Nat} {n y c : Nat} {A : Option Addr} (hk : (bs.take n).length = n) (hn : bs.length = n + 8) (h : 9 ≤ bs.length) (ho : okR bs = true) (hb : Below W.heap.size W w') (hc : n ≤ c) (hm : c ≤ maxLen) (h8 : ∀ x, x ∈ bs → x < 256)
    (hy : y = num (bs.drop n)) (hl : Lies w' w'.heap.size A ((bs.take n).map vb)) :
    Told W bs (.returned (.tuple #[.agg #[.slice A n c, .int .u64 ((y : Int) / 256), .int .i64 ((y : Int) % 256)], .int .i64 0])) w' := by
  have hr : resK bs = ⟨bs.take n, y / 256, ((y % 256 : Nat) : Int)⟩ := by
    unfold resK
    rw [if_neg (by omega), if_pos ho, rawK, show bs.length - 8 = n by omega, hy]
  have he : resE bs = 0 := by unfold resE; rw [if_neg (by omega), if_pos ho]
  have hy2 := num_lt (bs.drop n) fun c hc => h8 c (List.mem_of_mem_drop hc)
  rw [List.length_drop, show bs.length - n = 8 by omega] at hy2
  refine ⟨A, c, ?_, ?_, hb⟩
  · rw [hr, he]
    show _ = Ending.returned (.tuple #[.agg #[.slice A (bs.take n).length c, _, _], _])
    rw [hk]
    rfl
  · rw [hr]
    refine ⟨hl, by rw [hk]; exact hc, hm, fun x hx => h8 x (List.mem_of_mem_take hx), by simp only; omega, ?_, ?_⟩ <;> simp only <;> omega

theorem or_step (t c j : Nat) (hj : j < 8) (ht : t < 256 ^ j) (hc : c < 256) : bits .or .u64 (t : Int) (IntKind.u64.wrap ((c : Int) * 2 ^ (8 * j))) = ((t + c * 256 ^ j : Nat) : Int) := by
  have hp : 256 ^ j ≤ 256 ^ 7 := Nat.pow_le_pow_right (by decide) (by omega)
  have p7 : (256 : Nat) ^ 7 = 72057594037927936 := by decide
  have hm : c * 256 ^ j ≤ 255 * 256 ^ 7 := Nat.mul_le_mul (by omega) hp
  rw [pow8_cast, ← Int.natCast_mul]
  rw [show IntKind.u64.wrap ((c * 256 ^ j : Nat) : Int) = ((c * 256 ^ j : Nat) : Int) by simp only [IntKind.wrap_u64]; omega]
  rw [u64_or_nat _ _ (by omega) (by omega)]
  have e := Nat.two_pow_add_eq_or_of_lt (i := 8 * j) (b := t) (by rw [Nat.pow_mul]; exact ht) c
  rw [show 2 ^ (8 * j) * c = c * 256 ^ j by rw [Nat.pow_mul, Nat.mul_comm]] at e
  rw [Nat.or_comm, ← e, Nat.add_comm]

theorem num_step {bs : List Nat} {n j d y : Nat} (hd : bs[n + j]? = some d) (hy : y = num ((bs.drop n).take j)) : y + d * 256 ^ j = num ((bs.drop n).take (j + 1)) := by
  have h1 : (bs.drop n)[j]? = some d := by rw [List.getElem?_drop]; exact hd
  have h2 : ((bs.drop n).take j).length = j := by
    have := (List.getElem?_eq_some_iff.1 h1).1
    rw [List.length_take]; omega
  rw [List.take_add_one, h1, Option.toList_some, num_snoc, h2, hy]
theorem pow_step {y d j : Nat} (h : y < 256 ^ j) (hd : d < 256) : y + d * 256 ^ j < 256 ^ (j + 1) := by
  have : d * 256 ^ j ≤ 255 * 256 ^ j := Nat.mul_le_mul_right _ (by omega)
  rw [Nat.pow_succ]
  omega

set_option maxRecDepth 100000 in
set_option maxHeartbeats 400000 in
theorem read_short (A : Option Addr) (c : Nat) (bs : List Nat) (w : World) (h : bs.length < 9) :
    Calls Try.prog 118 #[.slice A bs.length c] w (Told w bs) := by
  go_enter Try.func118, Try.ntmps118
  go_wp2_with fail
  go_returns
  exact told_short h (Joins.below_alloc1 _ _)
set_option maxRecDepth 100000 in
set_option maxHeartbeats 400000 in
theorem read_any (A : Option Addr) (c : Nat) (bs : List Nat) (w : World) (hl : Lies w w.heap.size A (bs.map vb)) (hc : bs.length ≤ c) (hm : c ≤ maxLen) (hb : ∀ x, x ∈ bs → x < 256) (h : 9 ≤ bs.length) (hsmall : bs.length ≤ 140737488354000) :
    Calls Try.prog 118 #[.slice A bs.length c] w (Told w bs) := by
  unfold maxLen at hm
  have HL := Lib.hid hl
  have H8 := Lib.hid hb
  clear hl hb
  obtain ⟨n, hn⟩ : ∃ n, bs.length = n + 8 := ⟨bs.length - 8, by omega⟩
  obtain ⟨ad, rfl, _, hcell⟩ := HL.out.place (by simp; omega)
  have HC := Lib.hid (cells_at hcell)
  have en : ((bs.length : Int) - 8) = (n : Int) := by omega
  clear hcell
  go_enter Try.func118, Try.ntmps118
  go_wp2_with fail
  have hb0 := Joins.below_alloc1 w (.cells #[.slice none 0 0, .int .u64 0, .int .i64 0] 38)
  have z0 := Blk.new w (.slice none 0 0) (.int .u64 0) (.int .i64 0)
  have hsz : (w.alloc (.cells #[.slice none 0 0, .int .u64 0, .int .i64 0] 38)).heap.size = w.heap.size + 1 := by simp
  generalize w.alloc (.cells #[.slice none 0 0, .int .u64 0, .int .i64 0] 38) = W0 at hb0 z0 hsz ⊢
  have HL0 := Lib.hid (HL.out.below hb0)
  obtain ⟨_, hA, _, hcell⟩ := HL0.out.place (by simp; omega)
  cases hA
  have HC := Lib.hid (cells_at hcell)
  have HB0 := Lib.hid hb0
  have Z0 := Lib.hid z0
  have HSZ := Lib.hid hsz
  clear hcell hb0 z0 hsz
  go_loop [5, 20] (fun x i => ∃ j y : Nat, j ≤ 8 ∧ i = .int .i64 j ∧ x = .int .u64 y ∧ Hid (y = num ((bs.drop n).take j)) ∧ Hid (y < 256 ^ j)) (fun _ i => 10 - (intOf i).toNat)
  case atStart => exact ⟨0, 0, by omega, rfl, rfl, Lib.hid rfl, Lib.hid (by decide)⟩
  case round =>
    obtain ⟨j, y, hj, rfl, rfl, hy, hlt8⟩ := hrel
    by_cases hlt : j < 8
    · obtain ⟨d, hd⟩ : ∃ d : Nat, bs[n + j]? = some d := ⟨_, List.getElem?_eq_getElem (by omega)⟩
      have d8 := H8.out d (List.mem_of_getElem? hd)
      have h1 : W0.cell? ((ad.add n).add j) = some (.int .u8 (d : Int)) := by rw [add_add]; exact HC.out _ _ hd
      have e := or_step y d j hlt hlt8.out d8
      have HD := Lib.hid hd
      clear hd
      go_wp2_with fail
      go_round
      case rel => exact ⟨j + 1, y + d * 256 ^ j, by omega, by go_num, by go_num, Lib.hid (num_step HD.out hy.out), Lib.hid (pow_step hlt8.out d8)⟩
      case measure => simp [intOf]; omega
    · obtain rfl : j = 8 := by omega
      have hy2 : y = num (bs.drop n) := by rw [hy.out, List.take_of_length_le (by simp; omega)]
      have hy3 : y < 18446744073709551616 := by have := hlt8.out; omega
      have hok : okB n (y / 256) ((y : Int) % 256) = okR bs := by
        unfold okR rawK
        simp only
        rw [show bs.length - 8 = n by omega, ← hy2, List.length_take, Nat.min_eq_left (by omega)]
        rfl
      have hr := fun W => right_any (some ad) c n (y / 256) ((y : Int) % 256) W
      rw [hok, show ((y / 256 : Nat) : Int) = (y : Int) / 256 by omega] at hr
      have HR := Lib.hid hr
      have HY2 := Lib.hid hy2
      clear hy hy2 hlt8 hok hr
      go_wp2_with fail
      have hb1 := Joins.below_alloc1 W0 (.cells #[.slice (some ad) n c, .int .u64 ((y : Int) / 256), .int .i64 ((y : Int) % 256)] 38)
      have z1 := Z0.out.later hb1 (by have := HSZ.out; omega)
      have t1 := Blk.new W0 (.slice (some ad) n c) (.int .u64 ((y : Int) / 256)) (.int .i64 ((y : Int) % 256))
      have hsz1 : (W0.alloc (.cells #[.slice (some ad) n c, .int .u64 ((y : Int) / 256), .int .i64 ((y : Int) % 256)] 38)).heap.size = W0.heap.size + 1 := by simp
      refine (HR.out _).mono ?_
      rintro e W2 ⟨rfl, hb2⟩
      have z2 := z1.later hb2 (by have := HSZ.out; omega)
      have t2 := t1.later hb2 (by omega)
      have HB2 := Lib.hid (HB0.out.trans ((hb1.trans (hb2.mono hb1.size)).mono HB0.out.size))
      have HZ2 : Hid (W0.heap.size < W2.heap.size) := Lib.hid (by have := hb2.size; omega)
      clear hb1 hb2 z1 t1 hsz1
      have Z2 := Lib.hid z2
      have T2 := Lib.hid t2
      obtain ⟨p0, p1, p2, p3, p4, p5⟩ := z2.facts
      obtain ⟨q0, q1, q2, q3, q4, q5⟩ := t2.facts
      clear z2 t2
      by_cases ho : okR bs = true
      · rw [ho]
        have hk : (bs.take n).length = n := by rw [List.length_take]; omega
        have hcl := clone_any ad c (bs.take n) W2 ((((HL.out.below HB2.out).up HB2.out.size).front (by rw [List.map_take]; exact List.take_prefix _ _))) (by have := hsmall; omega)
        rw [hk] at hcl
        have HCL := Lib.hid hcl
        have HK := Lib.hid hk
        clear hk hcl
        go_wp2_with fail
        refine HCL.out.mono ?_
        rintro e W3 ⟨v, rfl, hown, hb3⟩
        obtain ⟨A3, c3, rfl, hc3, hm3, _⟩ := own_parts hown
        have z3 := Z2.out.later hb3 (by have := HSZ.out; have := HZ2.out; omega)
        have t3 := T2.out.later hb3 HZ2.out
        obtain ⟨p0, p1, p2, p3, p4, p5⟩ := z3.facts
        obtain ⟨q0, q1, q2, q3, q4, q5⟩ := t3.facts
        rw [HK.out] at hown hc3 ⊢
        have HB3 := Lib.hid (HB2.out.trans (hb3.mono HB2.out.size))
        have HO := Lib.hid hown
        have HC3 := Lib.hid hc3
        have HM3 := Lib.hid hm3
        have Z3 := Lib.hid z3
        have T3 := Lib.hid t3
        have hne : w.heap.size ≠ W0.heap.size := by have := HSZ.out; omega
        have z4 := Blk.set (i := 0) (v := .slice A3 n c3) z3 hne
        have t4 := Blk.set0 (v0 := .slice A3 n c3) t3
        obtain ⟨r0, r1, r2, r3, r4, r5⟩ := z4.facts
        obtain ⟨s0, s1, s2, s3, s4, s5⟩ := t4.facts
        have Z4 := Lib.hid z4
        have HNE := Lib.hid hne
        clear hown hc3 hm3 hb3 z3 t3 z4 t4 hne
        go_wp2_with fail
        have hb4 := (((HB3.out.setCell (p := ⟨W0.heap.size, 0, none⟩) (by show w.heap.size ≤ W0.heap.size; have := HSZ.out; omega) (.slice A3 n c3)).setCell (p := ⟨w.heap.size, 0, none⟩) (Nat.le_refl _) (.slice A3 n c3)).setCell (p := ⟨w.heap.size, 1, none⟩) (Nat.le_refl _) (.int .u64 ((y : Int) / 256))).setCell (p := ⟨w.heap.size, 2, none⟩) (Nat.le_refl _) (.int .i64 ((y : Int) % 256))
        have zb := ((Z4.out.set0 (v0 := .slice A3 n c3)).set1 (v1 := .int .u64 ((y : Int) / 256))).set2 (v2 := .int .i64 ((y : Int) % 256))
        have hl1 : w.heap.size < W2.heap.size := by have := HSZ.out; have := HZ2.out; omega
        have ho4 := ownsRow_setCell_below (ownsRow_setCell_below (ownsRow_setCell_below (ownsRow_setCell_below HO.out (a := ⟨W0.heap.size, 0, none⟩) HZ2.out (.slice A3 n c3)) (a := ⟨w.heap.size, 0, none⟩) hl1 (.slice A3 n c3)) (a := ⟨w.heap.size, 1, none⟩) hl1 (.int .u64 ((y : Int) / 256))) (a := ⟨w.heap.size, 2, none⟩) hl1 (.int .i64 ((y : Int) % 256))
        generalize (((W3.setCell ⟨W0.heap.size, 0, none⟩ (.slice A3 n c3)).setCell ⟨w.heap.size, 0, none⟩ (.slice A3 n c3)).setCell ⟨w.heap.size, 1, none⟩ (.int .u64 ((y : Int) / 256))).setCell ⟨w.heap.size, 2, none⟩ (.int .i64 ((y : Int) % 256)) = W4 at hb4 zb ho4 ⊢
        refine bodyPost_ret (results_blk rfl _ _ _ _ _ _ rfl zb) rfl ?_
        have hln := Lies.of_own ho4
        clear zb ho4
        exact told_ok HK.out (by omega) (by omega) ho hb4 HC3.out HM3.out H8.out HY2.out hln
      · have ho' : okR bs = false := by simpa using ho
        rw [ho']
        go_wp2_with fail
        have hb3 := ((HB2.out.setCell (p := ⟨w.heap.size, 0, none⟩) (Nat.le_refl _) (.slice none 0 0)).setCell (p := ⟨w.heap.size, 1, none⟩) (Nat.le_refl _) (.int .u64 0)).setCell (p := ⟨w.heap.size, 2, none⟩) (Nat.le_refl _) (.int .i64 0)
        have zb := ((Z2.out.set0 (v0 := .slice none 0 0)).set1 (v1 := .int .u64 0)).set2 (v2 := .int .i64 0)
        generalize ((W2.setCell ⟨w.heap.size, 0, none⟩ (.slice none 0 0)).setCell ⟨w.heap.size, 1, none⟩ (.int .u64 0)).setCell ⟨w.heap.size, 2, none⟩ (.int .i64 0) = W3 at hb3 zb ⊢
        refine bodyPost_ret (results_blk rfl _ _ _ _ _ _ rfl zb) rfl ?_
        exact told_bad (by omega) ho' hb3

set_option maxRecDepth 100000 in
set_option maxHeartbeats 400000 in
theorem rread_short (A : Option Addr) (c : Nat) (bs : List Nat) (w : World) (h : bs.length < 9) :
    Calls Try.prog 75 #[.slice A bs.length c] w (Told w bs) := by
  go_enter Try.func75, Try.ntmps75
  go_wp2_with fail
  go_returns
  exact told_short h (Joins.below_alloc1 _ _)
set_option maxRecDepth 100000 in
set_option maxHeartbeats 400000 in
theorem rread_any (A : Option Addr) (c : Nat) (bs : List Nat) (w : World) (hl : Lies w w.heap.size A (bs.map vb)) (hc : bs.length ≤ c) (hm : c ≤ maxLen) (hb : ∀ x, x ∈ bs → x < 256) (h : 9 ≤ bs.length) (hsmall : bs.length ≤ 140737488354000) :
    Calls Try.prog 75 #[.slice A bs.length c] w (Told w bs) := by
  have hm0 := hm
  unfold maxLen at hm
  have HL := Lib.hid hl
  have H8 := Lib.hid hb
  clear hl hb
  obtain ⟨n, hn⟩ : ∃ n, bs.length = n + 8 := ⟨bs.length - 8, by omega⟩
  have en : ((bs.length : Int) - 8) = (n : Int) := by omega
  go_enter Try.func75, Try.ntmps75
  go_wp2_with fail
  have hb0 := Joins.below_alloc1 w (.cells #[.slice none 0 0, .int .u64 0, .int .i64 0] 38)
  have z0 := Blk.new w (.slice none 0 0) (.int .u64 0) (.int .i64 0)
  have hsz : (w.alloc (.cells #[.slice none 0 0, .int .u64 0, .int .i64 0] 38)).heap.size = w.heap.size + 1 := by simp
  generalize w.alloc (.cells #[.slice none 0 0, .int .u64 0, .int .i64 0] 38) = W0 at hb0 z0 hsz ⊢
  have HB0 := Lib.hid hb0
  have Z0 := Lib.hid z0
  have HSZ := Lib.hid hsz
  obtain ⟨y, hy2⟩ : ∃ y, y = num (bs.drop n) := ⟨_, rfl⟩
  have hget : Calls Try.prog 39 #[.slice A (n + 8) c, .int .i64 (n : Int), .int .i64 8] W0 fun e w' => e = .returned (.int .u64 (y : Int)) ∧ W0 = w' := by
    have hget := get_any A c w.heap.size n 8 bs W0 (HL.out.below hb0) hc hm0 H8.out (Nat.le_refl _) (by omega)
    rw [List.take_of_length_le (by simp; omega), ← hy2, hn] at hget
    exact hget
  have hy3 := num_lt (bs.drop n) fun c hc => H8.out c (List.mem_of_mem_drop hc)
  rw [List.length_drop, show bs.length - n = 8 by omega, ← hy2] at hy3
  have hy3 : y < 18446744073709551616 := by omega
  have hok : okB n (y / 256) ((y : Int) % 256) = okR bs := by
    unfold okR rawK
    simp only
    rw [show bs.length - 8 = n by omega, ← hy2, List.length_take, Nat.min_eq_left (by omega)]
    rfl
  have hk : (bs.take n).length = n := by rw [List.length_take]; omega
  obtain ⟨A3, c3, W1, hr1, hown, hb1⟩ := fresh_bytes A c _ (bs.take n) W0 ((HL.out.below hb0).front (by rw [List.map_take]; exact List.take_prefix _ _)) (by omega)
  rw [hk] at hr1 hown
  have hband := u64_and_nat y 255 (by omega) (by decide)
  rw [show ((255 : Nat) : Int) = 255 from rfl, show y &&& 255 = y % 2 ^ 8 from Nat.and_two_pow_sub_one_eq_mod y 8] at hband
  have hband2 : bits .and .u64 (y : Int) 255 = (y : Int) % 256 := by rw [hband]; omega
  have hr := fun W => rright_any A3 c3 n (y / 256) ((y : Int) % 256) W
  rw [hok, show ((y / 256 : Nat) : Int) = (y : Int) / 256 by omega] at hr
  obtain ⟨_, _, hv3, hc3, hm3, _⟩ := own_parts hown
  cases hv3
  have HR := Lib.hid hr
  have HG := Lib.hid hget
  have HR1 := Lib.hid hr1
  have HB1 := Lib.hid hb1
  have HO := Lib.hid hown
  have HK := Lib.hid hk
  have HC3 := Lib.hid hc3
  have HM3 := Lib.hid hm3
  have HY2 := Lib.hid hy2
  clear hget hr1 hb1 hown hk hc3 hm3 hy2 hb0 z0 hsz hok hband hr
  refine HG.out.mono ?_; rintro e w' ⟨rfl, rfl⟩
  go_wp2_with (at_builtin; refine wpList_append_run rfl _ _ 25 rfl rfl rfl HR1.out ?_)
  have hb2 := Joins.below_alloc1 W1 (.cells #[.slice A3 n c3, .int .u64 ((y : Int) / 256), .int .i64 ((y : Int) % 256)] 38)
  have z1 := (Z0.out.later HB1.out (by have := HSZ.out; omega)).later hb2 (by have := HSZ.out; have := HB1.out.size; omega)
  have t1 := Blk.new W1 (.slice A3 n c3) (.int .u64 ((y : Int) / 256)) (.int .i64 ((y : Int) % 256))
  have o1 := HO.out.alloc (.cells #[.slice A3 n c3, .int .u64 ((y : Int) / 256), .int .i64 ((y : Int) % 256)] 38)
  have hsz1 : (W1.alloc (.cells #[.slice A3 n c3, .int .u64 ((y : Int) / 256), .int .i64 ((y : Int) % 256)] 38)).heap.size = W1.heap.size + 1 := by simp
  have hb12 := HB1.out.trans (hb2.mono HB1.out.size)
  generalize W1.alloc (.cells #[.slice A3 n c3, .int .u64 ((y : Int) / 256), .int .i64 ((y : Int) % 256)] 38) = W2 at hb2 z1 t1 o1 hsz1 hb12 ⊢
  refine (HR.out _).mono ?_
  rintro e W3 ⟨rfl, hb3⟩
  have z3 := z1.later hb3 (by have := HSZ.out; have := HB1.out.size; omega)
  have t3 := t1.later hb3 (by omega)
  have HB3 := Lib.hid (HB0.out.trans ((hb12.trans (hb3.mono hb12.size)).mono HB0.out.size))
  have O3 := Lib.hid (own_later' o1 hb3)
  have Z3 := Lib.hid z3
  obtain ⟨p0, p1, p2, p3, p4, p5⟩ := z3.facts
  obtain ⟨q0, q1, q2, q3, q4, q5⟩ := t3.facts
  clear hb2 z1 t1 o1 hsz1 hb12 hb3 z3 t3
  by_cases ho : okR bs = true
  · rw [ho]
    go_wp2_with fail
    have hb4 := ((HB3.out.setCell (p := ⟨w.heap.size, 0, none⟩) (Nat.le_refl _) (.slice A3 n c3)).setCell (p := ⟨w.heap.size, 1, none⟩) (Nat.le_refl _) (.int .u64 ((y : Int) / 256))).setCell (p := ⟨w.heap.size, 2, none⟩) (Nat.le_refl _) (.int .i64 ((y : Int) % 256))
    have zb := ((Z3.out.set0 (v0 := .slice A3 n c3)).set1 (v1 := .int .u64 ((y : Int) / 256))).set2 (v2 := .int .i64 ((y : Int) % 256))
    have hl1 : w.heap.size < W0.heap.size := by have := HSZ.out; omega
    have ho4 := ownsRow_setCell_below (ownsRow_setCell_below (ownsRow_setCell_below O3.out (a := ⟨w.heap.size, 0, none⟩) hl1 (.slice A3 n c3)) (a := ⟨w.heap.size, 1, none⟩) hl1 (.int .u64 ((y : Int) / 256))) (a := ⟨w.heap.size, 2, none⟩) hl1 (.int .i64 ((y : Int) % 256))
    generalize ((W3.setCell ⟨w.heap.size, 0, none⟩ (.slice A3 n c3)).setCell ⟨w.heap.size, 1, none⟩ (.int .u64 ((y : Int) / 256))).setCell ⟨w.heap.size, 2, none⟩ (.int .i64 ((y : Int) % 256)) = W4 at hb4 zb ho4 ⊢
    refine bodyPost_ret (results_blk rfl _ _ _ _ _ _ rfl zb) rfl ?_
    have hln := Lies.of_own ho4
    clear zb ho4
    exact told_ok HK.out (by omega) (by omega) ho hb4 HC3.out HM3.out H8.out HY2.out hln
  · have ho' : okR bs = false := by simpa using ho
    rw [ho']
    go_wp2_with fail
    have hb3 := ((HB3.out.setCell (p := ⟨w.heap.size, 0, none⟩) (Nat.le_refl _) (.slice none 0 0)).setCell (p := ⟨w.heap.size, 1, none⟩) (Nat.le_refl _) (.int .u64 0)).setCell (p := ⟨w.heap.size, 2, none⟩) (Nat.le_refl _) (.int .i64 0)
    have zb := ((Z3.out.set0 (v0 := .slice none 0 0)).set1 (v1 := .int .u64 0)).set2 (v2 := .int .i64 0)
    generalize ((W3.setCell ⟨w.heap.size, 0, none⟩ (.slice none 0 0)).setCell ⟨w.heap.size, 1, none⟩ (.int .u64 0)).setCell ⟨w.heap.size, 2, none⟩ (.int .i64 0) = W4 at hb3 zb ⊢
    refine bodyPost_ret (results_blk rfl _ _ _ _ _ _ rfl zb) rfl ?_
    exact told_bad (by omega) ho' hb3

theorem read_all (A : Option Addr) (c : Nat) (bs : List Nat) (w : World) (hl : Lies w w.heap.size A (bs.map vb)) (hc : bs.length ≤ c) (hm : c ≤ maxLen) (hb : ∀ x, x ∈ bs → x < 256) (hsmall : bs.length ≤ 140737488354000) :
    Calls Try.prog 118 #[.slice A bs.length c] w (Told w bs) := by
  by_cases h : bs.length < 9
  · exact read_short A c bs w h
  · exact read_any A c bs w hl hc hm hb (by omega) hsmall
theorem rread_all (A : Option Addr) (c : Nat) (bs : List Nat) (w : World) (hl : Lies w w.heap.size A (bs.map vb)) (hc : bs.length ≤ c) (hm : c ≤ maxLen) (hb : ∀ x, x ∈ bs → x < 256) (hsmall : bs.length ≤ 140737488354000) :
    Calls Try.prog 75 #[.slice A bs.length c] w (Told w bs) := by
  by_cases h : bs.length < 9
  · exact rread_short A c bs w h
  · exact rread_any A c bs w hl hc hm hb (by omega) hsmall
end Go.Proofs.Ytobjiamdljjkjaa.Ik
