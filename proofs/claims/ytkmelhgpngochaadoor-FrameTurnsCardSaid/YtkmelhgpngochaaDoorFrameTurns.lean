/- Proved: for any rows of bytes and any two numbers, FrameTurns of butterylaw7 answers true (behind a turned bit no record is told that was not there, and all ahead of it are), and its arguments read as before. Conditions: none beyond what the given row states. -/
import Derived.Test.YtkmelhgpngochaaDoorFlog
import Derived.Test.YtkmelhgpngochaaDoorFrall
import Derived.Test.YtkmelhgpngochaaDoorLaid
import Derived.Test.YtkmelhgpngochaaDoorTie
import Derived.Test.YtkmelhgpngochaaDoorCards
import Derived.SevenTiedAt
namespace Go.Proofs.YtkmelhgpngochaaDoor.frameTurns
set_option linter.unusedVariables false
set_option linter.unusedSimpArgs false
open Go.ChangeShapes Go.WideShapes Go.ChangeAt Go.RowKit Lift Ik Sq Fr

theorem own : ownKnob Tryd.prog.godebug = none := by kernel_rfl

theorem i64_and7 (n : Int) : bits .and .i64 n 7 = n % 8 := by
  have h7 : (BitVec.ofInt 64 7).toNat = 2 ^ 3 - 1 := by decide
  have key : (BitVec.ofInt 64 n &&& BitVec.ofInt 64 7).toNat = (n % ((2 ^ 64 : Nat) : Int)).toNat % 2 ^ 3 := by
    rw [BitVec.toNat_and, BitVec.toNat_ofInt, h7, Nat.and_two_pow_sub_one_eq_mod]
  show IntKind.i64.wrap ((BitVec.ofInt 64 n &&& BitVec.ofInt 64 7).toNat : Nat) = n % 8
  rw [key, IntKind.wrap_i64]
  omega
theorem flip_int {x m : Nat} (hx : x < 256) (hm : m < 8) : bits .xor .u8 (x : Int) (IntKind.u8.wrap (2 ^ min (IntKind.u64.wrap (m : Int)).toNat 8)) = ((x ^^^ 2 ^ m : Nat) : Int) := by
  have h1 : IntKind.u64.wrap (m : Int) = (m : Int) := by simp only [IntKind.wrap_u64]; omega
  have hp : 2 ^ m < 2 ^ 8 := Nat.pow_lt_pow_right (by decide) hm
  have h2 : IntKind.u8.wrap (2 ^ min (IntKind.u64.wrap (m : Int)).toNat 8) = ((2 ^ m : Nat) : Int) := by
    rw [h1, Int.toNat_natCast, Nat.min_eq_left (by omega), show (2 : Int) ^ m = ((2 ^ m : Nat) : Int) by rw [Int.natCast_pow]; rfl, IntKind.wrap_u8]
    generalize 2 ^ m = p at hp
    omega
  rw [h2, u8_xor_nat x (2 ^ m) hx hp]
theorem flip_ok {x m : Nat} (hx : x < 256) (hm : m < 8) : x ^^^ 2 ^ m < 256 ∧ x ^^^ 2 ^ m ≠ x := by
  have hp : 2 ^ m < 2 ^ 8 := Nat.pow_lt_pow_right (by decide) hm
  refine ⟨Crc.xor_lt8 hx hp, fun h => ?_⟩
  have h1 : x ^^^ (x ^^^ 2 ^ m) = x ^^^ x := by rw [h]
  rw [← Nat.xor_assoc, Nat.xor_self, Nat.zero_xor] at h1
  have := Nat.two_pow_pos m
  omega
set_option maxRecDepth 100000 in
set_option maxHeartbeats 800000 in
theorem same_big (A1 A2 : Option Addr) (c1 c2 : Nat) (L1 L2 : List E) (w : World) (h1 : Seqs w w.heap.size A1 c1 L1) (h2 : Seqs w w.heap.size A2 c2 L2) (he : L1.map (·.bs) = L2.map (·.bs)) (hn : L1.length ≤ 9223372036854775807) :
    Calls Tryd.prog 15 #[.slice A1 L1.length c1, .slice A2 L2.length c2] w fun e w' => e = .returned (.bool true) ∧ Below w.heap.size w w' := by
  have hl : L2.length = L1.length := by have := congrArg List.length he; simpa using this.symm
  rw [hl]
  have H1 := Lib.hid h1
  have H2 := Lib.hid h2
  have HE := Lib.hid he
  have HLL := Lib.hid hl
  clear h1 h2 he hl
  go_enter Tryd.func15, Tryd.ntmps15
  go_wp2_with fail
  go_loopw [5] (fun i wr => ∃ j : Nat, j ≤ L1.length ∧ i = .int .i64 j ∧ Hid (Below w.heap.size w wr)) (fun i _ => L1.length + 1 - (intOf i).toNat)
  case atStart => exact ⟨0, by omega, rfl, Lib.hid (Below.refl _ _)⟩
  case round =>
    obtain ⟨j, hj, rfl, hb⟩ := hrel
    by_cases hlt : j < L1.length
    · obtain ⟨x, hx⟩ : ∃ x, L1[j]? = some x := ⟨_, List.getElem?_eq_getElem hlt⟩
      obtain ⟨y, hy⟩ : ∃ y, L2[j]? = some y := ⟨_, List.getElem?_eq_getElem (by rw [HLL.out]; exact hlt)⟩
      have hxy : x.bs = y.bs := by
        have := congrArg (fun l => l[j]?) HE.out
        simp only [List.getElem?_map, hx, hy] at this
        simpa using this
      obtain ⟨a1, hA1, _, r1⟩ := (H1.out.below hb.out).place hx
      obtain ⟨a2, hA2, _, r2⟩ := (H2.out.below hb.out).place hy
      have k1 := (H1.out.below hb.out).ok x (List.mem_of_getElem? hx)
      have k2 := (H2.out.below hb.out).ok y (List.mem_of_getElem? hy)
      have q1 : ∀ n, Sem.run Tryd.prog (convert 22 9 (.slice x.a x.bs.length x.c)) (wr.drewN n) = .ok (.string (str x.bs)) (wr.drewN n) := fun n =>
        run_string_lies (P := Tryd.prog) (c := x.c) _ _ 5 Tryd.underlying22 Tryd.underlying5 Tryd.underlying9 (k1.lies.below (Joins.below_draws _ _ _))
      have q2 : ∀ n, Sem.run Tryd.prog (convert 22 9 (.slice y.a y.bs.length y.c)) (wr.drewN n) = .ok (.string (str x.bs)) (wr.drewN n) := fun n => by
        rw [hxy]
        exact run_string_lies (P := Tryd.prog) (c := y.c) _ _ 5 Tryd.underlying22 Tryd.underlying5 Tryd.underlying9 (k2.lies.below (Joins.below_draws _ _ _))
      subst hA1 hA2
      have dl : decide (j < L1.length) = true := decide_eq_true hlt
      generalize str x.bs = s at *
      clear hx hy hxy k1 k2
      generalize x.bs.length = n1 at *
      generalize y.bs.length = n2 at *
      go_wp2_with fail
      go_quiet (fail)
      go_wp2_with fail
      go_roundw
      case rel => exact ⟨j + 1, by omega, by go_num, Lib.hid (hb.out.trans (Joins.below_draws _ _ _))⟩
      case measure => simp [intOf]; omega
    · have dl : decide (j < L1.length) = false := decide_eq_false hlt
      go_wp2_with fail
      go_ret
      exact ⟨rfl, hb.out⟩
theorem store_own {w : World} {base k d c : Nat} {A : Option Addr} {xs : List Nat} (h : w.ownsRow base 5 1 (.slice A xs.length c) xs.length (xs.map vb)) (hk : k < xs.length) :
    ∃ g, A = some ⟨g, 0, none⟩ ∧ base ≤ g ∧ g < w.heap.size ∧ (∀ x, xs[k]? = some x → w.cell? ⟨g, k, none⟩ = some (vb x)) ∧ w.frozen? ⟨g, k, none⟩ = false ∧
      Lies (w.setCell ⟨g, k, none⟩ (vb d)) (w.setCell ⟨g, k, none⟩ (vb d)).heap.size (some ⟨g, 0, none⟩) ((xs.set k d).map vb) := by
  rcases h.2 with ⟨_, h0⟩ | ⟨g, cap, cur, hv, hB, hh, r⟩
  · omega
  · injection hv with hA
    subst hA
    have hc := h.cells (g := g) rfl
    have hgs : g < w.heap.size := (Array.getElem?_eq_some_iff.1 hh).1
    have hcell : ∀ x, xs[k]? = some x → w.cell? ⟨g, k, none⟩ = some (vb x) := fun x hx => by
      have := hc k (vb x) (by rw [List.getElem?_map, hx]; rfl)
      rw [show (Addr.add ⟨g, 0, none⟩ k) = ⟨g, k, none⟩ by unfold Addr.add; split <;> simp_all] at this
      exact this
    refine ⟨g, rfl, hB, hgs, hcell, frozen_of_row w g k _ _ hh, ?_⟩
    refine .inr ⟨_, rfl, by simp; exact hgs, fun j u hu => ?_⟩
    rw [show (Addr.add ⟨g, 0, none⟩ j) = ⟨g, j, none⟩ by unfold Addr.add; split <;> simp_all]
    obtain ⟨x, hx⟩ : ∃ x, xs[k]? = some x := ⟨_, List.getElem?_eq_getElem hk⟩
    by_cases hj : j = k
    · subst hj
      rw [List.getElem?_map, List.getElem?_set_self hk] at hu
      injection hu with hu
      subst hu
      exact World.cell?_setCell_same _ _ _ (hcell x hx)
    · rw [List.getElem?_map, List.getElem?_set_ne (Ne.symm hj), ← List.getElem?_map] at hu
      rw [World.cell?_setCell_other _ _ _ _ (fun h => hj (by injection h with _ h _; exact h.symm))]
      have := hc j u hu
      rw [show (Addr.add ⟨g, 0, none⟩ j) = ⟨g, j, none⟩ by unfold Addr.add; split <;> simp_all] at this
      exact this
set_option maxHeartbeats 800000 in
theorem walk_no (A : Option Addr) (c : Nat) (L : List E) (s bit : Int) (w : World) (hc : L.length ≤ c) (hm : c ≤ maxLen) (h : L.length < 1 ∨ 10 < L.length ∨ s < 0) : Calls Tryd.prog 7 #[.slice A L.length c, .int .i64 s, .int .i64 bit] w (Yes w) := by
  unfold maxLen at hm
  by_cases h1 : L.length < 1
  · go_enter Tryd.func7, Tryd.ntmps7
    go_wp2_with fail
    refine (alive_any _).mono ?_; rintro e W1 ⟨rfl, hb1⟩
    have HB1 := Lib.hid hb1
    clear hb1
    go_wp2_with fail
    go_ret
    exact ⟨rfl, HB1.out⟩
  · by_cases h2 : 10 < L.length
    · go_enter Tryd.func7, Tryd.ntmps7
      go_wp2_with fail
      refine (alive_any _).mono ?_; rintro e W1 ⟨rfl, hb1⟩
      have HB1 := Lib.hid hb1
      clear hb1
      go_wp2_with fail
      go_ret
      exact ⟨rfl, HB1.out⟩
    · have h3 : s < 0 := by omega
      go_enter Tryd.func7, Tryd.ntmps7
      go_wp2_with fail
      refine (alive_any _).mono ?_; rintro e W1 ⟨rfl, hb1⟩
      have HB1 := Lib.hid hb1
      clear hb1
      go_wp2_with fail
      go_ret
      exact ⟨rfl, HB1.out⟩
theorem take_seqs {w : World} {B c : Nat} {A : Option Addr} {L : List E} (h : Seqs w B A c L) (j : Nat) : Seqs w B A c (L.take j) :=
  ⟨h.lies.front (by rw [List.map_take]; exact List.take_prefix _ _), by have := h.len; rw [List.length_take]; omega, h.cap, fun e he => h.ok e (List.mem_of_mem_take he)⟩
theorem cut_seqs (A : Option Addr) (n c k : Nat) (h : k ≤ c) (hc : n ≤ c) (hm : c ≤ maxLen) (W : World) : Sem.run Tryd.prog (Instr.slice 26 (.slice A n c) none (some (.int .i64 (k : Int))) none) W = .ok (.slice A k c) W := by
  unfold maxLen at hm
  go_simp
set_option maxRecDepth 100000 in
set_option maxHeartbeats 1600000 in
theorem walk (A : Option Addr) (c : Nat) (L : List E) (a : Nat) (bit : Int) (w : World) (ha : a ≤ 9223372036854775807) (hQ : Seqs w w.heap.size A c L) (h1 : 1 ≤ L.length) (h10 : L.length ≤ 10) : Calls Tryd.prog 7 #[.slice A L.length c, .int .i64 (a : Int), .int .i64 bit] w (Yes w) := by
  have HQ := Lib.hid hQ
  have hLc := hQ.len
  have hLM := Lib.hid hQ.cap
  have hLm := hQ.cap
  unfold maxLen at hLm
  clear hQ
  go_enter Tryd.func7, Tryd.ntmps7
  go_wp2_with fail
  refine (alive_any _).mono ?_; rintro e W1 ⟨rfl, hb1⟩
  have HB1 := Lib.hid hb1
  clear hb1
  go_wp2_with fail
  go_loop [8] (fun i => ∃ j : Nat, j ≤ L.length ∧ i = .int .i64 j ∧ Hid (∀ r, r ∈ (L.map (·.bs)).take j → r.length ≤ 300)) (fun i => L.length + 1 - (intOf i).toNat)
  case atStart => exact ⟨0, by omega, rfl, Lib.hid (by simp)⟩
  case round =>
    obtain ⟨j, hj, rfl, hS⟩ := hrel
    by_cases hlt : j < L.length
    · obtain ⟨e, he⟩ : ∃ e, L[j]? = some e := ⟨_, List.getElem?_eq_getElem hlt⟩
      obtain ⟨ad, hA, _, p0⟩ := (HQ.out.below HB1.out).place he
      subst hA
      have ke := (HQ.out.below HB1.out).ok e (List.mem_of_getElem? he)
      have hec := ke.cap
      have hem := ke.max
      unfold maxLen at hem
      have dl : decide (j < L.length) = true := decide_eq_true hlt
      have HT : Hid ((L.map (·.bs)).take (j + 1) = (L.map (·.bs)).take j ++ [e.bs]) := Lib.hid (by rw [List.take_add_one, List.getElem?_map, he]; rfl)
      clear ke he
      by_cases h3 : 300 < e.bs.length
      · have d3 : decide (300 < e.bs.length) = true := decide_eq_true h3
        go_wp2_with fail
        go_ret
        exact ⟨rfl, HB1.out⟩
      · have d3 : decide (300 < e.bs.length) = false := decide_eq_false h3
        have HS2 : Hid (∀ r, r ∈ (L.map (·.bs)).take (j + 1) → r.length ≤ 300) := Lib.hid (by
          rw [HT.out]
          intro r hr
          rcases List.mem_append.1 hr with hr | hr
          · exact hS.out r hr
          · simp at hr; subst hr; omega)
        go_wp2_with fail
        go_round
        case rel => exact ⟨j + 1, by omega, by go_num, HS2⟩
        case measure => simp [intOf]; omega
    · obtain rfl : j = L.length := by omega
      have dl : decide (L.length < L.length) = false := by simp
      have hs : ∀ r, r ∈ L.map (·.bs) → r.length ≤ 300 := by
        have := hS.out
        rw [List.take_of_length_le (by rw [List.length_map]; exact Nat.le_refl _)] at this
        exact this
      have HLOG := Lib.hid (log_any A c L W1 ((HQ.out.below HB1.out).up HB1.out.size) h10 hs)
      have HML : Hid ((L.map (·.bs)).length = L.length) := Lib.hid (List.length_map _)
      have HTF : Hid ((L.map (·.bs)).take L.length = L.map (·.bs)) := Lib.hid (List.take_of_length_le (by rw [List.length_map]; exact Nat.le_refl _))
      have H8 : Hid (∀ x, x ∈ logOf (L.map (·.bs)) → x < 256) := Lib.hid (logOf_byte fun r hr => by
        obtain ⟨e, he, rfl⟩ := List.mem_map.1 hr
        exact (HQ.out.ok e he).byte)
      have hlog : (logOf (L.map (·.bs))).length ≤ 6210 := by
        have h2 := log_len (l := L.map (·.bs)) (m := 300) hs
        have h3 : (21 + 2 * 300) * (L.map (·.bs)).length ≤ 621 * 10 := Nat.mul_le_mul (by decide) (by rw [HML.out]; omega)
        omega
      have hpos : 0 < (logOf (L.map (·.bs))).length := by
        obtain ⟨r, hr⟩ : ∃ r, (L.map (·.bs))[0]? = some r := ⟨_, List.getElem?_eq_getElem (by rw [HML.out]; omega)⟩
        obtain ⟨q, hq⟩ := logOf_at hr
        have := (put_len (logOf ((L.map (·.bs)).take 0)).length r).1
        rw [hq, List.length_append, List.length_append]
        omega
      clear hS hs
      generalize hl : L.map (·.bs) = l at *
      generalize hG : logOf l = G at *
      have HG := Lib.hid hG
      have HLL := Lib.hid hl
      clear hG hl
      go_wp2_with fail
      refine HLOG.out.mono ?_
      rintro e2 W2 ⟨v1, v2, rfl, ho1, ho2, hb2⟩
      obtain ⟨Ab, cb, rfl, k1, k2, k3⟩ := own_parts ho1
      obtain ⟨Ae, ce, rfl, y1, y2, y3⟩ := own_parts ho2
      have HK3 := Lib.hid k3
      have HY3 := Lib.hid y3
      have HB2 := Lib.hid (HB1.out.trans (hb2.mono HB1.out.size))
      have y2' := y2
      unfold maxLen at y2'
      have k2' := k2
      unfold maxLen at k2'
      obtain ⟨to, hto⟩ : ∃ to : Nat, to = a % G.length := ⟨_, rfl⟩
      have htl : to < G.length := by rw [hto]; exact Nat.mod_lt _ hpos
      have e1 : (a : Int) % (G.length : Int) = (to : Int) := by rw [hto]; omega
      have e2' : Int.tmod (a : Int) (G.length : Int) = (to : Int) := by rw [Int.tmod_eq_emod_of_nonneg (by omega), e1]
      obtain ⟨x, hx⟩ : ∃ x : Nat, G[to]? = some x := ⟨_, List.getElem?_eq_getElem htl⟩
      have x8 := H8.out x (List.mem_of_getElem? hx)
      obtain ⟨m, hm⟩ : ∃ m : Nat, (m : Int) = bit % 8 := ⟨(bit % 8).toNat, by omega⟩
      have hm8 : m < 8 := by omega
      have e7 : bits .and .i64 bit 7 = (m : Int) := by rw [i64_and7, hm]
      have eD : bits .xor .u8 (x : Int) (IntKind.u8.wrap (2 ^ min (IntKind.u64.wrap (m : Int)).toNat 8)) = ((x ^^^ 2 ^ m : Nat) : Int) := flip_int x8 hm8
      obtain ⟨d8, dne⟩ := flip_ok (x := x) x8 hm8
      obtain ⟨d, hd⟩ : ∃ d : Nat, d = x ^^^ 2 ^ m := ⟨_, rfl⟩
      have hp8 : 2 ^ m < 2 ^ 8 := Nat.pow_lt_pow_right (by decide) hm8
      have eP : (2 : Int) ^ m = ((2 ^ m : Nat) : Int) := by rw [Int.natCast_pow]; rfl
      have eD2 : bits .xor .u8 (x : Int) ((2 : Int) ^ m % 256) = ((d : Nat) : Int) := by
        have e9 : (2 : Int) ^ m % 256 = ((2 ^ m : Nat) : Int) := by
          rw [eP]
          generalize 2 ^ m = p at hp8
          omega
        rw [e9, u8_xor_nat x (2 ^ m) x8 hp8, hd]
      rw [← hd] at eD d8
      obtain ⟨g, hgA, hgB, hgs, hgc, hgf, hgl⟩ := store_own (d := d) ho1 htl
      subst hgA
      have hcx := hgc x hx
      have hks : Keep (· = g) W2 (W2.setCell ⟨g, to, none⟩ (vb d)) := Keep.setCell (S := (· = g)) (p := ⟨g, to, none⟩) (Keep.refl _ _) (.inr rfl) _
      have HLb := Lib.hid hgl
      have hbs := hks.below (B := W1.heap.size) hb2.size (fun k e => e ▸ hgB)
      have HO2 := Lib.hid (own_kept ho2 hks fun k hk e => own_two ho2 ho1 (by decide) hk (by rw [e]; rfl))
      have HB3 := Lib.hid (HB2.out.trans (hbs.mono HB1.out.size))
      have HGS : Hid (∀ y, y ∈ G.set to d → y < 256) := Lib.hid (fun y hy => by
        rcases List.mem_or_eq_of_mem_set hy with h | h
        · exact H8.out y h
        · omega)
      have hdb : Value.int .u8 ((d : Nat) : Int) = vb d := rfl
      clear ho1 ho2 hb2 k3 y3 hto hm hd dne hx eP hp8 hgc hks hbs hgl HK3 HY3 HB2
      go_wp2_with fail
      generalize W2.setCell ⟨g, to, none⟩ (vb d) = Ws at *
      have HY3 := Lib.hid (Lies.of_own HO2.out)
      have HB2 := HB3
      go_loop [12] (fun i => ∃ j : Nat, j ≤ L.length ∧ i = .int .i64 j ∧ Hid (∀ i, i < j → (logOf (l.take (i + 1))).length ≤ to)) (fun i => L.length + 1 - (intOf i).toNat)
      case atStart => exact ⟨0, by omega, rfl, Lib.hid (by intro i hi; omega)⟩
      case round =>
        clear dl
        obtain ⟨j, hj, rfl, hW⟩ := hrel
        by_cases hjl : j < L.length
        · obtain ⟨ae, hAe, _, hce⟩ := HY3.out.place (by unfold endsOf; simp; omega)
          subst hAe
          have p1 := hce j _ (endsOf_at hjl)
          have dj : decide (j < L.length) = true := decide_eq_true hjl
          have hjt : (logOf (l.take (j + 1))).length ≤ 6210 := by
            obtain ⟨q, hq⟩ := logOf_take l (j + 1)
            have := congrArg List.length hq
            rw [HG.out, List.length_append] at this
            omega
          obtain ⟨t, ht⟩ : ∃ t, t = (logOf (l.take (j + 1))).length := ⟨_, rfl⟩
          rw [← ht] at p1 hjt
          have HTT := Lib.hid ht
          clear hce ht
          by_cases hle : t ≤ to
          · have d5 : decide (t ≤ to) = true := decide_eq_true hle
            have HW2 : Hid (∀ i, i < j + 1 → (logOf (l.take (i + 1))).length ≤ to) := Lib.hid (fun i hi => by
              by_cases hi2 : i < j
              · exact hW.out i hi2
              · obtain rfl : i = j := by omega
                rw [← HTT.out]; exact hle)
            go_wp2_with fail
            go_round
            case rel => exact ⟨j + 1, by omega, by go_num, HW2⟩
            case measure => simp [intOf]; omega
          · have d5 : decide (t ≤ to) = false := decide_eq_false hle
            obtain ⟨r, hr⟩ : ∃ r, l[j]? = some r := ⟨_, List.getElem?_eq_getElem (by rw [HML.out]; exact hjl)⟩
            have g1 : (logOf (l.take j)).length ≤ to := by
              rcases j with _ | j
              · simp [logOf]
              · exact hW.out j (Nat.lt_succ_self _)
            have hpre : logOf (l.take j) <+: G.set to d := by
              obtain ⟨q, hq⟩ := logOf_take l j
              rw [HG.out] at hq
              rw [hq, List.set_append_right _ _ g1]
              exact List.prefix_append _ _
            have HPRE := Lib.hid hpre
            have hcs := cut_seqs A L.length c j (by omega) hLc hLM.out
            have hsl : (G.set to d).length = G.length := List.length_set
            have hal := all_any (some ⟨g, 0, none⟩) cb (G.set to d) Ws HLb.out (by omega) k2 (by omega) HGS.out
            rw [hsl] at hal
            have HAL := Lib.hid hal
            have HSL := Lib.hid hsl
            have hjl2 : (l.take j).length = j := by rw [List.length_take, HML.out]; omega
            have HJL := Lib.hid hjl2
            clear hr g1 hal hW hpre hsl hjl2
            go_wp2_with fail
            refine HAL.out.mono ?_
            rintro e3 W3 ⟨A5, c5, L5, n5, cl5, rfl, hs5, hr5, hb5⟩
            have HB5 := Lib.hid (HB2.out.trans (hb5.mono HB2.out.size))
            have HS5 := Lib.hid hs5
            have HR5 := Lib.hid hr5
            have hra := rall_any (some ⟨g, 0, none⟩) cb (G.set to d) W3 ((HLb.out.below hb5).up hb5.size) (by rw [HSL.out]; exact k1) k2 (by rw [HSL.out]; omega) HGS.out
            rw [HSL.out] at hra
            have HRA := Lib.hid hra
            clear hs5 hr5 hb5 hra
            go_wp2_with fail
            refine HRA.out.mono ?_
            rintro e4 W4 ⟨A6, c6, L6, n6, cl6, rfl, hs6, hr6, hb6⟩
            have e5 := HR5.out.det hr6
            simp only [Prod.mk.injEq] at e5
            obtain ⟨e6, rfl, rfl⟩ := e5
            have HB6 := Lib.hid (HB5.out.trans (hb6.mono HB5.out.size))
            have hcl := HS5.out.len
            have hcm := HS5.out.cap
            unfold maxLen at hcm
            have hlen : L5.length = L6.length := by have := congrArg List.length e6; rw [List.length_map, List.length_map] at this; exact this
            by_cases hjx : j < L6.length
            · have HSM := Lib.hid (same_big A5 A6 c5 c6 L5 L6 W4 ((HS5.out.below hb6).up hb6.size) hs6 e6 (by omega))
              have d6 : decide (j < L6.length) = true := decide_eq_true hjx
              clear hs6 hr6 hb6 e6 hlen
              go_wp2_with fail
              refine HSM.out.mono ?_
              rintro e7 W7 ⟨rfl, hb7⟩
              have HB7 := Lib.hid (HB6.out.trans (hb7.mono HB6.out.size))
              clear hb7
              go_wp2_with fail
              go_ret
              exact ⟨rfl, HB7.out⟩
            · have d6 : decide (j < L6.length) = false := decide_eq_false hjx
              have hpx := rd_log_same HPRE.out HR5.out
              have hxl := hpx.length_le
              have he7 : (l.take j) = L5.map (·.bs) := hpx.eq_of_length (by rw [HJL.out] at hxl ⊢; simp only [List.length_map] at hxl ⊢; omega)
              have e7 : L5.map (·.bs) = (L.take j).map (·.bs) := by rw [← he7, ← HLL.out, List.map_take]
              have hsm := same_big A5 A c5 c L5 (L.take j) W4 ((HS5.out.below hb6).up hb6.size) ((take_seqs (HQ.out.below HB6.out) j).up HB6.out.size) e7 (by omega)
              rw [show (L.take j).length = j by rw [List.length_take]; omega] at hsm
              have HSM := Lib.hid hsm
              clear hs6 hr6 hb6 e6 e7 he7 hpx hxl hlen hsm
              go_wp2_with fail
              refine HSM.out.mono ?_
              rintro e8 W7 ⟨rfl, hb7⟩
              have HB7 := Lib.hid (HB6.out.trans (hb7.mono HB6.out.size))
              clear hb7
              go_wp2_with fail
              go_ret
              exact ⟨rfl, HB7.out⟩
        · exfalso
          have := hW.out (L.length - 1) (by omega)
          rw [show L.length - 1 + 1 = L.length by omega, HTF.out, HG.out] at this
          omega

set_option maxRecDepth 100000 in
theorem lifted (os : Os) (started : os.Started) (H : Type) (enc : TypeId × Value → H) :
    ReturnsInHanded {} Tryd.checked os 7 .any (fun w args => (Rows.frameTurnsSpec.pre enc Tryd.prog Tryd.f7 Rows.frameTurnsRow.domain false w args ∧ laidMetH Tryd.prog Rows.frameTurnsRow.laid w) ∧ sizedMet enc Tryd.prog Tryd.f7 (OpenSpec.ofChange Rows.frameTurnsSpec) false w args) (Rows.frameTurnsSpec.post enc Tryd.prog Tryd.f7 false true false false) := by
  refine lift_laid (C := Tryd.checked) Rows.frameTurnsRow.laid own started (by kernel_rfl) Tryd.func7
    (ChangeSpec.witness_shaped (enc := enc) (C := Tryd.checked) (os := os) (X := fun w _ => laidMetH Tryd.prog Rows.frameTurnsRow.laid w) false (World.laidAll Tryd.prog os Rows.frameTurnsRow.laid) #[.slice none 0 0, .int .i64 0, .int .i64 0] 8 (World.laidAll_os _ _ _)
      (World.shaped_of_ZipB (by kernel_rfl) (by kernel_rfl)) (by kernel_rfl) (by kernel_rfl) (by kernel_rfl)
      (by rw [MakeChecks.laidMetH_plain _ _ _ (by kernel_rfl)]; exact laidMet_laidAll _ (by kernel_rfl) (by kernel_rfl)))
    (by kernel_rfl) (by kernel_rfl) (by kernel_rfl) Tryd.underlying4 rfl ?_ ?_
  · intro ds hds
    match ds, hds with
    | [d1, d2, d3], _ => exact ⟨rfl, rfl, rfl⟩
  · intro W base args ds p hval0 hA0 hlt _
    have hval : ∀ (j : Nat) t v, Tryd.f7.params[j]? = some t → args[j]? = some v → Value.okWide Tryd.prog W .any base t v := hval0
    have hA : DataW.TrodAll enc Tryd.prog W 0 (fun _ => true) true Tryd.f7.params.toList args.toList ds p := hA0
    rw [Tryd.params7] at hA hval
    obtain ⟨v0, vs0, d0, ds0, p0, q0, hargs, rfl, rfl, h0, r0⟩ := trodAll_cons hA
    obtain ⟨v1, vs1, d1, ds1, p1, q1, rfl, rfl, rfl, h1, r1⟩ := trodAll_cons r0
    obtain ⟨v2, vs2, d2, ds2, p2, q2, rfl, rfl, rfl, h2, r2⟩ := trodAll_cons r1
    obtain ⟨rfl, rfl, rfl⟩ := trodAll_nil r2
    obtain rfl : args = #[v0, v1, v2] := by cases args; simp_all
    obtain ⟨A0, c0, L0, rfl, hQ0⟩ := Sq.open_seqs (hval 0 _ v0 rfl rfl) h0 (fun x hx => hlt x (by simp [hx]))
    obtain ⟨a1, rfl, rfl, rfl, w1⟩ := open_int Tryd.underlying3 (hval 1 _ v1 rfl rfl) h1
    have b1 := i64_of w1
    obtain ⟨a2, rfl, rfl, rfl, w2⟩ := open_int Tryd.underlying3 (hval 2 _ v2 rfl rfl) h2
    have b2 := i64_of w2
    by_cases h : L0.length < 1 ∨ 10 < L0.length ∨ a1 < 0
    · exact walk_no A0 c0 L0 a1 a2 W hQ0.len hQ0.cap h
    · obtain ⟨a, rfl⟩ : ∃ a : Nat, a1 = a := ⟨a1.toNat, by omega⟩
      exact walk A0 c0 L0 a a2 W (by omega) hQ0 (by omega) (by omega)

theorem over : Rows.frameTurnsRow.holds Tryd.pinned (OpenSpec.ofChange Rows.frameTurnsSpec) :=
  OpenClaim.holds_of_wide 7 Tryd.f7 rfl rfl rfl rfl rfl rfl rfl ⟨rfl, rfl, rfl, rfl, rfl⟩ rfl rfl rfl rfl rfl (by kernel_rfl) Tryd.func7 (by kernel_rfl)
    (of_decide_eq_true (by kernel_rfl)) (by unfold Func.isWrapper; first | (rw [if_pos (by decide +kernel)]; kernel_rfl) | (rw [if_neg (by decide +kernel)]; exact ⟨rfl, rfl⟩))
    (fun os started H enc _ => lifted os started H enc)

theorem proved : Rows.FrameTurnsCardSaid :=
  Claim7.holds_tied_plain_at .later [] [.data, .pinned] true (true, "b23d7652dd08339ba58d021077a9801cf880c861c5214500fa8176eedb20fa22") false over (fun _ h => by cases h) (by kernel_rfl) (fun _ h => by cases h) frameTurns_row_tie rfl ⟨rfl, rfl⟩ (by kernel_rfl) rfl
    (fun f fn hf hfn => by
      obtain rfl : f = 7 := Option.some.inj ((show Tryd.prog.funcNamed Rows.frameTurnsRow.func = some 7 by kernel_rfl).symm.trans hf) |>.symm
      obtain rfl : fn = Tryd.f7 := (Option.some.inj (Tryd.func7.symm.trans hfn)).symm
      exact ⟨by kernel_rfl, fun j t ht => by
        rw [Tryd.params7] at ht
        have hm : t ∈ [26, 3, 3] := by simpa using Array.mem_of_getElem? ht
        have hall : ([26, 3, 3].all fun u => !Tryd.prog.wantsStandIn u) = true := by kernel_rfl
        exact (show Tryd.prog.wantsStandIn t = false by simpa using List.all_eq_true.1 hall t hm)⟩)
    (by kernel_rfl)
#print axioms proved
end Go.Proofs.YtkmelhgpngochaaDoor.frameTurns
