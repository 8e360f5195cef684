/- Package block: small functions: numbers, sums, cuts, common bytes, whether a block may contain an entry, or entries. -/
import Derived.Test.YtobjiamdljjkjaaBko
import Derived.Test.YtobjiamdljjkjaaBmay
import Derived.Test.YtobjiamdljjkjaaOwn
import Derived.Test.YtobjiamdljjkjaaCut
import Derived.Test.YtobjiamdljjkjaaRef
import Derived.Lib.MinMax
import Derived.Deep.RegionHeld3
import Derived.Deep.QuietTactic
import Derived.BigQuiet
import Derived.LoopTactic
namespace Go.Proofs.Ytobjiamdljjkjaa.Bk
set_option linter.unusedVariables false
set_option linter.unusedSimpArgs false
open Go.RowKit Lift Ik Sk Vn
set_option maxRecDepth 100000 in
set_option maxHeartbeats 800000 in
theorem onums_any (base x : Nat) (v : Value) (xs : List Nat) (w : World) (h : w.ownsRow base 5 1 v xs.length (xs.map vb)) (hbase : base ≤ w.heap.size) (hm : xs.length ≤ 140737488350000) (hx : x < 4294967296) :
    Calls Try.prog 32 #[v, .int .u32 (x : Int)] w (Grew base v w (xs ++ low x 4)) := by
  have HO := Lib.hid h
  have HZ := Lib.hid hbase
  have w64 : ∀ j : Nat, j < 4 → IntKind.i64.wrap (8 * (j : Int)) = 8 * (j : Int) := fun j hj => IntWalk.i64_in _ (by omega)
  clear h hbase
  go_enter Try.func32, Try.ntmps32
  go_wp2_with fail
  go_loopw [0, 6] (fun o i wr => ∃ j : Nat, j ≤ 4 ∧ i = .int .i64 j ∧ wr.ownsRow base 5 1 o (xs ++ low x j).length ((xs ++ low x j).map vb) ∧ Hid (Onto v o w wr)) (fun _ i _ => 10 - (intOf i).toNat)
  case atStart => exact ⟨0, by omega, rfl, by simpa [low] using HO.out, Lib.hid (Onto.refl _ _)⟩
  case round =>
    obtain ⟨j, hj, rfl, hown, hb⟩ := hrel
    by_cases hlt : j < 4
    · have hl := low_length x j
      obtain ⟨v', w1, hrun, hown1, hon1⟩ := append_byte (x / 256 ^ j % 256) hown (by rw [List.length_append]; omega) (Nat.le_trans HZ.out hb.out.keep.size)
      rw [List.append_assoc, ← low_snoc] at hown1
      rw [show vb (x / 256 ^ j % 256) = .int .u8 ((x : Int) / 2 ^ (8 * j) % 256) by rw [byte_at]] at hrun
      have HO1 := Lib.hid hown1
      have HB3 := Lib.hid (hb.out.trans hon1)
      have HR1 := Lib.hid hrun
      clear hown hown1 hon1 hrun hl
      go_wp2_with (at_builtin; refine wpList_append_run rfl _ _ 25 rfl rfl rfl HR1.out ?_)
      go_roundw
      case rel => exact ⟨j + 1, by omega, by go_num, HO1.out, HB3⟩
      case measure => simp [intOf]; omega
    · obtain rfl : j = 4 := by omega
      have HO1 := Lib.hid hown
      clear hown
      go_wp2_with fail
      go_ret
      exact ⟨_, rfl, HO1.out, hb.out⟩
theorem or_step32 (t c j : Nat) (hj : j < 4) (ht : t < 256 ^ j) (hc : c < 256) : bits .or .u32 (t : Int) ((c : Int) * 2 ^ (8 * j) % 4294967296) = ((t + c * 256 ^ j : Nat) : Int) := by
  have hp : 256 ^ j ≤ 256 ^ 3 := Nat.pow_le_pow_right (by decide) (by omega)
  have p7 : (256 : Nat) ^ 3 = 16777216 := by decide
  have hm : c * 256 ^ j ≤ 255 * 256 ^ 3 := Nat.mul_le_mul (by omega) hp
  rw [pow8_cast, ← Int.natCast_mul]
  rw [show ((c * 256 ^ j : Nat) : Int) % 4294967296 = ((c * 256 ^ j : Nat) : Int) by omega]
  rw [u32_or_nat _ _ (by omega) (by omega)]
  have e := Nat.two_pow_add_eq_or_of_lt (i := 8 * j) (b := t) (by rw [Nat.pow_mul]; exact ht) c
  rw [show 2 ^ (8 * j) * c = c * 256 ^ j by rw [Nat.pow_mul, Nat.mul_comm]] at e
  rw [Nat.or_comm, ← e, Nat.add_comm]
theorem num_take {bs : List Nat} {j c : Nat} (h : bs[j]? = some c) : num (bs.take (j + 1)) = num (bs.take j) + c * 256 ^ j := by
  have hl : (bs.take j).length = j := by
    have := (List.getElem?_eq_some_iff.1 h).1
    rw [List.length_take]; omega
  rw [List.take_add_one, h, Option.toList_some, num_snoc, hl]
set_option maxRecDepth 100000 in
set_option maxHeartbeats 800000 in
theorem onumber_any (A : Option Addr) (c B : Nat) (bs : List Nat) (w : World) (hl : Lies w B A (bs.map vb)) (hn : bs.length ≤ 4) (hc : bs.length ≤ c) (hm : c ≤ maxLen) (h8 : ∀ c, c ∈ bs → c < 256) :
    Calls Try.prog 68 #[.slice A bs.length c] w fun e w' => e = .returned (.int .u32 (num bs : Nat)) ∧ w = w' := by
  unfold maxLen at hm
  have HL := Lib.hid hl
  have H8 := Lib.hid h8
  clear hl h8
  go_enter Try.func68, Try.ntmps68
  go_wp2_with fail
  go_loop [3, 8] (fun x i => ∃ j y : Nat, j ≤ bs.length ∧ i = .int .i64 j ∧ x = .int .u32 y ∧ Hid (y = num (bs.take j)) ∧ Hid (y < 256 ^ j)) (fun _ i => bs.length + 1 - (intOf i).toNat)
  case atStart => exact ⟨0, 0, by omega, rfl, rfl, Lib.hid (by simp [num]), Lib.hid (by decide)⟩
  case round =>
    obtain ⟨j, y, hj, rfl, rfl, hy, hlt2⟩ := hrel
    by_cases hlt : j < bs.length
    · obtain ⟨ad, hA, _, hcell⟩ := HL.out.place (by simp; omega)
      subst hA
      obtain ⟨d, hd⟩ : ∃ d : Nat, bs[j]? = some d := ⟨_, List.getElem?_eq_getElem hlt⟩
      have d8 := H8.out d (List.mem_of_getElem? hd)
      have h1 := cells_at hcell _ d hd
      have e := or_step32 y d j (by omega) hlt2.out d8
      have HN := Lib.hid (num_take hd)
      have hnl : num (bs.take (j + 1)) < 256 ^ (j + 1) := by
        have := num_lt (bs.take (j + 1)) fun c hc => H8.out c (List.mem_of_mem_take hc)
        rwa [List.length_take, Nat.min_eq_left (by omega)] at this
      have hp : 256 ^ (j + 1) ≤ 256 ^ 4 := Nat.pow_le_pow_right (by decide) (by omega)
      have p4 : (256 : Nat) ^ 4 = 4294967296 := by decide
      have HP := Lib.hid (show y + d * 256 ^ j < 256 ^ (j + 1) by rw [hy.out, ← HN.out]; exact hnl)
      have hy32 : y + d * 256 ^ j < 4294967296 := by have := HP.out; omega
      have hy0 : y < 4294967296 := Nat.lt_of_le_of_lt (Nat.le_add_right _ _) hy32
      clear hcell hd hnl hp p4
      generalize hz : d * 256 ^ j = z at *
      go_wp2_with fail
      go_round
      case rel => exact ⟨j + 1, y + z, by omega, by go_num, by go_num, Lib.hid (by rw [HN.out, ← hy.out]), HP⟩
      case measure => simp [intOf]; omega
    · obtain rfl : j = bs.length := by omega
      have HY : Hid (y = num bs) := Lib.hid (by rw [hy.out, List.take_length])
      go_wp2_with fail
      go_ret
      exact ⟨by rw [HY.out]; rfl, rfl⟩
theorem sum_by_tab (At Ab : Option Addr) (ct cb B : Nat) (bs : List Nat) (w : World) (hct : 256 ≤ ct) (hl : Lies w w.heap.size At (Crc.tab.map Crc.vw))
    (hb : Lies w B Ab (bs.map vb)) (hcb : bs.length ≤ cb) (hm : bs.length ≤ maxLen) (b8 : ∀ c, c ∈ bs → c < 256) :
    Calls Try.prog 59 #[.slice At 256 ct, .slice Ab bs.length cb] w fun e w' => e = .returned (.int .u32 (Crc.crc Crc.ent bs : Nat)) ∧ w = w' := by
  obtain ⟨ad, rfl, _, hc⟩ := hl.place (by rw [List.length_map, Crc.tab_length]; decide)
  have h := Crc.sum_tab ad Ab ct cb B Crc.tab bs w Crc.tab_length hct hc hb hcb hm Crc.tab32 b8
  rw [Crc.crc_congr Crc.tab_look bs b8] at h
  exact h
set_option maxRecDepth 100000 in
set_option maxHeartbeats 800000 in
theorem osum_any (A : Option Addr) (c : Nat) (bs : List Nat) (w : World) (hl : Lies w w.heap.size A (bs.map vb)) (hc : bs.length ≤ c) (hm : c ≤ maxLen) (h8 : ∀ c, c ∈ bs → c < 256) :
    Calls Try.prog 33 #[.slice A bs.length c] w fun e w' => e = .returned (.int .u32 (Crc.maskN (Crc.crc Crc.ent bs) : Nat)) ∧ Below w.heap.size w w' := by
  have HL := Lib.hid hl
  have H8 := Lib.hid h8
  have HT := Lib.hid (Crc.table_any w)
  have h32 : Crc.crc Crc.ent bs ≤ 4294967295 := by unfold Crc.crc; omega
  have hml := Nat.le_trans hc hm
  clear hl h8
  go_enter Try.func33, Try.ntmps33
  go_wp2_with fail
  refine HT.out.mono ?_
  intro e W1 hmade
  obtain ⟨v, rfl, ho, hb⟩ := hmade
  obtain ⟨At, ct, hv, hct, hmt, hlt⟩ := own_parts ho
  rw [Crc.tab_length] at hv hct
  subst hv
  have HB := Lib.hid hb
  have HS := Lib.hid (sum_by_tab At A ct c w.heap.size bs W1 hct hlt (HL.out.below hb) hc hml H8.out)
  have HM := Lib.hid (Crc.mask_any (Crc.crc Crc.ent bs) W1 h32)
  clear ho hlt hb
  obtain ⟨M, hM⟩ : ∃ M, M = Crc.maskN (Crc.crc Crc.ent bs) := ⟨_, rfl⟩
  rw [← hM] at HM
  have HMM := Lib.hid hM
  clear hM h32
  generalize Crc.crc Crc.ent bs = C at HS HM
  go_wp2_with fail
  refine HS.out.mono ?_; rintro e w' ⟨rfl, rfl⟩
  go_wp2_with fail
  refine HM.out.mono ?_; rintro e w' ⟨rfl, rfl⟩
  go_wp2_with fail
  go_ret
  exact ⟨by show Ending.returned (Value.int IntKind.u32 (M : Int)) = _; rw [HMM.out], HB.out⟩
/-- What cut answers: what stands in front of the last n, and these. -/
def Cutt (w : World) (A : Option Addr) (c m n : Nat) (e : Ending) (w' : World) : Prop := ∃ (A' : Option Addr) (q : Nat), (0 < n → A' = A.map (·.add (m - n))) ∧ e = .returned (.tuple #[.slice A (m - n) c, .slice A' n (c - (m - n))]) ∧ w' = w.drewN q
set_option maxRecDepth 100000 in
set_option maxHeartbeats 800000 in
theorem ocut_any (A : Option Addr) (c m n : Nat) (w : World) (hn : n ≤ m) (hc : m ≤ c) (hm : c ≤ maxLen) :
    Calls Try.prog 67 #[.slice A m c, .int .i64 (n : Int)] w (Cutt w A c m n) := by
  obtain ⟨p, hp⟩ : ∃ p, m = p + n := ⟨m - n, by omega⟩
  have hpn : m - n = p := by omega
  unfold Cutt
  rw [hpn]
  have HC1 := cut_to A m c p (by omega) hc hm
  obtain ⟨A', hA, -, HC2⟩ := cut_from A m c p (by omega) hc hm
  rw [show m - p = n by omega] at HC2 hA
  have HA := Lib.hid hA
  have e1 : (m : Int) - (n : Int) = (p : Int) := by omega
  have hm' := hm
  unfold maxLen at hm'
  have HPN := Lib.hid hp
  clear hA hp hpn
  go_enter Try.func67, Try.ntmps67
  go_wp2_with fail
  go_quiet (fail)
  go_wp2_with fail
  go_returns
  exact ⟨A', _, HA.out, rfl, rfl⟩
set_option maxRecDepth 100000 in
set_option maxHeartbeats 800000 in
theorem ocommon_any (A1 A2 : Option Addr) (B1 B2 c1 c2 : Nat) (x y : List Nat) (w : World) (h1 : Lies w B1 A1 (x.map vb)) (h2 : Lies w B2 A2 (y.map vb)) (hm1 : x.length ≤ 1000000) (hm2 : y.length ≤ 1000000) :
    Calls Try.prog 57 #[.slice A1 x.length c1, .slice A2 y.length c2] w fun e w' => e = .returned (.int .i64 (com x y : Nat)) ∧ ∃ m, w' = w.drewN m := by
  have H1 := Lib.hid h1
  have H2 := Lib.hid h2
  clear h1 h2
  obtain ⟨n, hn⟩ : ∃ n, n = min x.length y.length := ⟨_, rfl⟩
  have en : min (x.length : Int) (y.length : Int) = (n : Int) := by omega
  have hnx : n ≤ x.length := by omega
  have hny : n ≤ y.length := by omega
  have HN := Lib.hid hn
  clear hn
  go_enter Try.func57, Try.ntmps57
  go_wp2_with fail
  go_loopw [13] (fun i wr => ∃ j m : Nat, j ≤ n ∧ i = .int .i64 (j : Int) ∧ Hid (j ≤ com x y) ∧ Hid (wr = w.drewN m)) (fun i _ => n + 1 - (intOf i).toNat)
  case atStart => exact ⟨0, 0, Nat.zero_le _, rfl, Lib.hid (Nat.zero_le _), Lib.hid rfl⟩
  case round =>
    obtain ⟨j, m, hj, rfl, hc, hd⟩ := hrel
    by_cases hlt : j < n
    · obtain ⟨a1, e1, _, g1⟩ := H1.out.place (by rw [List.length_map]; omega)
      obtain ⟨a2, e2, _, g2⟩ := H2.out.place (by rw [List.length_map]; omega)
      subst e1
      subst e2
      obtain ⟨a, ha⟩ : ∃ c : Nat, x[j]? = some c := ⟨_, List.getElem?_eq_getElem (by omega)⟩
      obtain ⟨b, hb⟩ : ∃ c : Nat, y[j]? = some c := ⟨_, List.getElem?_eq_getElem (by omega)⟩
      have d1 : wr.cell? (a1.add j) = some (.int .u8 (a : Int)) := by rw [hd.out]; exact cells_at g1 j a ha
      have d2 : wr.cell? (a2.add j) = some (.int .u8 (b : Int)) := by rw [hd.out]; exact cells_at g2 j b hb
      have HA := Lib.hid ha
      have HBB := Lib.hid hb
      clear g1 g2 ha hb
      by_cases hab : a = b
      · subst hab
        have HN1 := Lib.hid (com_next hc.out HA.out HBB.out rfl)
        go_wp2_with fail
        go_quiet (fail)
        go_wp2_with fail
        go_roundw
        case rel => exact ⟨j + 1, m + nq, by omega, by go_num, HN1, Lib.hid (by rw [hd.out, World.drewN_drewN])⟩
        case measure => simp [intOf]; omega
      · have HE := Lib.hid (com_end hc.out (.inr (.inr ⟨a, b, HA.out, HBB.out, hab⟩)))
        have t3 : ((a : Int) == (b : Int)) = false := by rw [beq_eq_false_iff_ne]; omega
        have t3' : ((a : Int) != (b : Int)) = true := by rw [bne_iff_ne]; omega
        have t5 : decide ((a : Int) = (b : Int)) = false := decide_eq_false (by omega)
        have t6 : decide (a = b) = false := decide_eq_false hab
        clear hab
        go_wp2_with fail
        go_quiet (fail)
        go_wp2_with fail
        go_ret
        exact ⟨by rw [HE.out]; rfl, _, by rw [hd.out, World.drewN_drewN]⟩
    · obtain rfl : j = n := by omega
      have HE := Lib.hid (com_end hc.out (by have := HN.out; rcases Nat.le_total x.length y.length with h | h; exact .inl (by omega); exact .inr (.inl (by omega))))
      go_wp2_with fail
      go_ret
      exact ⟨by rw [HE.out]; rfl, _, hd.out⟩
set_option maxRecDepth 100000 in
set_option maxHeartbeats 800000 in
theorem oright_any (d : D) (w : World) (h : d.Ok w (· < w.heap.size)) : Calls Try.prog 54 #[d.v] w fun e w' => e = .returned (.bool (okT d.t)) ∧ Below w.heap.size w w' := by
  have hb0 := below_box w d
  have hvm := h.vm
  have hvc := h.vc
  unfold maxLen at hvm
  have x0 := (Bx.new w d).facts
  clear h
  obtain ⟨W0, hW0⟩ : ∃ W0, W0 = w.alloc (ebox d) := ⟨_, rfl⟩
  have hR := right_any d.ka d.kc d.k.key.length d.k.seq d.k.kind W0
  rw [← hW0] at hb0
  have HB := Lib.hid hb0
  have HR := Lib.hid hR
  clear hb0 hR
  subst hW0
  obtain ⟨c0, c1, c2, c3, -, -, -, -⟩ := x0
  by_cases k1 : d.k.kind = 0 ∧ 0 < d.val.length
  · obtain ⟨k1, k2⟩ := k1
    have d1 : (d.k.kind == 0) = true := by rw [beq_iff_eq]; exact k1
    have d2 : decide (0 < d.val.length) = true := decide_eq_true k2
    have E := Lib.hid (show okT d.t = false by unfold okT D.t; rw [k1, decide_eq_false (show ¬ d.val.length = 0 by omega)]; simp)
    clear k1 k2
    go_enter Try.func54, Try.ntmps54
    go_wp2_with fail
    go_ret
    exact ⟨by rw [E.out]; rfl, HB.out⟩
  · have walk : ∀ (b1 : Bool), ((d.k.kind == 0) = b1) → (b1 = true → decide (0 < d.val.length) = false) → Calls Try.prog 54 #[d.v] w fun e w' => e = .returned (.bool (okT d.t)) ∧ Below w.heap.size w w' := by
      intro b1 d1 d2
      have E1 := Lib.hid k1
      clear k1
      cases ho : okB d.k.key.length d.k.seq d.k.kind with
      | false =>
        have E := Lib.hid (show okT d.t = false by simp [okT, D.t, ho])
        rw [ho] at HR
        cases b1
        · clear d2
          go_enter Try.func54, Try.ntmps54
          go_wp2_with fail
          refine HR.out.mono ?_
          rintro e W1 ⟨rfl, hb1⟩
          have HB1 := Lib.hid (HB.out.trans (hb1.mono HB.out.size))
          go_wp2_with fail
          go_ret
          exact ⟨by rw [E.out]; rfl, HB1.out⟩
        · have d2 := d2 rfl
          go_enter Try.func54, Try.ntmps54
          go_wp2_with fail
          refine HR.out.mono ?_
          rintro e W1 ⟨rfl, hb1⟩
          have HB1 := Lib.hid (HB.out.trans (hb1.mono HB.out.size))
          go_wp2_with fail
          go_ret
          exact ⟨by rw [E.out]; rfl, HB1.out⟩
      | true =>
        have E := Lib.hid (show okT d.t = decide (d.val.length ≤ 4096) by
          have h2 := E1.out
          have h3 : d.k.kind = 1 ∨ d.val.length = 0 := by
            by_cases h0 : d.val.length = 0
            · exact .inr h0
            · left
              have h4 : ¬ d.k.kind = 0 := fun e => h2 ⟨e, by omega⟩
              have h5 : d.k.kind = 0 ∨ d.k.kind = 1 := by simp [okB] at ho; omega
              omega
          have h6 : (decide (d.k.kind = 1) || decide (d.val.length = 0)) = true := by simpa using h3
          show (okB d.k.key.length d.k.seq d.k.kind && decide (d.val.length ≤ 4096) && (decide (d.k.kind = 1) || decide (d.val.length = 0))) = _
          rw [ho, h6]; simp)
        rw [ho] at HR
        have x1 : Bx (w.alloc (ebox d)) w.heap.size d := Bx.new w d
        have HX := Lib.hid x1
        cases b1
        · clear d2 E1 x1
          go_enter Try.func54, Try.ntmps54
          go_wp2_with fail
          refine HR.out.mono ?_
          rintro e W1 ⟨rfl, hb1⟩
          have x2 : Bx W1 w.heap.size d := HX.out.below hb1 HX.out.lt
          obtain ⟨-, -, -, m3, -, -, -, -⟩ := x2.facts
          have HB1 := Lib.hid (HB.out.trans (hb1.mono HB.out.size))
          clear x2
          go_wp2_with fail
          go_ret
          exact ⟨by rw [E.out]; simp; omega, HB1.out⟩
        · have d2 := d2 rfl
          clear E1 x1
          go_enter Try.func54, Try.ntmps54
          go_wp2_with fail
          refine HR.out.mono ?_
          rintro e W1 ⟨rfl, hb1⟩
          have x2 : Bx W1 w.heap.size d := HX.out.below hb1 HX.out.lt
          obtain ⟨-, -, -, m3, -, -, -, -⟩ := x2.facts
          have HB1 := Lib.hid (HB.out.trans (hb1.mono HB.out.size))
          clear x2
          go_wp2_with fail
          go_ret
          exact ⟨by rw [E.out]; simp; omega, HB1.out⟩
    by_cases k0 : d.k.kind = 0
    · exact walk true (by rw [beq_iff_eq]; exact k0) (fun _ => decide_eq_false fun h => k1 ⟨k0, h⟩)
    · exact walk false (by rw [beq_eq_false_iff_ne]; exact k0) (fun h => by cases h)

end Go.Proofs.Ytobjiamdljjkjaa.Bk
