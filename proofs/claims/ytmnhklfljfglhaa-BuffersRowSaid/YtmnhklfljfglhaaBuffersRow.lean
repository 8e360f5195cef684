/- What is added goes into one buffer until it would have too much, then into a new one: the law answers true for every budget and every row of numbers. -/
import Derived.Test.YtmnhklfljfglhaaBlaw
import Derived.Test.YtmnhklfljfglhaaRows
namespace Go.Proofs.Ytmnhklfljfglhaa.buffersRow
set_option linter.unusedVariables false
set_option linter.unusedSimpArgs false
open Go.ChangeShapes Go.WideShapes Go.ChangeAt Go.RowKit Lift Bu

theorem own : ownKnob Try.prog.godebug = none := by kernel_rfl

theorem i64_and1023 (n : Int) : bits .and .i64 n 1023 = n % 1024 := by
  have h127 : (BitVec.ofInt 64 1023).toNat = 2 ^ 10 - 1 := by decide
  have key : (BitVec.ofInt 64 n &&& BitVec.ofInt 64 1023).toNat = (n % ((2 ^ 64 : Nat) : Int)).toNat % 2 ^ 10 := by
    rw [BitVec.toNat_and, BitVec.toNat_ofInt, h127, Nat.and_two_pow_sub_one_eq_mod]
  show IntKind.i64.wrap ((BitVec.ofInt 64 n &&& BitVec.ofInt 64 1023).toNat : Nat) = n % 1024
  rw [key, IntKind.wrap_i64]
  omega
/-- Buffers and a row of whole numbers beside them, both of the call's own. -/
def Two (W : World) (g b : Nat) (fs : List Nat) (ac : Nat) (q : Value) (w : World) : Prop := ∃ S : Nat → Prop, BU w g S b 100 fs ac ∧ (∀ k, S k → W.heap.size ≤ k) ∧ w.ownsRow W.heap.size 3 1 q fs.length (fs.map vi) ∧ (∀ k, q.ownBlock = some k → ¬ S k) ∧ Below W.heap.size W w
/-- The full buffers' row is yet to grow. -/
def Mid (W : World) (g b : Nat) (fs fs' : List Nat) (ac : Nat) (q : Value) (w : World) : Prop := ∃ S : Nat → Prop, BU w g S b 100 fs' ac ∧ (∀ k, S k → W.heap.size ≤ k) ∧ w.ownsRow W.heap.size 3 1 q fs.length (fs.map vi) ∧ (∀ k, q.ownBlock = some k → ¬ S k) ∧ Below W.heap.size W w
theorem Mid.of {W w w' : World} {g b ac' : Nat} {S : Nat → Prop} {fs fs' : List Nat} {q : Value} (hS : ∀ k, S k → W.heap.size ≤ k) (ho : w.ownsRow W.heap.size 3 1 q fs.length (fs.map vi)) (ha : ∀ k, q.ownBlock = some k → ¬ S k) (hb : Below W.heap.size W w) (hw : Went w g S b 100 fs' ac' w') : Mid W g b fs fs' ac' q w' := by
  obtain ⟨S', h1, h2, h3⟩ := hw
  refine ⟨S', h1, fun k hk => (h3 k hk).elim (hS k) fun h => Nat.le_trans hb.size h, own_kept ho h2 ha, fun k hk hs => ?_, hb.trans (h2.below hb.size hS)⟩
  rcases h3 k hs with h | h
  · exact ha k hk h
  · have := (ho.lt k hk).2
    omega
theorem Mid.grow {W w w' : World} {g b ac x : Nat} {fs : List Nat} {q q' : Value} (h : Mid W g b fs (fs ++ [x]) ac q w) (h1 : w'.ownsRow W.heap.size 3 1 q' (fs ++ [x]).length ((fs ++ [x]).map vi)) (h2 : Onto q q' w w') : Two W g b (fs ++ [x]) ac q' w' := by
  obtain ⟨S, s1, s2, s3, s4, s5⟩ := h
  refine ⟨S, s1.keep h2.keep (fun k hk hq => s4 k hq hk), s2, h1, fun k hk hs => ?_, s5.trans (h2.below s3 s5.size)⟩
  rcases h2.place k hk with h | h
  · exact s4 k h hs
  · have := s1.lt k hs
    omega
set_option maxRecDepth 100000 in
set_option maxHeartbeats 1600000 in
theorem walk (b : Nat) (A : Option Addr) (c : Nat) (zs : List Int) (W : World) (hb : 1 ≤ b ∧ b ≤ 1000) (hl : Lies W W.heap.size A (zs.map (Value.int .i64))) (hc : zs.length ≤ c) (hn : zs.length ≤ 50) :
    Calls Try.prog 6 #[.int .i64 (b : Int), .slice A zs.length c] W (Yes W) := by
  obtain ⟨hb1, hb2⟩ := hb
  have HL := Lib.hid hl
  have n1 : ¬ (b : Int) < 1 := by omega
  have n2 : ¬ (1000 : Int) < (b : Int) := by omega
  have d1 : decide ((b : Int) < 1) = false := decide_eq_false n1
  have d2 : decide ((1000 : Int) < (b : Int)) = false := decide_eq_false n2
  clear hl
  go_enter Try.func6, Try.ntmps6
  go_wp2_with fail
  refine (alive_any _).mono ?_
  rintro e W1 ⟨rfl, hb1'⟩
  have HB1 := Lib.hid hb1'
  clear hb1'
  go_wp2_with fail
  have HN := Lib.hid (new_any (b : Int) 100 (by omega) (by decide) W1)
  rw [lim_same (show 1 ≤ b from hb1) (show b ≤ 1073741824 by omega), show lim 100 100 = 100 from by decide] at HN
  refine HN.out.mono ?_
  rintro e W2 ⟨rfl, hbu, hb2'⟩
  have HT : Hid (Two W W1.heap.size b [] 0 (.slice none 0 0) W2) := Lib.hid ⟨_, hbu, fun k hk => by rw [hk]; exact HB1.out.size, World.ownsRow_nil _ _ _ _, fun k hk => by simp [Value.ownBlock] at hk, HB1.out.trans (hb2'.mono HB1.out.size)⟩
  clear hbu hb2' HN n1 n2 d1 d2
  generalize W1.heap.size = g at HT ⊢
  clear HB1 W1
  go_wp2_with fail
  go_loopw [7, 8, 9] (fun q nw i wr => ∃ (j ac : Nat) (fs : List Nat), j ≤ zs.length ∧ nw = .int .i64 (ac : Int) ∧ i = .int .i64 (j : Int) ∧ Hid (Two W g b fs ac q wr) ∧ Hid (fs.length ≤ j)) (fun _ _ i _ => zs.length + 1 - (intOf i).toNat)
  case atStart => exact ⟨0, 0, [], Nat.zero_le _, rfl, rfl, HT, Lib.hid (Nat.le_refl _)⟩
  case round =>
    obtain ⟨j, ac, fs, hj, rfl, rfl, ht, hfs⟩ := hrel
    obtain ⟨S, s1, s2, s3, s4, s5⟩ := ht.out
    obtain ⟨Aq, cq, rfl, hcq, hmq, hlq⟩ := own_parts s3
    have hac : ac ≤ b := s1.ok.act
    by_cases hlt : j < zs.length
    · obtain ⟨z, hz⟩ : ∃ z, zs[j]? = some z := ⟨_, List.getElem?_eq_getElem hlt⟩
      obtain ⟨ad, rfl, -, hcell⟩ := (HL.out.below s5).place (by rw [List.length_map]; omega)
      have hce : wr.cell? (ad.add j) = some (.int .i64 z) := hcell j _ (by rw [List.getElem?_map, hz]; rfl)
      obtain ⟨m, hm⟩ : ∃ m : Nat, z % 1024 = (m : Int) := ⟨(z % 1024).toNat, by omega⟩
      have hm2 : m < 1024 := by omega
      have eA : bits .and .i64 z 1023 = (m : Int) := by rw [i64_and1023, hm]
      have hfs50 : fs.length ≤ j := hfs.out
      have HADD := Lib.hid (add_any (m : Int) (by omega) s1)
      rw [Int.toNat_natCast] at HADD
      have HMID := Lib.hid (fun (w' : World) (fs' : List Nat) (ac' : Nat) (hw : Went wr g S b 100 fs' ac' w') => Mid.of s2 s3 s4 s5 hw)
      clear s1 s2 s3 s4 s5 hcell hz hm hlq
      by_cases hrej : b < m
      · obtain ⟨e1, e2, e3⟩ := add_rej (mo := 100) (ac := ac) (fs := fs) hrej
        rw [e1, e2, e3] at HADD
        have d3 : decide (b < m) = true := decide_eq_true hrej
        have d4 : (b : Int) < (m : Int) := by omega
        have HFS : Hid (fs.length ≤ j + 1) := Lib.hid (by omega)
        clear e1 e2 e3 hrej hfs50
        go_wp2_with fail
        refine HADD.out.mono ?_
        rintro e W3 ⟨rfl, hw⟩
        have HM := Lib.hid (HMID.out _ _ _ hw)
        clear hw
        go_wp2_with fail
        go_roundw
        case rel => exact ⟨j + 1, ac, fs, by omega, by go_num, by go_num, HM, HFS⟩
        case measure => simp [intOf]; omega
      · have d3 : decide (b < m) = false := decide_eq_false hrej
        have d4 : decide ((b : Int) < (m : Int)) = false := decide_eq_false (by omega)
        rcases ho : over b ac m
        · obtain ⟨e1, e2, e3⟩ := add_in (mo := 100) (fs := fs) hrej ho
          rw [e1, e2, e3] at HADD
          have HFS : Hid (fs.length ≤ j + 1) := Lib.hid (by omega)
          unfold over at ho
          have ho2 := of_decide_eq_false ho
          clear e1 e2 e3 ho hfs50
          by_cases h0 : 0 < ac
          · have d5 : decide (0 < ac) = true := decide_eq_true h0
            have d6 : decide (b < ac + m) = false := decide_eq_false (by omega)
            have d7 : decide ((b : Int) < (ac : Int) + (m : Int)) = false := decide_eq_false (by omega)
            clear h0 ho2
            go_wp2_with fail
            refine HADD.out.mono ?_
            rintro e W3 ⟨rfl, hw⟩
            have HM := Lib.hid (HMID.out _ _ _ hw)
            clear hw
            go_wp2_with fail
            go_roundw
            case rel => exact ⟨j + 1, ac + m, fs, by omega, by go_num, by go_num, HM, HFS⟩
            case measure => simp [intOf]; omega
          · have d5 : decide (0 < ac) = false := decide_eq_false h0
            clear h0 ho2
            go_wp2_with fail
            refine HADD.out.mono ?_
            rintro e W3 ⟨rfl, hw⟩
            have HM := Lib.hid (HMID.out _ _ _ hw)
            clear hw
            go_wp2_with fail
            go_roundw
            case rel => exact ⟨j + 1, ac + m, fs, by omega, by go_num, by go_num, HM, HFS⟩
            case measure => simp [intOf]; omega
        · obtain ⟨e1, e2, e3⟩ := add_over (mo := 100) (fs := fs) hrej ho (by omega)
          rw [e1, e2, e3] at HADD
          have HFS : Hid ((fs ++ [ac]).length ≤ j + 1) := Lib.hid (by rw [List.length_append]; simp; omega)
          unfold over at ho
          have ho2 := of_decide_eq_true ho
          have d5 : decide (0 < ac) = true := decide_eq_true ho2.1
          have d6 : decide (b < ac + m) = true := decide_eq_true ho2.2
          have d7 : (b : Int) < (ac : Int) + (m : Int) := by omega
          have HLN : Hid (fs.length ≤ 1000000) := Lib.hid (by omega)
          clear e1 e2 e3 ho hfs50 ho2
          go_wp2_with fail
          refine HADD.out.mono ?_
          rintro e W3 ⟨rfl, hw⟩
          have HM := Lib.hid (HMID.out _ _ _ hw)
          clear hw
          obtain ⟨S3, -, -, t3, -, t5⟩ := HM.out
          obtain ⟨q', W4, hr4, ho4, hon4⟩ := append_int ac t3 HLN.out t5.size
          have HT4 := Lib.hid (HM.out.grow ho4 hon4)
          obtain ⟨A4, c4, rfl, -, -, -⟩ := own_parts ho4
          have HR4 := Lib.hid hr4
          clear t3 t5 hr4 ho4 hon4
          go_wp2_with (at_builtin; refine wpList_append_run rfl _ _ 23 rfl rfl rfl HR4.out ?_)
          go_roundw
          case rel => exact ⟨j + 1, m, fs ++ [ac], by omega, by go_num, by go_num, by rw [List.length_append] at HT4; exact HT4, HFS⟩
          case measure => simp [intOf]; omega
    · obtain rfl : j = zs.length := by omega
      have HZ := Lib.hid (sizes_any s1)
      have HF50 : Hid (fs.length ≤ 50) := Lib.hid (by have := hfs.out; omega)
      have HS3 := Lib.hid s3
      have HS5 := Lib.hid s5
      clear s1 s2 s3 s4 s5 hlq
      go_wp2_with fail
      refine HZ.out.mono ?_
      rintro e W3 ⟨v, rfl, hov, hbv⟩
      have hq3 := own_later HS3.out hbv
      obtain ⟨q', W4, hr4, ho4, hon4⟩ := append_int ac hq3 (by have := HF50.out; omega) (Nat.le_trans HS5.out.size hbv.size)
      have hbig := hon4.below hq3 (Nat.le_trans HS5.out.size hbv.size)
      have hov4 : W4.ownsRow wr.heap.size 3 1 v (fs ++ [ac]).length ((fs ++ [ac]).map vi) := own_kept hov hon4.keep (fun k hk hq => by
        have h1 := (hov.lt k hk).1
        have h2 := (HS3.out.lt k hq).2
        omega)
      obtain ⟨L, hL⟩ : ∃ L, L = (fs ++ [ac]).length := ⟨_, rfl⟩
      have hsl : L ≤ 1000 := by have := HF50.out; rw [hL, List.length_append]; simp; omega
      have hll : ∀ {w : World} {B B' c c' : Nat} {A A' : Option Addr}, Lies w B A ((fs ++ [ac]).map vi) → Lies w B' A' ((fs ++ [ac]).map vi) → Calls Try.prog 32 #[.slice A L c, .slice A' L c'] w fun e w' => e = .returned (.bool true) ∧ ∃ m, w' = w.drewN m := by
        rw [hL] at hsl ⊢
        exact fun h1 h2 => same_ints h1 h2 hsl
      rw [← hL] at hov4 ho4
      clear hL hsl
      obtain ⟨Av, cv, rfl, hcv, hmv, hlv⟩ := own_parts hov4
      obtain ⟨A4, c4, rfl, hc4, hm4, hl4⟩ := own_parts ho4
      have HSAME := Lib.hid (hll (w := W4) (c := cv) (c' := c4) hlv hl4)
      have HR4 := Lib.hid hr4
      have HBE : Hid (Below W.heap.size W W4) := Lib.hid ((HS5.out.trans (hbv.mono HS5.out.size)).trans hbig)
      clear hll hq3 hr4 ho4 hon4 hbig hov hov4 hbv hcv hmv hlv hc4 hm4 hl4
      go_wp2_with (at_builtin; refine wpList_append_run rfl _ _ 23 rfl rfl rfl HR4.out ?_)
      refine HSAME.out.mono ?_
      rintro e W5 ⟨rfl, n, rfl⟩
      go_wp2_with fail
      go_ret
      exact ⟨rfl, HBE.out.trans (Joins.below_draws _ _ _)⟩
set_option maxRecDepth 100000 in
set_option maxHeartbeats 800000 in
theorem walk_no (a : Int) (A : Option Addr) (n c : Nat) (W : World) (h : ¬ (1 ≤ a ∧ a ≤ 1000 ∧ n ≤ 50)) (hn : n ≤ c) (hm : c ≤ maxLen) :
    Calls Try.prog 6 #[.int .i64 a, .slice A n c] W (Yes W) := by
  unfold maxLen at hm
  go_enter Try.func6, Try.ntmps6
  go_wp2_with fail
  refine (alive_any _).mono ?_
  rintro e W1 ⟨rfl, hb1'⟩
  have HB1 := Lib.hid hb1'
  clear hb1'
  by_cases h1 : a < 1
  · clear h
    go_wp2_with fail
    go_ret
    exact ⟨rfl, HB1.out⟩
  · have d1 : decide (a < 1) = false := decide_eq_false h1
    by_cases h2 : 1000 < a
    · clear h
      go_wp2_with fail
      go_ret
      exact ⟨rfl, HB1.out⟩
    · have d2 : decide (1000 < a) = false := decide_eq_false h2
      have h3 : 50 < n := by omega
      have d3 : decide (50 < n) = true := decide_eq_true h3
      have d4 : (50 : Int) < (n : Int) := by omega
      clear h
      go_wp2_with fail
      go_ret
      exact ⟨rfl, HB1.out⟩

set_option maxRecDepth 100000 in
theorem lifted (os : Os) (started : os.Started) (H : Type) (enc : TypeId × Value → H) :
    ReturnsInHanded {} Try.checked os 6 .any (Rows.buffersRowSpec.pre6 enc Try.prog Try.f6 Rows.buffersRowRow.domain false) (Rows.buffersRowSpec.post enc Try.prog Try.f6 false true false false) := by
  refine lift_true (C := Try.checked) own started (by kernel_rfl) Try.func6
    (ChangeSpec.witness6 (enc := enc) (C := Try.checked) false ⟨#[], #[.int .i64 0, .slice none 0 0], []⟩ 8 (by kernel_rfl) (by kernel_rfl) (by kernel_rfl) (by kernel_rfl))
    (by kernel_rfl) (by kernel_rfl) (by kernel_rfl) Try.underlying4 rfl ?_ ?_
  · intro ds hds
    match ds, hds with
    | [d1, d2], _ => exact ⟨rfl, rfl, rfl⟩
  · intro W base args ds p hval0 hA0 hlt _
    have hval : ∀ (j : Nat) t v, Try.f6.params[j]? = some t → args[j]? = some v → Value.okWide Try.prog W .any base t v := hval0
    have hA : DataW.TrodAll enc Try.prog W 0 (fun _ => true) true Try.f6.params.toList args.toList ds p := hA0
    rw [Try.params6] at hA hval
    obtain ⟨v0, vs0, d0, ds0, p0, q0, hargs, rfl, rfl, h0, r0⟩ := trodAll_cons hA
    obtain ⟨v1, vs1, d1, ds1, p1, q1, rfl, rfl, rfl, h1, r1⟩ := trodAll_cons r0
    obtain ⟨rfl, rfl, rfl⟩ := trodAll_nil r1
    obtain rfl : args = #[v0, v1] := by cases args; simp_all
    obtain ⟨a0, rfl, rfl, rfl, w0⟩ := open_int Try.underlying3 (hval 0 _ v0 rfl rfl) h0
    have b0 := i64_of w0
    obtain ⟨A1, c1, zs1, rfl, hc1, hm1, hl1, hw1⟩ := open_nums Try.underlying23 Try.underlying3 (by kernel_rfl) (hval 1 _ v1 rfl rfl) h1 (fun x hx => hlt x (by simp [hx]))
    by_cases h : 1 ≤ a0 ∧ a0 ≤ 1000 ∧ zs1.length ≤ 50
    · obtain ⟨b, rfl⟩ : ∃ b : Nat, a0 = (b : Int) := ⟨a0.toNat, by omega⟩
      exact walk b A1 c1 zs1 W ⟨by omega, by omega⟩ hl1 hc1 h.2.2
    · exact walk_no a0 A1 zs1.length c1 W h hc1 hm1

theorem over : Rows.buffersRowRow.holds Try.pinned (OpenSpec.ofChange Rows.buffersRowSpec) :=
  OpenClaim.holds_of_wide 6 Try.f6 rfl rfl rfl rfl rfl rfl rfl ⟨rfl, rfl, rfl, rfl, rfl⟩ rfl rfl rfl rfl rfl (by kernel_rfl) Try.func6 (by kernel_rfl)
    (of_decide_eq_true (by kernel_rfl)) (by unfold Func.isWrapper; first | (rw [if_pos (by decide +kernel)]; kernel_rfl) | (rw [if_neg (by decide +kernel)]; exact ⟨rfl, rfl⟩))
    (fun os started H enc _ => lifted os started H enc)

theorem proved : Rows.BuffersRowSaid :=
  over
#print axioms proved
end Go.Proofs.Ytmnhklfljfglhaa.buffersRow
