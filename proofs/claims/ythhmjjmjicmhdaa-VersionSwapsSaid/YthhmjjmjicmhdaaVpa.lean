/- Package version's own functions, told for every input: Right, files, the searches among ints and runs, Clone, DeleteFunc, Insert, cmp.Or and copied. -/
import Derived.Test.YthhmjjmjicmhdaaVops
import Derived.Test.YthhmjjmjicmhdaaEp2
import Derived.Test.YthhmjjmjicmhdaaVcp
import Derived.Test.YthhmjjmjicmhdaaEp7
import Derived.Lib.Overlaps
import Derived.Lib.AppendZerosOnto
import Derived.Laws.NewBlocks
import Derived.Shelf.Spec.SlicesInsert
import Derived.Test.YthhmjjmjicmhdaaLast
/- Package version: Right, and what it asks. -/
namespace Go.Proofs.Ythhmjjmjicmhdaa.Ve
set_option linter.unusedVariables false
set_option linter.unusedSimpArgs false
open Go.RowKit Lift Ik Ed
def okNum (y : Y) : Bool := decide (1 ≤ y.next) && (decide (y.next ≤ 1099511627776) && (decide (0 ≤ y.log) && (decide (y.log ≤ 1099511627776) && decide (y.seq ≤ 72057594037927935))))
set_option maxRecDepth 100000 in
set_option maxHeartbeats 3200000 in
theorem vnums_any (y : Y) (w : World) (hn : (Lit.int .i64 y.next).wf = true) (hl : (Lit.int .i64 y.log).wf = true) (hs : y.seq < 18446744073709551616) :
    Calls Try.prog 63 #[y.v] w fun e w' => e = .returned (.bool (okNum y)) ∧ Below w.heap.size w w' := by
  have b1 := i64_of hn
  have b2 := i64_of hl
  have HB0 := Lib.hid (Joins.below_alloc1 w y.box)
  obtain ⟨c0, hc0⟩ : ∃ b, b = decide (1 ≤ y.next) := ⟨_, rfl⟩
  obtain ⟨c1, hc1⟩ : ∃ b, b = decide (y.next ≤ 1099511627776) := ⟨_, rfl⟩
  obtain ⟨c2, hc2⟩ : ∃ b, b = decide (0 ≤ y.log) := ⟨_, rfl⟩
  obtain ⟨c3, hc3⟩ : ∃ b, b = decide (y.log ≤ 1099511627776) := ⟨_, rfl⟩
  obtain ⟨c4, hc4⟩ : ∃ b, b = decide (y.seq ≤ 72057594037927935) := ⟨_, rfl⟩
  have HY : Hid (okNum y = (c0 && (c1 && (c2 && (c3 && c4))))) := Lib.hid (by unfold okNum; rw [← hc0, ← hc1, ← hc2, ← hc3, ← hc4])
  have t0 := hc0.symm
  have t1 := hc1.symm
  have t2 := hc2.symm
  have t3 := hc3.symm
  have t4 := hc4.symm
  have s4 : decide ((y.seq : Int) ≤ 72057594037927935) = c4 := by rw [hc4, decide_eq_decide]; omega
  clear hc0 hc1 hc2 hc3 hc4 b1 b2 hn hl hs
  go_enter Try.func63, Try.ntmps63
  rcases c0
  · go_wp2_with fail
    go_ret
    exact ⟨by rw [HY.out]; rfl, HB0.out⟩
  · rcases c1
    · go_wp2_with fail
      go_ret
      exact ⟨by rw [HY.out]; rfl, HB0.out⟩
    · rcases c2
      · go_wp2_with fail
        go_ret
        exact ⟨by rw [HY.out]; rfl, HB0.out⟩
      · rcases c3
        · go_wp2_with fail
          go_ret
          exact ⟨by rw [HY.out]; rfl, HB0.out⟩
        · rcases c4
          · go_wp2_with fail
            go_ret
            exact ⟨by rw [HY.out]; rfl, HB0.out⟩
          · go_wp2_with fail
            go_ret
            exact ⟨by rw [HY.out]; rfl, HB0.out⟩
set_option maxRecDepth 100000 in
set_option maxHeartbeats 3200000 in
theorem vfiles_any (A : Option Addr) (c B : Nat) (L : List D) (next : Int) (w : World) (hL : Runs w B A c L) (hB : B ≤ w.heap.size) :
    Calls Try.prog 64 #[.slice A L.length c, .int .i64 next] w fun e w' => e = .returned (.bool (L.all fun d => decide (d.file < next))) ∧ Below w.heap.size w w' := by
  have HL := Lib.hid hL
  have hcl := Nat.le_trans hL.len hL.cap
  unfold maxLen at hcl
  obtain ⟨z, hz⟩ : ∃ z, z = (L.all fun d => decide (d.file < next)) := ⟨_, rfl⟩
  rw [← hz]
  have HZ := Lib.hid hz
  clear hL hz
  go_enter Try.func64, Try.ntmps64
  go_wp2_with fail
  go_loopw [9] (fun i wr => ∃ k : Nat, k ≤ L.length ∧ i = .int .i64 (k : Int) ∧ Hid (Below w.heap.size w wr) ∧ Hid (∀ d, d ∈ L.take k → d.file < next)) (fun i _ => L.length + 1 - (intOf i).toNat)
  case atStart => exact ⟨0, Nat.zero_le _, rfl, Lib.hid (Below.refl _ _), Lib.hid fun d hd => by simp at hd⟩
  case round =>
    obtain ⟨k, hk, rfl, hb, hall⟩ := hrel
    by_cases hlt : k < L.length
    · obtain ⟨d, hd⟩ : ∃ d, L[k]? = some d := ⟨_, List.getElem?_eq_getElem hlt⟩
      have hR := HL.out.below (hb.out.mono hB)
      obtain ⟨ad, p, rfl, hpb, hpp, q0, q1, q2, q3, q4, q5⟩ := hR.place hd
      have ql := load_run q0 q1 q2 q3 q4 q5
      have HD := Lib.hid hd
      have HB1 := Lib.hid (hb.out.alloc hb.out.size (.cells #[.int .i64 d.file, .int .i64 d.bytes, .int .i64 d.count, .slice d.firstA d.first.length d.firstC, .slice d.lastA d.last.length d.lastC, .int .u64 (d.seq : Int)] 41))
      clear hd hR hpb
      by_cases h : d.file < next
      · have t1 : decide (next ≤ d.file) = false := decide_eq_false (by omega)
        have HH := Lib.hid h
        clear h
        go_wp2_with fail
        go_roundw
        case rel => exact ⟨k + 1, by omega, by go_num, HB1, Lib.hid fun d' hd' => by
          rw [List.take_add_one, HD.out] at hd'
          rcases List.mem_append.1 hd' with h | h
          · exact hall.out d' h
          · have : d' = d := by simpa using h
            rw [this]; exact HH.out⟩
        case measure => simp [intOf]; omega
      · have t1 : decide (next ≤ d.file) = true := decide_eq_true (by omega)
        have HF : Hid (z = false) := Lib.hid (by
          rw [HZ.out, List.all_eq_false]
          exact ⟨d, List.mem_of_getElem? HD.out, by simpa using Int.not_lt.1 h⟩)
        clear h
        go_wp2_with fail
        go_ret
        exact ⟨by rw [HF.out]; rfl, HB1.out⟩
    · obtain rfl : k = L.length := by omega
      have HF : Hid (z = true) := Lib.hid (by
        rw [HZ.out, List.all_eq_true]
        intro d hd
        rw [decide_eq_true_eq]
        exact hall.out d (by rw [List.take_length]; exact hd))
      go_wp2_with fail
      go_ret
      exact ⟨by rw [HF.out]; rfl, hb.out⟩
set_option maxRecDepth 100000 in
set_option maxHeartbeats 3200000 in
theorem vfalls_any (A : Option Addr) (c B : Nat) (L : List D) (sq : Nat) (w : World) (hL : Runs w B A c L) (hB : B ≤ w.heap.size) (hs : sq ≤ 72057594037927935) :
    Calls Try.prog 65 #[.slice A L.length c, .int .u64 (sq : Int)] w fun e w' => e = .returned (.bool (falls (sq + 1) (L.map D.ru))) ∧ Below w.heap.size w w' := by
  have HL := Lib.hid hL
  have hcl := Nat.le_trans hL.len hL.cap
  unfold maxLen at hcl
  obtain ⟨z, hz⟩ : ∃ z, z = falls (sq + 1) (L.map D.ru) := ⟨_, rfl⟩
  rw [← hz]
  have HZ := Lib.hid hz
  have w1 : IntKind.u64.wrap ((sq : Int) + 1) = (sq : Int) + 1 := by rw [IntKind.wrap_u64]; omega
  clear hL hz
  go_enter Try.func65, Try.ntmps65
  go_wp2_with fail
  go_loopw [5, 12] (fun l i wr => ∃ k b : Nat, k ≤ L.length ∧ l = .int .u64 (b : Int) ∧ i = .int .i64 (k : Int) ∧ Hid (Below w.heap.size w wr) ∧ Hid (falls b ((L.map D.ru).drop k) = z)) (fun _ i _ => L.length + 1 - (intOf i).toNat)
  case atStart => exact ⟨0, sq + 1, Nat.zero_le _, by go_num, rfl, Lib.hid (Below.refl _ _), Lib.hid (by rw [HZ.out, List.drop_zero])⟩
  case round =>
    obtain ⟨k, b, hk, rfl, rfl, hb, hall⟩ := hrel
    by_cases hlt : k < L.length
    · obtain ⟨d, hd⟩ : ∃ d, L[k]? = some d := ⟨_, List.getElem?_eq_getElem hlt⟩
      have hR := HL.out.below (hb.out.mono hB)
      obtain ⟨ad, p, rfl, hpb, hpp, q0, q1, q2, q3, q4, q5⟩ := hR.place hd
      have ql := load_run q0 q1 q2 q3 q4 q5
      have HS : Hid ((L.map D.ru).drop k = d.ru :: (L.map D.ru).drop (k + 1)) := Lib.hid (by
        have h2 : (L.map D.ru)[k]? = some d.ru := by rw [List.getElem?_map, hd]; rfl
        obtain ⟨h3, h4⟩ := List.getElem?_eq_some_iff.1 h2
        rw [List.drop_eq_getElem_cons h3, h4])
      have HB1 := Lib.hid (hb.out.alloc hb.out.size (.cells #[.int .i64 d.file, .int .i64 d.bytes, .int .i64 d.count, .slice d.firstA d.first.length d.firstC, .slice d.lastA d.last.length d.lastC, .int .u64 (d.seq : Int)] 41))
      have hsq : d.ru.seq = d.seq := rfl
      by_cases h : d.seq < b
      · have t1 : decide ((b : Int) ≤ (d.seq : Int)) = false := decide_eq_false (by omega)
        have t2 : decide (b ≤ d.seq) = false := decide_eq_false (by omega)
        have HF : Hid (falls d.seq ((L.map D.ru).drop (k + 1)) = z) := Lib.hid (by
          have := hall.out
          rw [HS.out] at this
          unfold falls at this
          rw [hsq, decide_eq_true h] at this
          exact this)
        clear h hsq hd hR hpb
        go_wp2_with fail
        go_roundw
        case rel => exact ⟨k + 1, d.seq, by omega, rfl, by go_num, HB1, HF⟩
        case measure => simp [intOf]; omega
      · have t1 : decide ((b : Int) ≤ (d.seq : Int)) = true := decide_eq_true (by omega)
        have t2 : decide (b ≤ d.seq) = true := decide_eq_true (by omega)
        have HF : Hid (z = false) := Lib.hid (by
          rw [← hall.out, HS.out]
          unfold falls
          rw [hsq, decide_eq_false h]
          rfl)
        clear h hsq hd hR hpb
        go_wp2_with fail
        go_ret
        exact ⟨by rw [HF.out]; rfl, HB1.out⟩
    · obtain rfl : k = L.length := by omega
      have HF : Hid (z = true) := Lib.hid (by
        rw [← hall.out, List.drop_eq_nil_of_le (by simp)]
        rfl)
      go_wp2_with fail
      go_ret
      exact ⟨by rw [HF.out]; rfl, hb.out⟩
theorem right_parts (y : Y) : rightV y.t = (okNum y && (decide ((y.runs.length : Int) ≤ 1000) && (((y.runs.map D.ru).all okR && decide (y.runs.map (·.file)).Nodup) && ((y.runs.all fun d => decide (d.file < y.next)) && falls (y.seq + 1) (y.runs.map D.ru))))) := by
  have e1 : ((y.runs.map D.ru).all (okV y.next)) = ((y.runs.map D.ru).all okR && (y.runs.all fun d => decide (d.file < y.next))) := by
    rw [Bool.eq_iff_iff]
    simp only [Bool.and_eq_true, List.all_eq_true, List.mem_map, forall_exists_index, and_imp, forall_apply_eq_imp_iff₂, okV]
    exact ⟨fun h => ⟨fun d hd => (h d hd).1, fun d hd => (h d hd).2⟩, fun h d hd => ⟨h.1 d hd, h.2 d hd⟩⟩
  have e2 : (y.runs.map D.ru).map (·.file) = y.runs.map (·.file) := by rw [List.map_map]; rfl
  unfold rightV okNum
  show (decide ((y.runs.map D.ru).length ≤ 1000) && (decide (1 ≤ y.next ∧ y.next ≤ 1099511627776) && (okN y.log && (decide (y.seq ≤ 72057594037927935) && (decide ((y.runs.map D.ru).map (·.file)).Nodup && ((y.runs.map D.ru).all (okV y.next) && falls (y.seq + 1) (y.runs.map D.ru))))))) = _
  rw [e1, e2, List.length_map]
  unfold okN
  rw [Bool.eq_iff_iff]
  simp only [Bool.and_eq_true, decide_eq_true_eq]
  constructor
  · rintro ⟨h1, h2, h3, h4, h5, ⟨h6, h7⟩, h8⟩
    exact ⟨⟨h2.1, h2.2, h3.1, h3.2, h4⟩, by omega, ⟨h6, h5⟩, h7, h8⟩
  · rintro ⟨⟨a1, a2, a3, a4, a5⟩, h1, ⟨h6, h5⟩, h7, h8⟩
    exact ⟨by omega, ⟨a1, a2⟩, ⟨a3, a4⟩, a5, h5, ⟨h6, h7⟩, h8⟩
set_option maxRecDepth 100000 in
set_option maxHeartbeats 6400000 in
theorem vright_any (y : Y) (B : Nat) (w : World) (hy : y.Ok w B) (hB : B ≤ w.heap.size) :
    Calls Try.prog 28 #[y.v] w fun e w' => e = .returned (.bool (rightV y.t)) ∧ Below w.heap.size w w' := by
  have hb0 := Joins.below_alloc1 w y.box
  have HX0 : Hid (Box (w.alloc y.box) w.heap.size 44 y.cells) := Lib.hid (Box.new w 44 y.cells)
  have HY0 := Lib.hid (hy.below (hb0.mono hB))
  have HB0 := Lib.hid hb0
  have HG : Hid (B ≤ w.heap.size) := Lib.hid hB
  obtain ⟨c0, hc0⟩ : ∃ b, b = okNum y := ⟨_, rfl⟩
  obtain ⟨c1, hc1⟩ : ∃ b, b = decide ((y.runs.length : Int) ≤ 1000) := ⟨_, rfl⟩
  obtain ⟨c2, hc2⟩ : ∃ b, b = ((y.runs.map D.ru).all okR && decide (y.runs.map (·.file)).Nodup) := ⟨_, rfl⟩
  obtain ⟨c3, hc3⟩ : ∃ b, b = (y.runs.all fun d => decide (d.file < y.next)) := ⟨_, rfl⟩
  obtain ⟨c4, hc4⟩ : ∃ b, b = falls (y.seq + 1) (y.runs.map D.ru) := ⟨_, rfl⟩
  have HY : Hid (rightV y.t = (c0 && (c1 && (c2 && (c3 && c4))))) := Lib.hid (by rw [right_parts, ← hc0, ← hc1, ← hc2, ← hc3, ← hc4])
  have HC0 := Lib.hid hc0
  have HC1 := Lib.hid hc1
  have HC2 := Lib.hid hc2
  have HC3 := Lib.hid hc3
  have HC4 := Lib.hid hc4
  have HW := Lib.hid (show (Lit.int .i64 y.next).wf = true ∧ (Lit.int .i64 y.log).wf = true ∧ y.seq < 18446744073709551616 from ⟨hy.wn, hy.wl, hy.sq⟩)
  have t1 := hc1.symm
  have t1' : decide (y.runs.length ≤ 1000) = c1 := by rw [hc1, decide_eq_decide]; omega
  clear hc0 hc1 hc2 hc3 hc4 hy hb0 hB
  go_enter Try.func28, Try.ntmps28
  go_upto_region 1 with fail
  have HGL : Hid (w.heap.size < (w.alloc y.box).heap.size) := Lib.hid HX0.out.lt
  generalize w.alloc (.cells #[.slice y.a y.runs.length y.c, .int .i64 y.next, .int .i64 y.log, .int .u64 (y.seq : Int)] 44) = w0 at *
  obtain ⟨g, hg⟩ : ∃ g, g = w.heap.size := ⟨_, rfl⟩
  have HGG := Lib.hid hg
  rw [← hg] at HX0 HGL ⊢
  clear hg
  have ql := load_box HX0.out
  obtain ⟨q0, q1, q2, q3⟩ := Ve.look HX0.out
  go_wp2_with fail
  refine (vnums_any y w0 HW.out.1 HW.out.2.1 HW.out.2.2).mono ?_
  rintro e w1 ⟨rfl, hb1⟩
  have HX1 := Lib.hid (HX0.out.below hb1 HGL.out)
  have HB1 := Lib.hid (HB0.out.trans (hb1.mono HB0.out.size))
  have HY1 := Lib.hid (HY0.out.below (hb1.mono (Nat.le_trans HG.out HB0.out.size)))
  clear ql q0 q1 q2 q3 hb1
  rw [← HC0.out]
  obtain ⟨q0, q1, q2, q3⟩ := Ve.look HX1.out
  rcases c0
  · go_wp2_with fail
    go_ret
    exact ⟨by rw [HY.out]; rfl, HB1.out⟩
  rcases c1
  · go_wp2_with fail
    go_ret
    exact ⟨by rw [HY.out]; rfl, HB1.out⟩
  have HN : Hid (y.runs.length ≤ 1000) := Lib.hid (by have := of_decide_eq_true HC1.out.symm; omega)
  go_wp2_with fail
  refine (oruns_any y.a y.c B y.runs w1 HY1.out.runs HN.out (Nat.le_trans HG.out HB1.out.size)).mono ?_
  rintro e w2 ⟨rfl, hb2⟩
  have HX2 := Lib.hid (HX1.out.below hb2 HX1.out.lt)
  have HB2 := Lib.hid (HB1.out.trans (hb2.mono HB1.out.size))
  have HY2 := Lib.hid (HY1.out.below (hb2.mono (Nat.le_trans HG.out HB1.out.size)))
  clear q0 q1 q2 q3 hb2
  rw [← HC2.out]
  obtain ⟨q0, q1, q2, q3⟩ := Ve.look HX2.out
  rcases c2
  · go_wp2_with fail
    go_ret
    exact ⟨by rw [HY.out]; rfl, HB2.out⟩
  go_wp2_with fail
  refine (vfiles_any y.a y.c B y.runs y.next w2 HY2.out.runs (Nat.le_trans HG.out HB2.out.size)).mono ?_
  rintro e w3 ⟨rfl, hb3⟩
  have HX3 := Lib.hid (HX2.out.below hb3 HX2.out.lt)
  have HB3 := Lib.hid (HB2.out.trans (hb3.mono HB2.out.size))
  have HY3 := Lib.hid (HY2.out.below (hb3.mono (Nat.le_trans HG.out HB2.out.size)))
  clear q0 q1 q2 q3 hb3
  rw [← HC3.out]
  obtain ⟨q0, q1, q2, q3⟩ := Ve.look HX3.out
  rcases c3
  · go_wp2_with fail
    go_ret
    exact ⟨by rw [HY.out]; rfl, HB3.out⟩
  have HSQ : Hid (y.seq ≤ 72057594037927935) := Lib.hid (by
    have h := HC0.out.symm
    unfold okNum at h
    simp only [Bool.and_eq_true, decide_eq_true_eq] at h
    exact h.2.2.2.2)
  go_wp2_with fail
  refine (vfalls_any y.a y.c B y.runs y.seq w3 HY3.out.runs (Nat.le_trans HG.out HB3.out.size) HSQ.out).mono ?_
  rintro e w4 ⟨rfl, hb4⟩
  have HB4 := Lib.hid (HB3.out.trans (hb4.mono HB3.out.size))
  clear q0 q1 q2 q3 hb4
  rw [← HC4.out]
  go_wp2_with fail
  go_ret
  exact ⟨by rw [HY.out]; rfl, HB4.out⟩
end Go.Proofs.Ythhmjjmjicmhdaa.Ve

/- Package version: files, oneOf; slices.Contains of ints; slices.IndexFunc and slices.ContainsFunc of runs. -/
namespace Go.Proofs.Ythhmjjmjicmhdaa.Ve
set_option linter.unusedVariables false
set_option linter.unusedSimpArgs false
open Go.RowKit Lift Ik Ed
set_option maxRecDepth 100000 in
set_option maxHeartbeats 3200000 in
theorem vlist_any (A : Option Addr) (c B : Nat) (L : List D) (w : World) (hL : Runs w B A c L) (hn : L.length ≤ 1000) (hB : B ≤ w.heap.size) :
    Calls Try.prog 54 #[.slice A L.length c] w fun e w' => ∃ v, e = .returned v ∧ w'.ownsRow w.heap.size 3 1 v (L.map (·.file)).length ((L.map (·.file)).map zi) ∧ Below w.heap.size w w' := by
  have HL := Lib.hid hL
  have HM := Lib.hid (omake_ints L.length hn w)
  have hcl := Nat.le_trans hL.len hL.cap
  clear hL
  unfold maxLen at hcl
  go_enter Try.func54, Try.ntmps54
  have hm := HM.out
  go_wp2_with fail
  clear hm
  have HF0 : Hid (Filled (w.alloc (.cells (madeCells #[.int .i64 0] L.length) 3)) w.heap.size L.length 0 3 ((L.map (·.file)).map zi)) := Lib.hid (Filled.start w (.int .i64 0) L.length 3 _)
  have HB0 := Lib.hid (Joins.below_alloc1 w (.cells (madeCells #[.int .i64 0] L.length) 3))
  obtain ⟨g, hg⟩ : ∃ g, g = w.heap.size := ⟨_, rfl⟩
  have HG := Lib.hid hg
  rw [← hg] at HF0 ⊢
  clear hg HM
  generalize w.alloc (.cells (madeCells #[.int .i64 0] L.length) 3) = w0 at *
  go_loopw [11] (fun i wr => ∃ k : Nat, k ≤ L.length ∧ i = .int .i64 (k : Int) ∧ Hid (Filled wr g L.length k 3 ((L.map (·.file)).map zi)) ∧ Hid (Below w.heap.size w wr)) (fun i _ => L.length + 1 - (intOf i).toNat)
  case atStart => exact ⟨0, Nat.zero_le _, rfl, HF0, HB0⟩
  case round =>
    obtain ⟨k, hk, rfl, hf, hb⟩ := hrel
    by_cases hlt : k < L.length
    · obtain ⟨d, hd⟩ : ∃ d, L[k]? = some d := ⟨_, List.getElem?_eq_getElem hlt⟩
      have hR := HL.out.below (hb.out.mono hB)
      obtain ⟨ad, p, rfl, hpb, hpp, q0, q1, q2, q3, q4, q5⟩ := hR.place hd
      have ql := load_run q0 q1 q2 q3 q4 q5
      have HD := Lib.hid hd
      clear hd hR hpb
      go_upto_region 5 with fail
      have HBX : Hid (Box (wr.alloc (.cells #[.int .i64 d.file, .int .i64 d.bytes, .int .i64 d.count, .slice d.firstA d.first.length d.firstC, .slice d.lastA d.last.length d.lastC, .int .u64 (d.seq : Int)] 41)) wr.heap.size 41 d.cells) := Lib.hid (Box.new wr 41 d.cells)
      have hba := Joins.below_alloc1 wr (.cells #[.int .i64 d.file, .int .i64 d.bytes, .int .i64 d.count, .slice d.firstA d.first.length d.firstC, .slice d.lastA d.last.length d.lastC, .int .u64 (d.seq : Int)] 41)
      have hgs : g < wr.heap.size := by
        obtain ⟨cur, h1, _⟩ := hf.out
        exact (Array.getElem?_eq_some_iff.1 h1).1
      have HF1 : Hid (Filled (wr.alloc (.cells #[.int .i64 d.file, .int .i64 d.bytes, .int .i64 d.count, .slice d.firstA d.first.length d.firstC, .slice d.lastA d.last.length d.lastC, .int .u64 (d.seq : Int)] 41)) g L.length k 3 ((L.map (·.file)).map zi)) := Lib.hid (filled_kept hf.out (hba.block g hgs))
      have HB1 := Lib.hid (hb.out.trans (hba.mono hb.out.size))
      obtain ⟨X, hX⟩ : ∃ X, X = wr.heap.size := ⟨_, rfl⟩
      rw [← hX] at HBX ⊢
      clear hba hgs hX ql q0 q1 q2 q3 q4 q5
      generalize wr.alloc (.cells #[.int .i64 d.file, .int .i64 d.bytes, .int .i64 d.count, .slice d.firstA d.first.length d.firstC, .slice d.lastA d.last.length d.lastC, .int .u64 (d.seq : Int)] 41) = w1 at *
      have q0 := HBX.out.cell 0
      simp only [D.cells, List.getElem?_cons_zero] at q0
      obtain ⟨u, hcell⟩ := HF1.out.cell hlt
      have hfree := HF1.out.free k
      have HF3 := Lib.hid (HF1.out.next hlt (v := zi d.file) (by rw [List.getElem?_map, List.getElem?_map, HD.out]; rfl))
      have HB3 : Hid (Below w.heap.size w (w1.setCell ⟨g, k, none⟩ (zi d.file))) := Lib.hid (HB1.out.setCell (by show w.heap.size ≤ g; rw [HG.out]; exact Nat.le_refl _) _)
      clear HBX HF1 HB1
      go_wp2_with fail
      go_roundw
      case rel => exact ⟨k + 1, by omega, by go_num, HF3, HB3⟩
      case measure => simp [intOf]; omega
    · obtain rfl : k = L.length := by omega
      have HO := Lib.hid (hf.out.own (B := g) (Nat.le_refl _) (by simp) (by unfold maxLen; omega))
      go_wp2_with fail
      go_ret
      exact ⟨_, rfl, by rw [← HG.out, List.length_map]; exact HO.out, hb.out⟩
theorem lies_int {w : World} {B : Nat} {A : Option Addr} {zs : List Int} (h : Lies w B A (zs.map zi)) {k : Nat} {z : Int} (hz : zs[k]? = some z) : ∃ ad p : Addr, A = some ad ∧ ad.add k = p ∧ w.cell? p = some (.int .i64 z) := by
  obtain ⟨ad, ha, _, hc⟩ := h.place (by rw [List.length_map]; have := (List.getElem?_eq_some_iff.1 hz).1; omega)
  exact ⟨ad, _, ha, rfl, hc k _ (by rw [List.getElem?_map, hz]; rfl)⟩
set_option maxRecDepth 100000 in
set_option maxHeartbeats 1600000 in
theorem vindex_any (A : Option Addr) (c B : Nat) (zs : List Int) (x : Int) (w : World) (hl : Lies w B A (zs.map zi)) (hn : zs.length ≤ 1000000) :
    Calls Try.prog 94 #[.slice A zs.length c, .int .i64 x] w fun e w' => (∃ z : Int, e = .returned (.int .i64 z) ∧ Hid (decide (0 ≤ z) = decide (x ∈ zs))) ∧ w = w' := by
  have HL := Lib.hid hl
  clear hl
  go_enter Try.func94, Try.ntmps94
  go_wp2_with fail
  go_loopw [8] (fun i wr => ∃ k : Nat, k ≤ zs.length ∧ i = .int .i64 (k : Int) ∧ wr = w ∧ Hid (∀ z, z ∈ zs.take k → x ≠ z)) (fun i _ => zs.length + 1 - (intOf i).toNat)
  case atStart => exact ⟨0, Nat.zero_le _, rfl, rfl, Lib.hid fun z hz => by simp at hz⟩
  case round =>
    obtain ⟨k, hk, rfl, rfl, hall⟩ := hrel
    by_cases hlt : k < zs.length
    · obtain ⟨z, hz⟩ : ∃ z, zs[k]? = some z := ⟨_, List.getElem?_eq_getElem hlt⟩
      obtain ⟨ad, p, rfl, hpp, hc⟩ := lies_int HL.out hz
      have HZ := Lib.hid hz
      clear hz
      by_cases he : x = z
      · have t1 : (x == z) = true := by rw [beq_iff_eq]; exact he
        have HS : Hid (decide (0 ≤ (k : Int)) = decide (x ∈ zs)) := Lib.hid (by
          rw [decide_eq_decide]
          exact ⟨fun _ => by rw [he]; exact List.mem_of_getElem? HZ.out, fun _ => by omega⟩)
        clear he
        go_wp2_with fail
        go_ret
        exact ⟨⟨_, rfl, HS⟩, rfl⟩
      · have t1 : (x == z) = false := by rw [beq_eq_false_iff_ne]; exact he
        have HE := Lib.hid he
        clear he
        go_wp2_with fail
        go_roundw
        case rel => exact ⟨k + 1, by omega, by go_num, trivial, Lib.hid fun r hr => by
          rw [List.take_add_one, HZ.out] at hr
          rcases List.mem_append.1 hr with hr | hr
          · exact hall.out r hr
          · have e : r = z := by simpa using hr
            rw [e]; exact HE.out⟩
        case measure => simp [intOf]; omega
    · obtain rfl : k = zs.length := by omega
      have HS : Hid (decide (0 ≤ (-1 : Int)) = decide (x ∈ zs)) := Lib.hid (by
        rw [decide_eq_decide]
        refine ⟨fun h => by omega, fun h => ?_⟩
        have := hall.out x (by rw [List.take_length]; exact h)
        exact absurd rfl this)
      go_wp2_with fail
      go_ret
      exact ⟨⟨_, rfl, HS⟩, rfl⟩
set_option maxHeartbeats 800000 in
theorem vhas_any (A : Option Addr) (c B : Nat) (zs : List Int) (x : Int) (w : World) (hl : Lies w B A (zs.map zi)) (hn : zs.length ≤ 1000000) :
    Calls Try.prog 80 #[.slice A zs.length c, .int .i64 x] w fun e w' => e = .returned (.bool (decide (x ∈ zs))) ∧ w = w' := by
  have HC := Lib.hid (vindex_any A c B zs x w hl hn)
  obtain ⟨b, hb⟩ : ∃ b, b = decide (x ∈ zs) := ⟨_, rfl⟩
  rw [← hb] at HC ⊢
  clear hl hb
  go_enter Try.func80, Try.ntmps80
  go_wp2_with fail
  refine HC.out.mono ?_
  rintro e w' ⟨⟨z, rfl, hz⟩, rfl⟩
  have t1 := hz.out
  clear HC
  go_wp2_with fail
  go_ret
  exact ⟨rfl, rfl⟩
/-- A function that reports whether a run is in one of the files zs: its captured variable's box b, the files, all in blocks of the kind R. -/
def Of (w : World) (R : Nat → Prop) (b : Nat) (zs : List Int) : Prop := R b ∧ ∃ A c, Box w b 23 [.slice A zs.length c] ∧ LiesP w R A (zs.map zi)
abbrev ofV (b : Nat) : Value := .func (.func 79) #[] #[.pointer (some ⟨b, 0, none⟩)]
theorem Of.later {w w' : World} {R R' : Nat → Prop} {b : Nat} {zs : List Int} (h : Of w R b zs) (hk : ∀ k, R k → w'.heap[k]? = w.heap[k]?) (hR : ∀ k, R k → R' k) : Of w' R' b zs := by
  obtain ⟨h1, A, c, h2, h3⟩ := h
  exact ⟨hR _ h1, A, c, h2.at_block (hk _ h1), h3.later hk hR⟩
theorem Of.below {w w' : World} {b : Nat} {zs : List Int} (h : Of w (· < w.heap.size) b zs) (hb : Below w.heap.size w w') : Of w' (· < w'.heap.size) b zs :=
  h.later hb.block fun k hk => Nat.lt_of_lt_of_le hk hb.size
set_option maxHeartbeats 800000 in
theorem vof_any (A : Option Addr) (n c : Nat) (w : World) :
    Calls Try.prog 50 #[.slice A n c] w fun e w' => e = .returned (ofV w.heap.size) ∧ w' = w.alloc (.cells #[.slice A n c] 23) := by
  go_enter Try.func50, Try.ntmps50
  go_wp2_with fail
  go_ret
  exact ⟨rfl, rfl⟩
/-- The function over the ints of a slice. -/
theorem of_new {w : World} {A : Option Addr} {c : Nat} {zs : List Int} (h : Lies w w.heap.size A (zs.map zi)) : Of (w.alloc (.cells #[.slice A zs.length c] 23)) (· < (w.alloc (.cells #[.slice A zs.length c] 23)).heap.size) w.heap.size zs := by
  have hb := Joins.below_alloc1 w (.cells #[.slice A zs.length c] 23)
  have h0 : Box (w.alloc (.cells #[.slice A zs.length c] 23)) w.heap.size 23 [.slice A zs.length c] := Box.new w 23 [.slice A zs.length c]
  exact ⟨h0.lt, A, c, h0, Lies.p (h.below hb) fun k hk => Nat.lt_of_lt_of_le hk hb.size⟩
set_option maxRecDepth 100000 in
set_option maxHeartbeats 1600000 in
theorem vone_any (d : D) (b : Nat) (zs : List Int) (w : World) (h : Of w (· < w.heap.size) b zs) (hn : zs.length ≤ 1000000) :
    Calls Try.prog 79 #[d.v, .pointer (some ⟨b, 0, none⟩)] w fun e w' => e = .returned (.bool (decide (d.file ∈ zs))) ∧ Below w.heap.size w w' := by
  have hb := Joins.below_alloc1 w (rbox d)
  have HB := Lib.hid hb
  obtain ⟨hlt, A, c, hx, hl⟩ := h.below hb
  have HX0 : Hid (Box (w.alloc (rbox d)) w.heap.size 41 d.cells) := Lib.hid (Box.new w 41 d.cells)
  have HC := Lib.hid (vhas_any A c _ zs d.file (w.alloc (rbox d)) (hl.lies fun k hk => hk) hn)
  have HX := Lib.hid hx
  clear hb hlt hx hl h
  obtain ⟨v, hv⟩ : ∃ v, v = decide (d.file ∈ zs) := ⟨_, rfl⟩
  rw [← hv] at HC ⊢
  clear hv
  go_enter Try.func79, Try.ntmps79
  go_upto_region 1 with fail
  generalize w.alloc (.cells #[.int .i64 d.file, .int .i64 d.bytes, .int .i64 d.count, .slice d.firstA d.first.length d.firstC, .slice d.lastA d.last.length d.lastC, .int .u64 (d.seq : Int)] 41) = w0 at *
  obtain ⟨g, hg⟩ : ∃ g, g = w.heap.size := ⟨_, rfl⟩
  rw [← hg] at HX0 ⊢
  clear hg
  have q0 := HX0.out.cell 0
  simp only [D.cells, List.getElem?_cons_zero] at q0
  have q1 := HX.out.cell 0
  simp only [List.getElem?_cons_zero] at q1
  go_wp2_with fail
  refine HC.out.mono ?_
  rintro e w' ⟨rfl, rfl⟩
  go_wp2_with fail
  go_ret
  exact ⟨rfl, HB.out⟩
/-- Where the first run of a kind stands, or -1. -/
def pI (p : D → Bool) (L : List D) : Int := match L.findIdx? p with
  | some i => (i : Int)
  | none => -1
theorem pI_none {p : D → Bool} {L : List D} (h : ∀ d, d ∈ L → p d = false) : pI p L = -1 := by
  unfold pI
  rw [List.findIdx?_eq_none_iff.2 h]
theorem pI_some {p : D → Bool} {L : List D} {k : Nat} {d : D} (h : L[k]? = some d) (hp : p d = true) (ha : ∀ x, x ∈ L.take k → p x = false) : pI p L = (k : Int) := by
  unfold pI
  have : L.findIdx? p = some k := by
    rw [List.findIdx?_eq_some_iff_getElem]
    obtain ⟨h1, h2⟩ := List.getElem?_eq_some_iff.1 h
    refine ⟨h1, by rw [h2]; exact hp, fun j hj => ?_⟩
    rw [ha _ (List.mem_take_iff_getElem.2 ⟨j, by omega, rfl⟩)]
    simp
  rw [this]
theorem pI_any (p : D → Bool) (L : List D) : decide (0 ≤ pI p L) = L.any p := by
  unfold pI
  cases h : L.findIdx? p with
  | none =>
    have := List.findIdx?_eq_none_iff.1 h
    have h2 : L.any p = false := by rw [List.any_eq_false]; intro x hx; rw [this x hx]; simp
    rw [h2]; rfl
  | some k =>
    obtain ⟨h1, h2, _⟩ := List.findIdx?_eq_some_iff_getElem.1 h
    have h3 : L.any p = true := List.any_eq_true.2 ⟨_, List.getElem_mem h1, h2⟩
    rw [h3]; simp
set_option maxRecDepth 100000 in
set_option maxHeartbeats 1600000 in
theorem vfind_any (A : Option Addr) (c B : Nat) (L : List D) (b : Nat) (zs : List Int) (w : World) (hL : Runs w B A c L) (hB : B ≤ w.heap.size) (h : Of w (· < w.heap.size) b zs) (hn : zs.length ≤ 1000000) :
    Calls Try.prog 55 #[.slice A L.length c, ofV b] w fun e w' => e = .returned (.int .i64 (pI (fun d => decide (d.file ∈ zs)) L)) ∧ Below w.heap.size w w' := by
  have HL := Lib.hid hL
  have hcl := Nat.le_trans hL.len hL.cap
  unfold maxLen at hcl
  have HO := Lib.hid h
  obtain ⟨z, hz⟩ : ∃ z, z = pI (fun d => decide (d.file ∈ zs)) L := ⟨_, rfl⟩
  rw [← hz]
  have HZ := Lib.hid hz
  clear hL hz h
  go_enter Try.func55, Try.ntmps55
  go_wp2_with fail
  go_loopw [8] (fun i wr => ∃ k : Nat, k ≤ L.length ∧ i = .int .i64 (k : Int) ∧ Hid (Below w.heap.size w wr) ∧ Hid (∀ d, d ∈ L.take k → decide (d.file ∈ zs) = false)) (fun i _ => L.length + 1 - (intOf i).toNat)
  case atStart => exact ⟨0, Nat.zero_le _, rfl, Lib.hid (Below.refl _ _), Lib.hid fun d hd => by simp at hd⟩
  case round =>
    obtain ⟨k, hk, rfl, hb, hall⟩ := hrel
    by_cases hlt : k < L.length
    · obtain ⟨d, hd⟩ : ∃ d, L[k]? = some d := ⟨_, List.getElem?_eq_getElem hlt⟩
      have hR := HL.out.below (hb.out.mono hB)
      obtain ⟨ad, p, rfl, hpb, hpp, q0, q1, q2, q3, q4, q5⟩ := hR.place hd
      have ql := load_run q0 q1 q2 q3 q4 q5
      have HD := Lib.hid hd
      have HC := Lib.hid (vone_any d b zs wr (HO.out.below hb.out) hn)
      obtain ⟨v, hv⟩ : ∃ v, v = decide (d.file ∈ zs) := ⟨_, rfl⟩
      rw [← hv] at HC
      have HV := Lib.hid hv
      clear hd hR hpb hv
      go_wp2_with fail
      refine HC.out.mono ?_
      rintro e w1 ⟨rfl, hb1⟩
      have HB1 := Lib.hid (hb.out.trans (hb1.mono hb.out.size))
      clear hb1 q0 q1 q2 q3 q4 q5 ql HC
      rcases v
      · go_wp2_with fail
        go_roundw
        case rel => exact ⟨k + 1, by omega, by go_num, HB1, Lib.hid fun d' hd' => by
          rw [List.take_add_one, HD.out] at hd'
          rcases List.mem_append.1 hd' with h | h
          · exact hall.out d' h
          · have : d' = d := by simpa using h
            rw [this]; exact HV.out.symm⟩
        case measure => simp [intOf]; omega
      · have HS : Hid (z = (k : Int)) := Lib.hid (by rw [HZ.out, pI_some HD.out HV.out.symm hall.out])
        go_wp2_with fail
        go_ret
        exact ⟨by rw [HS.out]; rfl, HB1.out⟩
    · obtain rfl : k = L.length := by omega
      have HS : Hid (z = -1) := Lib.hid (by rw [HZ.out, pI_none fun d hd => hall.out d (by rw [List.take_length]; exact hd)])
      go_wp2_with fail
      go_ret
      exact ⟨by rw [HS.out]; rfl, hb.out⟩
set_option maxRecDepth 100000 in
set_option maxHeartbeats 800000 in
theorem vany_any (A : Option Addr) (c B : Nat) (L : List D) (b : Nat) (zs : List Int) (w : World) (hL : Runs w B A c L) (hB : B ≤ w.heap.size) (h : Of w (· < w.heap.size) b zs) (hn : zs.length ≤ 1000000) :
    Calls Try.prog 53 #[.slice A L.length c, ofV b] w fun e w' => e = .returned (.bool (L.any fun d => decide (d.file ∈ zs))) ∧ Below w.heap.size w w' := by
  have HC := Lib.hid (vfind_any A c B L b zs w hL hB h hn)
  have t1 := pI_any (fun d => decide (d.file ∈ zs)) L
  obtain ⟨v, hv⟩ : ∃ v, v = L.any fun d => decide (d.file ∈ zs) := ⟨_, rfl⟩
  obtain ⟨z, hz⟩ : ∃ z, z = pI (fun d => decide (d.file ∈ zs)) L := ⟨_, rfl⟩
  rw [← hv, ← hz] at t1
  rw [← hv]
  rw [← hz] at HC
  clear hv hz hL h
  go_enter Try.func53, Try.ntmps53
  go_wp2_with fail
  refine HC.out.mono ?_
  rintro e w1 ⟨rfl, hb1⟩
  have HB1 := Lib.hid hb1
  clear hb1 HC
  go_wp2_with fail
  go_ret
  exact ⟨rfl, HB1.out⟩
end Go.Proofs.Ythhmjjmjicmhdaa.Ve

/- slices.Clone and slices.DeleteFunc of runs, at a slice of the call's own. -/
namespace Go.Proofs.Ythhmjjmjicmhdaa.Ve
set_option linter.unusedVariables false
set_option linter.unusedSimpArgs false
open Go.RowKit Lift Ik Ed
set_option maxRecDepth 100000 in
set_option maxHeartbeats 800000 in
theorem vclone_any (A : Option Addr) (c : Nat) (L : List D) (w : World) (hl : Lies w w.heap.size A (cellsL L)) (hm : L.length ≤ 1000) :
    Calls Try.prog 52 #[.slice A L.length c] w fun e w' => ∃ v, e = .returned v ∧ w'.ownsRow w.heap.size 41 6 v L.length (cellsL L) ∧ Below w.heap.size w w' := by
  rcases A with _ | ad
  · have h0 : L = [] := by
      rcases hl with h | ⟨_, h, _⟩
      · have := congrArg List.length h
        rw [cellsL_length] at this
        exact List.eq_nil_of_length_eq_zero (by simp at this; omega)
      · cases h
    subst h0
    clear hl hm
    have q22 : ∀ W : World, Sem.run Try.prog (binOp .eql 22 (.slice none 0 c) (.slice none 0 0)) W = .ok (.bool true) W := fun W => Lib.run_eql_slice_nil W _ _ none 0 c 0 0 Try.underlying22
    show Calls Try.prog 52 #[.slice none 0 c] w _
    go_enter Try.func52, Try.ntmps52
    go_wp2_with fail
    go_ret
    exact ⟨_, rfl, World.ownsRow_nil _ _ _ _, Below.refl _ _⟩
  · have HL := Lib.hid hl
    have q22 : ∀ W : World, Sem.run Try.prog (binOp .eql 22 (.slice (some ad) L.length c) (.slice none 0 0)) W = .ok (.bool false) W := fun W => Lib.run_eql_slice_nil W _ _ (some ad) L.length c 0 0 Try.underlying22
    clear hl
    have hb0 := Joins.below_alloc1 w (.cells #[] 41)
    have hown : (w.alloc (.cells #[] 41)).ownsRow w.heap.size 41 6 (.slice (some ⟨w.heap.size, 0, none⟩) 0 0) ([] : List D).length (cellsL []) :=
      ⟨rfl, .inr ⟨w.heap.size, 0, #[], rfl, Nat.le_refl _, heap_alloc_new w _, Nat.le_refl _, by decide, rfl, rfl⟩⟩
    obtain ⟨v2, W2, hr2, hown2, hb2, hs2⟩ := append_runs (c := c) hown (HL.out.below hb0) (by simp; omega) hb0.size
    rw [List.nil_append] at hown2
    have HO := Lib.hid hown2
    have HB := Lib.hid (hb0.trans hb2)
    have HR := Lib.hid hr2
    clear hown hown2 hb0 hb2 hr2
    go_enter Try.func52, Try.ntmps52
    go_wp2_with (at_builtin; refine wpList_append_run rfl _ _ 22 rfl rfl rfl HR.out ?_)
    go_ret
    exact ⟨_, rfl, HO.out, HB.out⟩
/-! Runs in a block, and what lies behind them. -/
section
variable {W w w' : World} {g k : Nat} {R : List D} {t : List Value} {d e : D}
theorem row_cell (h : Box W g 41 (cellsL R ++ t)) (hk : R[k]? = some e) (j : Nat) (hj : j < 6) : W.cell? ⟨g, k * 6 + j, none⟩ = e.cells[j]? := by
  have hl := (List.getElem?_eq_some_iff.1 hk).1
  rw [h.cell, List.getElem?_append_left (by rw [cellsL_length]; omega), cellsL_at hk j hj]
/-- The cells of the k-th run, as a walk spells them; the run, loaded whole. -/
theorem row_load (h : Box W g 41 (cellsL R ++ t)) (hk : R[k]? = some e) : W.cell? ⟨g, k * 6, none⟩ = some (.int .i64 e.file) ∧ W.cell? ⟨g, k * 6 + 1, none⟩ = some (.int .i64 e.bytes) ∧ W.cell? ⟨g, k * 6 + 2, none⟩ = some (.int .i64 e.count) ∧
    W.cell? ⟨g, k * 6 + 3, none⟩ = some (.slice e.firstA e.first.length e.firstC) ∧ W.cell? ⟨g, k * 6 + 4, none⟩ = some (.slice e.lastA e.last.length e.lastC) ∧ W.cell? ⟨g, k * 6 + 5, none⟩ = some (.int .u64 (e.seq : Int)) ∧
    Sem.run Try.prog (loadVar 41 ⟨g, k * 6, none⟩) W = .ok e.v W := by
  have c0 := row_cell h hk 0 (by decide)
  have c1 := row_cell h hk 1 (by decide)
  have c2 := row_cell h hk 2 (by decide)
  have c3 := row_cell h hk 3 (by decide)
  have c4 := row_cell h hk 4 (by decide)
  have c5 := row_cell h hk 5 (by decide)
  exact ⟨c0, c1, c2, c3, c4, c5, load_run (p := ⟨g, k * 6, none⟩) c0 c1 c2 c3 c4 c5⟩
/-- What a store of a run rests on, cell by cell. -/
theorem row_store (d : D) (h : Box W g 41 (cellsL R ++ t)) (hk : R[k]? = some e) :
    (W.cell? ⟨g, k * 6, none⟩ = some (.int .i64 e.file) ∧ W.frozen? ⟨g, k * 6, none⟩ = false) ∧
    ((W.setCell ⟨g, k * 6, none⟩ (.int .i64 d.file)).cell? ⟨g, k * 6 + 1, none⟩ = some (.int .i64 e.bytes) ∧ (W.setCell ⟨g, k * 6, none⟩ (.int .i64 d.file)).frozen? ⟨g, k * 6 + 1, none⟩ = false) ∧
    (((W.setCell ⟨g, k * 6, none⟩ (.int .i64 d.file)).setCell ⟨g, k * 6 + 1, none⟩ (.int .i64 d.bytes)).cell? ⟨g, k * 6 + 2, none⟩ = some (.int .i64 e.count) ∧ ((W.setCell ⟨g, k * 6, none⟩ (.int .i64 d.file)).setCell ⟨g, k * 6 + 1, none⟩ (.int .i64 d.bytes)).frozen? ⟨g, k * 6 + 2, none⟩ = false) ∧
    ((((W.setCell ⟨g, k * 6, none⟩ (.int .i64 d.file)).setCell ⟨g, k * 6 + 1, none⟩ (.int .i64 d.bytes)).setCell ⟨g, k * 6 + 2, none⟩ (.int .i64 d.count)).cell? ⟨g, k * 6 + 3, none⟩ = some (.slice e.firstA e.first.length e.firstC) ∧
      (((W.setCell ⟨g, k * 6, none⟩ (.int .i64 d.file)).setCell ⟨g, k * 6 + 1, none⟩ (.int .i64 d.bytes)).setCell ⟨g, k * 6 + 2, none⟩ (.int .i64 d.count)).frozen? ⟨g, k * 6 + 3, none⟩ = false) ∧
    (((((W.setCell ⟨g, k * 6, none⟩ (.int .i64 d.file)).setCell ⟨g, k * 6 + 1, none⟩ (.int .i64 d.bytes)).setCell ⟨g, k * 6 + 2, none⟩ (.int .i64 d.count)).setCell ⟨g, k * 6 + 3, none⟩ (.slice d.firstA d.first.length d.firstC)).cell? ⟨g, k * 6 + 4, none⟩ = some (.slice e.lastA e.last.length e.lastC) ∧
      ((((W.setCell ⟨g, k * 6, none⟩ (.int .i64 d.file)).setCell ⟨g, k * 6 + 1, none⟩ (.int .i64 d.bytes)).setCell ⟨g, k * 6 + 2, none⟩ (.int .i64 d.count)).setCell ⟨g, k * 6 + 3, none⟩ (.slice d.firstA d.first.length d.firstC)).frozen? ⟨g, k * 6 + 4, none⟩ = false) ∧
    ((((((W.setCell ⟨g, k * 6, none⟩ (.int .i64 d.file)).setCell ⟨g, k * 6 + 1, none⟩ (.int .i64 d.bytes)).setCell ⟨g, k * 6 + 2, none⟩ (.int .i64 d.count)).setCell ⟨g, k * 6 + 3, none⟩ (.slice d.firstA d.first.length d.firstC)).setCell ⟨g, k * 6 + 4, none⟩ (.slice d.lastA d.last.length d.lastC)).cell? ⟨g, k * 6 + 5, none⟩ = some (.int .u64 (e.seq : Int)) ∧
      (((((W.setCell ⟨g, k * 6, none⟩ (.int .i64 d.file)).setCell ⟨g, k * 6 + 1, none⟩ (.int .i64 d.bytes)).setCell ⟨g, k * 6 + 2, none⟩ (.int .i64 d.count)).setCell ⟨g, k * 6 + 3, none⟩ (.slice d.firstA d.first.length d.firstC)).setCell ⟨g, k * 6 + 4, none⟩ (.slice d.lastA d.last.length d.lastC)).frozen? ⟨g, k * 6 + 5, none⟩ = false) ∧
    Box (W.setCells g (k * 6) d.cells) g 41 (cellsL (R.set k d) ++ t) := by
  have hl := (List.getElem?_eq_some_iff.1 hk).1
  have zc : ∀ j, j < 6 → (cellsL R ++ t)[k * 6 + j]? = e.cells[j]? := fun j hj => by
    rw [List.getElem?_append_left (by rw [cellsL_length]; omega), cellsL_at hk j hj]
  have c0 := h.cell (k * 6)
  have f0 := h.free (k * 6)
  rw [show k * 6 = k * 6 + 0 from rfl, zc 0 (by decide)] at c0
  have hb0 := h.set (k * 6) (.int .i64 d.file)
  have c1 := hb0.cell (k * 6 + 1)
  have f1 := hb0.free (k * 6 + 1)
  rw [List.getElem?_set_ne (by omega), zc 1 (by decide)] at c1
  have hb1 := hb0.set (k * 6 + 1) (.int .i64 d.bytes)
  have c2 := hb1.cell (k * 6 + 2)
  have f2 := hb1.free (k * 6 + 2)
  rw [List.getElem?_set_ne (by omega), List.getElem?_set_ne (by omega), zc 2 (by decide)] at c2
  have hb2 := hb1.set (k * 6 + 2) (.int .i64 d.count)
  have c3 := hb2.cell (k * 6 + 3)
  have f3 := hb2.free (k * 6 + 3)
  rw [List.getElem?_set_ne (by omega), List.getElem?_set_ne (by omega), List.getElem?_set_ne (by omega), zc 3 (by decide)] at c3
  have hb3 := hb2.set (k * 6 + 3) (.slice d.firstA d.first.length d.firstC)
  have c4 := hb3.cell (k * 6 + 4)
  have f4 := hb3.free (k * 6 + 4)
  rw [List.getElem?_set_ne (by omega), List.getElem?_set_ne (by omega), List.getElem?_set_ne (by omega), List.getElem?_set_ne (by omega), zc 4 (by decide)] at c4
  have hb4 := hb3.set (k * 6 + 4) (.slice d.lastA d.last.length d.lastC)
  have c5 := hb4.cell (k * 6 + 5)
  have f5 := hb4.free (k * 6 + 5)
  rw [List.getElem?_set_ne (by omega), List.getElem?_set_ne (by omega), List.getElem?_set_ne (by omega), List.getElem?_set_ne (by omega), List.getElem?_set_ne (by omega), zc 5 (by decide)] at c5
  have hb5 := hb4.set (k * 6 + 5) (.int .u64 (d.seq : Int))
  have he : ∀ (j : Nat) (l : List Value) (v : Value), l.length = R.length * 6 → j < 6 → (l ++ t).set (k * 6 + j) v = l.set (k * 6 + j) v ++ t := fun j l v hll hj => List.set_append_left _ _ (by omega)
  rw [show (cellsL R ++ t).set (k * 6) (.int .i64 d.file) = (cellsL R).set (k * 6) (.int .i64 d.file) ++ t from he 0 _ _ (cellsL_length R) (by decide),
    he 1 _ _ (by simp [cellsL_length]) (by decide), he 2 _ _ (by simp [cellsL_length]) (by decide), he 3 _ _ (by simp [cellsL_length]) (by decide), he 4 _ _ (by simp [cellsL_length]) (by decide), he 5 _ _ (by simp [cellsL_length]) (by decide), cellsL_set hk] at hb5
  exact ⟨⟨c0, f0⟩, ⟨c1, f1⟩, ⟨c2, f2⟩, ⟨c3, f3⟩, ⟨c4, f4⟩, ⟨c5, f5⟩, hb5⟩
/-- A slice of the call's own, with its block. -/
theorem own_row {base : Nat} {v : Value} {L : List D} (h : w.ownsRow base 41 6 v L.length (cellsL L)) (hn : 0 < L.length) : ∃ g c t, v = .slice (some ⟨g, 0, none⟩) L.length c ∧ base ≤ g ∧ Box w g 41 (cellsL L ++ t) ∧ (cellsL L ++ t).length = c * 6 ∧ L.length ≤ c ∧ c ≤ maxLen := by
  rcases h.2 with ⟨_, h0⟩ | ⟨g, cap, cur, rfl, hg, hh, hnc, hcm, hs, ht⟩
  · omega
  · have e : cur.toList = cellsL L ++ cur.toList.drop (L.length * 6) := by rw [← ht, List.take_append_drop]
    refine ⟨g, cap, cur.toList.drop (L.length * 6), rfl, hg, ?_, ?_, hnc, hcm⟩
    · unfold Box
      rw [← e]
      simpa using hh
    · rw [← e]
      simpa using hs
theorem row_own {base c : Nat} {L : List D} (h : Box w g 41 (cellsL L ++ t)) (hg : base ≤ g) (hl : (cellsL L ++ t).length = c * 6) (hn : L.length ≤ c) (hm : c ≤ maxLen) : w.ownsRow base 41 6 (.slice (some ⟨g, 0, none⟩) L.length c) L.length (cellsL L) :=
  ⟨cellsL_length L, .inr ⟨g, c, (cellsL L ++ t).toArray, rfl, hg, h, hn, hm, by simpa using hl, by
    show (cellsL L ++ t).take (L.length * 6) = cellsL L
    rw [← cellsL_length L, List.take_left']
    rfl⟩⟩
theorem zero_runs (n : Nat) : (Builtin.zeroCells zD.v.cells n).toList = cellsL (List.replicate n zD) := by
  rw [← zeros_runs]
  rfl
/-- clear(s[k:]) -/
theorem row_clear {n c k : Nat} {R : List D} (h : Box w g 41 (cellsL R ++ t)) (hn : n = R.length) (hk : k < n) (T ty : TypeId) (hT : Try.prog.underlying T = some (.slice 41)) :
    Sem.run Try.prog (Builtin.clear_ #[T] ty #[.slice (some ⟨g, k * 6, none⟩) (n - k) c]) w = .ok (.tuple #[]) (w.setRow g (cellsL (R.take k ++ List.replicate (n - k) zD) ++ t).toArray) := by
  obtain ⟨i, hi, hz, hs, hb⟩ := info_parts (P := Try.prog) (e := 41) (z := zD.v) (size := 6) (bytes := 80) (by kernel_rfl)
  have hl : (cellsL (List.replicate (n - k) zD)).length = (n - k) * 6 := by rw [cellsL_length, List.length_replicate]
  have hst := run_storeCells_at Try.prog g (k * 6) 41 (cellsL (List.replicate (n - k) zD)) 0 (cellsL R ++ t).toArray w h (by rw [hl]; simp [cellsL_length]; omega) cellsL_one
  have e : (cellsL R ++ t).take (k * 6 + 0) ++ cellsL (List.replicate (n - k) zD) ++ (cellsL R ++ t).drop (k * 6 + 0 + (cellsL (List.replicate (n - k) zD)).length) = cellsL (R.take k ++ List.replicate (n - k) zD) ++ t := by
    have e1 : cellsL R = cellsL (R.take k) ++ cellsL (R.drop k) := by rw [← cellsL_append, List.take_append_drop]
    have l1 : (cellsL (R.take k)).length = k * 6 := by rw [cellsL_length, List.length_take]; omega
    have l2 : (cellsL R).length = n * 6 := by rw [cellsL_length, hn]
    have d1 : (cellsL R ++ t).drop (n * 6) = t := List.drop_left' l2
    have t1 : (cellsL R ++ t).take (k * 6) = cellsL (R.take k) := by
      rw [e1, List.append_assoc]
      exact List.take_left' l1
    rw [Nat.add_zero, hl, show k * 6 + (n - k) * 6 = n * 6 by omega, d1, t1, cellsL_append]
  rw [List.toList_toArray, e] at hst
  obtain ⟨m, hm⟩ : ∃ m, n - k = m + 1 := ⟨n - k - 1, by omega⟩
  have hzc := zero_runs (n - k)
  rw [← hzc] at hst
  rw [hm] at hst ⊢
  simp only [Builtin.clear_, zeroValue, typeInfo]
  simp [run_underlying hT, hi, hz, hst]
end
/-- What DeleteFunc has: k runs kept out of the first m. -/
structure Del (w wr : World) (g : Nat) (L : List D) (t : List Value) (q : D → Bool) (k m : Nat) (R : List D) : Prop where
  bx : Box wr g 41 (cellsL R ++ t)
  len : R.length = L.length
  head : R.take k = (L.take m).filter q
  rest : R.drop m = L.drop m
  kp : Keep (· = g) w wr
theorem Del.at_m {w wr : World} {g : Nat} {L R : List D} {t : List Value} {q : D → Bool} {k m : Nat} (h : Del w wr g L t q k m R) {d : D} (hd : L[m]? = some d) : R[m]? = some d := by
  have := congrArg (fun l => l[0]?) h.rest
  simpa [hd] using this
theorem Del.skip {w wr w' : World} {g : Nat} {L R : List D} {t : List Value} {q : D → Bool} {k m : Nat} (h : Del w wr g L t q k m R) {d : D} (hd : L[m]? = some d) (hq : q d = false) (hb : Below wr.heap.size wr w') : Del w w' g L t q k (m + 1) R :=
  ⟨h.bx.below hb h.bx.lt, h.len, by rw [List.take_add_one, hd, List.filter_append, h.head]; simp [hq], by rw [← List.drop_drop, h.rest, List.drop_drop], h.kp.trans (T := fun _ => False) (below_keep hb) fun _ _ hf => hf.elim⟩
theorem Del.take {w wr : World} {g : Nat} {L R : List D} {t : List Value} {q : D → Bool} {k m : Nat} (h : Del w wr g L t q k m R) {d e : D} (hd : L[m]? = some d) (hq : q d = true) (hkm : k < m) (he : R[k]? = some e) :
    Del w (wr.setCells g (k * 6) d.cells) g L t q (k + 1) (m + 1) (R.set k d) := by
  have hl := (List.getElem?_eq_some_iff.1 he).1
  refine ⟨(row_store d h.bx he).2.2.2.2.2.2, by rw [List.length_set, h.len], ?_, ?_, h.kp.trans (T := (· = g)) (keep_setCells _ _ _ _ _ (Keep.refl _ _)) fun _ _ => id⟩
  · rw [List.take_add_one, List.getElem?_set_self hl, List.take_set_of_le (Nat.le_refl k), h.head, List.take_add_one, hd, List.filter_append]
    simp [hq]
  · rw [List.drop_set_of_lt (by omega), ← List.drop_drop, h.rest, List.drop_drop]
set_option maxRecDepth 100000 in
set_option maxHeartbeats 3200000 in
theorem vdel_any (v : Value) (L : List D) (base b : Nat) (zs : List Int) (w : World) (hv : w.ownsRow base 41 6 v L.length (cellsL L)) (hk : ∀ d, d ∈ L → d.Ok w (· < base)) (hB : base ≤ w.heap.size) (h : Of w (· < base) b zs) (hn : zs.length ≤ 1000000) (hL : L.length ≤ 1000) :
    Calls Try.prog 51 #[v, ofV b] w fun e w' => ∃ v', e = .returned v' ∧ w'.ownsRow base 41 6 v' (L.filter fun d => !decide (d.file ∈ zs)).length (cellsL (L.filter fun d => !decide (d.file ∈ zs))) ∧ Below base w w' := by
  obtain ⟨A, c, rfl, hnc, hcm, hl⟩ := own_parts hv
  have hR : Runs w w.heap.size A c L := ⟨hl, hnc, hcm, fun d hd => (hk d hd).later (fun _ _ => rfl) fun k hk => Nat.lt_of_lt_of_le hk hB⟩
  have HF := Lib.hid (vfind_any A c w.heap.size L b zs w hR (Nat.le_refl _) (h.later (fun _ _ => rfl) fun k hk => Nat.lt_of_lt_of_le hk hB) hn)
  have HV := Lib.hid hv
  have HK := Lib.hid hk
  have HO := Lib.hid h
  have HBB := Lib.hid hB
  unfold maxLen at hcm
  obtain ⟨q, hq⟩ : ∃ q : D → Bool, q = fun d => !decide (d.file ∈ zs) := ⟨_, rfl⟩
  rw [← hq]
  have HQ := Lib.hid hq
  clear hv hl hR hk h hB hq
  cases hi : L.findIdx? (fun d => decide (d.file ∈ zs)) with
  | none =>
    have hp : pI (fun d => decide (d.file ∈ zs)) L = -1 := by unfold pI; rw [hi]
    have HM : Hid (L.filter q = L) := Lib.hid (List.filter_eq_self.2 fun x hx => by
      have := List.findIdx?_eq_none_iff.1 hi x hx
      rw [HQ.out]
      show (!decide (x.file ∈ zs)) = true
      rw [this]; rfl)
    rw [hp] at HF
    clear hp hi
    go_enter Try.func51, Try.ntmps51
    go_wp2_with fail
    refine HF.out.mono ?_
    rintro e w1 ⟨rfl, hb1⟩
    have HB1 := Lib.hid hb1
    clear hb1
    go_wp2_with fail
    go_ret
    exact ⟨_, rfl, by rw [HM.out]; exact own_later HV.out HB1.out, HB1.out.mono HBB.out⟩
  | some k0 =>
    have hp : pI (fun d => decide (d.file ∈ zs)) L = (k0 : Int) := by unfold pI; rw [hi]
    obtain ⟨hk0, hk1, hk2⟩ := List.findIdx?_eq_some_iff_getElem.1 hi
    obtain ⟨g, c2, t, hv, hg, hbx, hlen, hnc2, hcm2⟩ := own_row HV.out (by omega)
    injection hv with e1 e2 e3
    subst e1
    subst e3
    have HK0 : Hid (L.take k0 = (L.take (k0 + 1)).filter q) := Lib.hid (by
      rw [List.take_add_one, List.getElem?_eq_getElem hk0, List.filter_append, HQ.out]
      have e1 : (L.take k0).filter (fun d => !decide (d.file ∈ zs)) = L.take k0 := List.filter_eq_self.2 fun x hx => by
        obtain ⟨j, hj, hjs⟩ := List.mem_take_iff_getElem.1 hx
        have := hk2 j (by omega)
        rw [hjs] at this
        simpa using this
      rw [e1]
      simp only [Option.toList_some]
      rw [List.filter_cons_of_neg (by simpa using hk1), List.filter_nil, List.append_nil])
    have HBX := Lib.hid hbx
    have HLEN := Lib.hid hlen
    have HGB := Lib.hid hg
    rw [hp] at HF
    clear hp hi hk1 hk2 hbx hlen hg HV
    go_enter Try.func51, Try.ntmps51
    go_wp2_with fail
    refine HF.out.mono ?_
    rintro e w1 ⟨rfl, hb1⟩
    have HD0 : Hid (Del w w1 g L t q k0 (k0 + 1) L) := Lib.hid ⟨HBX.out.below hb1 HBX.out.lt, rfl, HK0.out, rfl, below_keep hb1⟩
    clear hb1 HF
    have tn : ((k0 : Int) == -1) = false := beq_eq_false_iff_ne.2 (by omega)
    go_wp2_with fail
    go_loopw [5, 6] (fun i j wr => ∃ (k m : Nat) (R : List D), k < m ∧ m ≤ L.length ∧ i = .int .i64 (k : Int) ∧ j = .int .i64 (m : Int) ∧ Hid (Del w wr g L t q k m R)) (fun _ j _ => L.length + 1 - (intOf j).toNat)
    case atStart => exact ⟨k0, k0 + 1, L, by omega, by omega, rfl, by go_num, HD0⟩
    case round =>
      obtain ⟨k, m, R, hkm, hm, rfl, rfl, hD⟩ := hrel
      by_cases hlt : m < L.length
      · obtain ⟨d, hd⟩ : ∃ d, L[m]? = some d := ⟨_, List.getElem?_eq_getElem hlt⟩
        have hRm := hD.out.at_m hd
        obtain ⟨q0, q1, q2, q3, q4, q5, ql⟩ := row_load hD.out.bx hRm
        have HD := Lib.hid hd
        clear hd hRm
        go_upto_region 8 with fail
        have hba := Joins.below_alloc1 wr (rbox d)
        have HBXv : Hid (Box (wr.alloc (rbox d)) wr.heap.size 41 d.cells) := Lib.hid (Box.new wr 41 d.cells)
        have HD1 : Hid (Box (wr.alloc (rbox d)) g 41 (cellsL R ++ t)) := Lib.hid (hD.out.bx.below hba hD.out.bx.lt)
        have HB1 := Lib.hid hba
        have HGX : Hid (g < wr.heap.size) := Lib.hid hD.out.bx.lt
        have HOF : Hid (Of (wr.alloc (rbox d)) (· < (wr.alloc (rbox d)).heap.size) b zs) := Lib.hid (HO.out.later (fun k hk => (hba.block k (Nat.lt_of_lt_of_le hk (Nat.le_trans HBB.out hD.out.kp.size))).trans (hD.out.kp.block k (Nat.lt_of_lt_of_le hk HBB.out) (by have := HGB.out; omega))) fun k hk => Nat.lt_of_lt_of_le hk (Nat.le_trans HBB.out (Nat.le_trans hD.out.kp.size hba.size)))
        obtain ⟨X, hX⟩ : ∃ X, X = wr.heap.size := ⟨_, rfl⟩
        rw [← hX] at HBXv HGX ⊢
        clear hba hX ql q0 q1 q2 q3 q4 q5
        generalize hw1 : wr.alloc (.cells #[.int .i64 d.file, .int .i64 d.bytes, .int .i64 d.count, .slice d.firstA d.first.length d.firstC, .slice d.lastA d.last.length d.lastC, .int .u64 (d.seq : Int)] 41) = wa at *
        clear hw1
        obtain ⟨z, hz⟩ : ∃ z, z = decide (d.file ∈ zs) := ⟨_, rfl⟩
        have HZ := Lib.hid hz
        have HC := Lib.hid (vone_any d b zs wa HOF.out hn)
        rw [← hz] at HC
        clear hz
        have ql : Sem.run Try.prog (loadVar 41 ⟨X, 0, none⟩) wa = .ok d.v wa := load_run (HBXv.out.cell 0) (HBXv.out.cell 1) (HBXv.out.cell 2) (HBXv.out.cell 3) (HBXv.out.cell 4) (HBXv.out.cell 5)
        have q0 := HBXv.out.cell 0
        have q1 := HBXv.out.cell 1
        have q2 := HBXv.out.cell 2
        have q3 := HBXv.out.cell 3
        have q4 := HBXv.out.cell 4
        have q5 := HBXv.out.cell 5
        simp only [D.cells, List.getElem?_cons_succ, List.getElem?_cons_zero] at q0 q1 q2 q3 q4 q5
        go_wp2_with fail
        refine HC.out.mono ?_
        rintro e w2 ⟨rfl, hb2⟩
        have HB2 : Hid (Below wr.heap.size wr w2) := Lib.hid (HB1.out.trans (hb2.mono HB1.out.size))
        have HX2 := Lib.hid (HBXv.out.below hb2 HBXv.out.lt)
        have HD2 := Lib.hid (HD1.out.below hb2 HD1.out.lt)
        clear hb2 ql q0 q1 q2 q3 q4 q5 HC HBXv HD1 HB1 HOF
        rcases z
        · have HQD : Hid (q d = true) := Lib.hid (by rw [HQ.out]; show (!decide (d.file ∈ zs)) = true; rw [← HZ.out]; rfl)
          obtain ⟨e, he⟩ : ∃ e, R[k]? = some e := ⟨_, List.getElem?_eq_getElem (by rw [hD.out.len]; omega)⟩
          have hD2 : Del w w2 g L t q k m R := ⟨HD2.out, hD.out.len, hD.out.head, hD.out.rest, hD.out.kp.trans (T := fun _ => False) (below_keep HB2.out) fun _ _ hf => hf.elim⟩
          have HD3 := Lib.hid (hD2.take HD.out HQD.out hkm he)
          have q0 := HX2.out.cell 0
          have q1 := HX2.out.cell 1
          have q2 := HX2.out.cell 2
          have q3 := HX2.out.cell 3
          have q4 := HX2.out.cell 4
          have q5 := HX2.out.cell 5
          have ql : Sem.run Try.prog (loadVar 41 ⟨X, 0, none⟩) w2 = .ok d.v w2 := load_run q0 q1 q2 q3 q4 q5
          simp only [D.cells, List.getElem?_cons_succ, List.getElem?_cons_zero] at q0 q1 q2 q3 q4 q5
          obtain ⟨⟨c0, f0⟩, ⟨c1, f1⟩, ⟨c2, f2⟩, ⟨c3, f3⟩, ⟨c4, f4⟩, ⟨c5, f5⟩, _⟩ := row_store d HD2.out he
          have hkL : k < L.length := by omega
          clear he hD2 HD2 HX2 hD
          go_wp2_with fail
          go_roundw
          case rel => exact ⟨k + 1, m + 1, R.set k d, by omega, by omega, by go_num, by go_num, HD3⟩
          case measure => simp [intOf]; omega
        · have HQD : Hid (q d = false) := Lib.hid (by rw [HQ.out]; show (!decide (d.file ∈ zs)) = false; rw [← HZ.out]; rfl)
          have HD3 := Lib.hid (hD.out.skip HD.out HQD.out HB2.out)
          clear hD
          go_wp2_with fail
          go_roundw
          case rel => exact ⟨k, m + 1, R, by omega, by omega, rfl, by go_num, HD3⟩
          case measure => simp [intOf]; omega
      · obtain rfl : m = L.length := by omega
        have hRL := hD.out.len
        have hcl := fun (c' : Nat) (ty : TypeId) => row_clear (c := c') hD.out.bx hRL.symm hkm 22 ty Try.underlying22
        have HRL := Lib.hid hRL
        clear hRL
        go_wp2_with fail
        go_ret
        have hbx3 : Box (wr.setRow g (cellsL (R.take k ++ List.replicate (L.length - k) zD) ++ t).toArray) g 41 (cellsL (L.filter q) ++ (cellsL (List.replicate (L.length - k) zD) ++ t)) := by
          have h1 := hD.out.head
          rw [List.take_length] at h1
          have h2 := setRow_heap wr g (cellsL R ++ t).toArray (cellsL (R.take k ++ List.replicate (L.length - k) zD) ++ t).toArray 41 (0, 0) hD.out.bx
          unfold Box
          rw [h2, h1, cellsL_append, List.append_assoc]
        have hfl : (L.filter q).length = k := by
          have h1 := hD.out.head
          rw [List.take_length] at h1
          rw [← h1, List.length_take, HRL.out]
          omega
        refine ⟨_, rfl, ?_, (hD.out.kp.below HBB.out fun k hk => by have := HGB.out; omega).trans ((keep_setRow wr g _).below (Nat.le_trans HBB.out hD.out.kp.size) fun k hk => by have := HGB.out; omega)⟩
        have := row_own (base := base) (c := c) hbx3 HGB.out (by
          have := HLEN.out
          simp only [List.length_append, cellsL_length, List.length_replicate] at this ⊢
          omega) (by omega) (by unfold maxLen; omega)
        rw [hfl] at this ⊢
        exact this
end Go.Proofs.Ythhmjjmjicmhdaa.Ve

/- slices.Insert of runs, at a slice of the call's own. -/
namespace Go.Proofs.Ythhmjjmjicmhdaa.Ve
set_option linter.unusedVariables false
set_option linter.unusedSimpArgs false
open Go.RowKit Lift Ik Ed
/-- slices.overlaps, where the second slice lies in a plain block of another number. -/
theorem run_overlaps_own {P : Program} (w : World) (tS tR e : TypeId) (ht : P.underlying tS = some (.slice e)) (size : Nat) (hz : ∀ w, (Go.sizeOf e).run P w = .ok size w)
    (a b : Addr) (la ca lb cb : Nat) (hne : a.block ≠ b.block) (tA : TypeId) (kA : Nat) (hsa : w.shape? a.block = some (tA, kA + 1)) (cs : Array Value) (tB : TypeId) (hb : w.heap[b.block]? = some (.cells cs tB (0, 0))) (hn : 0 < cs.size) :
    (Extern.SlicesOverlaps.overlaps #[tS, tS] #[tR] #[.slice (some a) la ca, .slice (some b) lb cb]).run P w = .ok (.bool false) w := by
  have hnb : (a.block != b.block) = true := by simpa using hne
  have hnb' : (a.block == b.block) = false := by simpa using hne
  have hsb : w.shape? b.block = some (tB, cs.size) := by unfold World.shape?; rw [hb]
  have hfb : w.frozen? b = false := by unfold World.frozen?; rw [hb]; simp
  have hfb2 : w.frozen? { block := b.block, off := cs.size } = false := by unfold World.frozen?; rw [hb]; simp
  change Sem.run P (α := Value) (do
    let some t := (#[tS, tS] : Array TypeId)[0]? | stuck "slices.overlaps: no parameter types"
    let .slice elem ← underlying t | stuck "slices.overlaps: slice type expected"
    let size ← sizeOf elem
    match (some a : Option Addr), (some b : Option Addr) with
    | some a, some b =>
      if la = 0 ∨ lb = 0 ∨ size = 0 then pure (Value.bool false)
      else if a.block != b.block && (← frozen a) && (← frozen b) then unsupported .addressObserved
      else do
        if a.block != b.block then do
          noView a; noView b
          if ← mayBeOne a b then return Value.bool ((← choose (.extern "sameAddr.stringBytes" 2)) == 1)
        pure (Value.bool (a.block == b.block && a.off < b.off + lb * size && b.off < a.off + la * size))
    | _, _ => pure (Value.bool false)) w = _
  by_cases h0 : la = 0 ∨ lb = 0 ∨ size = 0
  · simp [run_underlying ht, hz, h0]
  · obtain ⟨kB, hkB⟩ : ∃ k, cs.size = k + 1 := ⟨cs.size - 1, by omega⟩
    rw [hkB] at hsb hfb2
    cases f1 : w.frozen? a <;> cases f2 : w.frozen? { block := a.block, off := kA + 1 } <;>
      simp [run_underlying ht, hz, h0, hnb, hnb', frozen, noView, viewAt, mayBeOne, stringish, shape, Sem.run, hsa, hsb, f1, f2, hfb, hfb2]
/-- The built-in copy of runs into a block. -/
theorem copy_runs {w : World} {g o dLen dCap sLen sCap B : Nat} {A : Option Addr} {cur : List Value} {M : List D} (h : Box w g 41 cur) (hl : Lies w B A (cellsL M)) (hM : M.length = Nat.min sLen dLen) (hfit : (o + M.length) * 6 ≤ cur.length) (h0 : 0 < M.length) (ty : TypeId) :
    Sem.run Try.prog (Builtin.copy_ #[22, 22] ty #[.slice (some ⟨g, o * 6, none⟩) dLen dCap, .slice A sLen sCap]) w = .ok (.int .i64 (M.length : Int)) (w.setRow g (splice cur (o * 6) (cellsL M)).toArray) := by
  obtain ⟨ad, rfl, _, hc⟩ := hl.place (by rw [cellsL_length]; omega)
  obtain ⟨i, hi, hz, hs, hb⟩ := info_parts (P := Try.prog) (e := 41) (z := zD.v) (size := 6) (bytes := 80) (by kernel_rfl)
  have hld := run_loadCells_list (P := Try.prog) w ad (cellsL M) hc
  rw [cellsL_length] at hld
  have hst := run_storeCells_at Try.prog g (o * 6) 41 (cellsL M) 0 cur.toArray w h (by rw [cellsL_length]; simp; omega) cellsL_one
  simp only [Nat.add_zero, List.toList_toArray] at hst
  have e : cur.take (o * 6) ++ cellsL M ++ cur.drop (o * 6 + (cellsL M).length) = splice cur (o * 6) (cellsL M) := by unfold splice; rw [List.append_assoc]
  rw [e] at hst
  simp [Builtin.copy_, run_underlying Try.underlying22, Builtin.lenOf, Builtin.firstCells, sizeOf, typeInfo, hi, hs, ← hM, hld, hst]
  rfl
theorem take_splice {cur X : List Value} {o k : Nat} (hk : k ≤ o) (ho : o ≤ cur.length) : (splice cur o X).take k = cur.take k := by
  unfold splice
  rw [List.take_append_of_le_length (by rw [List.length_take]; omega), List.take_take, Nat.min_eq_left hk]
theorem drop_splice {cur X : List Value} {o k : Nat} (hk : k = o + X.length) (ho : o ≤ cur.length) : (splice cur o X).drop k = cur.drop k := by
  subst hk
  have : (cur.take o).length = o := by rw [List.length_take]; omega
  unfold splice
  rw [← List.append_assoc, List.drop_left' (by rw [List.length_append, this])]
theorem len_splice {cur X : List Value} {o : Nat} (ho : o + X.length ≤ cur.length) : (splice cur o X).length = cur.length := by
  unfold splice
  simp only [List.length_append, List.length_take, List.length_drop]
  omega
/-- The row behind an insertion in place: first what stood from i on is moved, then the new runs. -/
theorem shift_cells {L M : List D} {t : List Value} {i c : Nat} (hi : i ≤ L.length) (hl : (cellsL L ++ t).length = c * 6) (hc : L.length + M.length ≤ c) :
    splice (splice (cellsL L ++ t) ((i + M.length) * 6) (cellsL (L.drop i))) (i * 6) (cellsL M) = cellsL (L.take i ++ (M ++ L.drop i)) ++ t.drop (M.length * 6) := by
  have l1 : (cellsL (L.drop i)).length = (L.length - i) * 6 := by rw [cellsL_length, List.length_drop]
  have l2 : (cellsL M).length = M.length * 6 := cellsL_length M
  have l3 : (cellsL L).length = L.length * 6 := cellsL_length L
  have l4 : (cellsL (L.take i)).length = i * 6 := by rw [cellsL_length, List.length_take, Nat.min_eq_left hi]
  have e1 : (cellsL L ++ t).take (i * 6) = cellsL (L.take i) := by
    conv => lhs; rw [← List.take_append_drop i L, cellsL_append, List.append_assoc]
    exact List.take_left' l4
  have e2 : (cellsL L ++ t).drop ((i + M.length) * 6 + (cellsL (L.drop i)).length) = t.drop (M.length * 6) := by
    rw [l1, List.drop_append, List.drop_eq_nil_of_le (by omega), List.nil_append]
    congr 1
    omega
  have e3 : ((cellsL L ++ t).take ((i + M.length) * 6)).length = (i + M.length) * 6 := by rw [List.length_take]; omega
  have e4 : (splice (cellsL L ++ t) ((i + M.length) * 6) (cellsL (L.drop i))).drop (i * 6 + (cellsL M).length) = cellsL (L.drop i) ++ t.drop (M.length * 6) := by
    unfold splice
    rw [e2, List.drop_left' (by rw [e3, l2]; omega)]
  have e5 := take_splice (cur := cellsL L ++ t) (X := cellsL (L.drop i)) (o := (i + M.length) * 6) (k := i * 6) (by omega) (by omega)
  rw [e1] at e5
  conv => lhs; unfold splice
  rw [show List.drop (i * 6 + (cellsL M).length) (List.take ((i + M.length) * 6) (cellsL L ++ t) ++ (cellsL (L.drop i) ++ List.drop ((i + M.length) * 6 + (cellsL (L.drop i)).length) (cellsL L ++ t))) = cellsL (L.drop i) ++ t.drop (M.length * 6) from e4,
    show List.take (i * 6) (List.take ((i + M.length) * 6) (cellsL L ++ t) ++ (cellsL (L.drop i) ++ List.drop ((i + M.length) * 6 + (cellsL (L.drop i)).length) (cellsL L ++ t))) = cellsL (L.take i) from e5, cellsL_append, cellsL_append]
  simp only [List.append_assoc]
/-- The row behind an insertion into a new row. -/
theorem grow_cells {L M : List D} {cur : List Value} {i : Nat} (hi : i ≤ L.length) (hc : cur.take (i * 6) = cellsL (L.take i)) (hl : (L.length + M.length) * 6 ≤ cur.length) :
    splice (splice cur (i * 6) (cellsL M)) ((i + M.length) * 6) (cellsL (L.drop i)) = cellsL (L.take i ++ (M ++ L.drop i)) ++ cur.drop ((L.length + M.length) * 6) := by
  have l1 : (cellsL (L.drop i)).length = (L.length - i) * 6 := by rw [cellsL_length, List.length_drop]
  have l2 : (cellsL M).length = M.length * 6 := cellsL_length M
  have l4 : (cellsL (L.take i)).length = i * 6 := by rw [cellsL_length, List.length_take, Nat.min_eq_left hi]
  have e1 : (splice cur (i * 6) (cellsL M)).take ((i + M.length) * 6) = cellsL (L.take i) ++ cellsL M := by
    unfold splice
    rw [hc, ← List.append_assoc, List.take_left' (by rw [List.length_append, l4, l2]; omega)]
  have e2 : (splice cur (i * 6) (cellsL M)).drop ((i + M.length) * 6 + (cellsL (L.drop i)).length) = cur.drop ((L.length + M.length) * 6) := by
    have h1 : (i + M.length) * 6 + (cellsL (L.drop i)).length = (L.length + M.length) * 6 := by rw [l1]; omega
    have h2 : (L.length + M.length) * 6 = (i * 6 + (cellsL M).length) + (L.length - i) * 6 := by rw [l2]; omega
    rw [h1, h2, ← List.drop_drop, drop_splice rfl (by omega), List.drop_drop]
  conv => lhs; unfold splice
  rw [show List.take ((i + M.length) * 6) (List.take (i * 6) cur ++ (cellsL M ++ List.drop (i * 6 + (cellsL M).length) cur)) = cellsL (L.take i) ++ cellsL M from e1,
    show List.drop ((i + M.length) * 6 + (cellsL (L.drop i)).length) (List.take (i * 6) cur ++ (cellsL M ++ List.drop (i * 6 + (cellsL M).length) cur)) = cur.drop ((L.length + M.length) * 6) from e2, cellsL_append, cellsL_append]
  simp only [List.append_assoc]
/-- What an insertion gives. -/
def Insd (base : Nat) (L M : List D) (i : Nat) (v : Value) (w : World) (e : Ending) (w' : World) : Prop := ∃ v', e = .returned v' ∧ w'.ownsRow base 41 6 v' (L.take i ++ (M ++ L.drop i)).length (cellsL (L.take i ++ (M ++ L.drop i))) ∧ Keep (fun k => v.ownBlock = some k) w w'
section
variable {v : Value} {L M : List D} {base i c cM : Nat} {A : Option Addr} {w : World}
set_option maxRecDepth 100000 in
set_option maxHeartbeats 1600000 in
theorem ins_none (hv : w.ownsRow base 41 6 v L.length (cellsL L)) (hi : i ≤ L.length) (hlen : L.length ≤ 1000) :
    Calls Try.prog 57 #[v, .int .i64 (i : Int), .slice A 0 cM] w (Insd base L [] i v w) := by
  have HV := Lib.hid hv
  obtain ⟨A0, c0, rfl, hnc, hcm, -⟩ := own_parts hv
  unfold maxLen at hcm
  clear hv
  go_enter Try.func57, Try.ntmps57
  go_wp2_with fail
  all_goals go_ret
  · rename_i h
    subst h
    exact ⟨.slice A0 L.length c0, rfl, by simp only [List.nil_append, List.take_append_drop]; exact HV.out, Keep.refl _ _⟩
  · exact ⟨.slice A0 L.length c0, rfl, by simp only [List.nil_append, List.take_append_drop]; exact HV.out, Keep.refl _ _⟩
set_option maxRecDepth 100000 in
set_option maxHeartbeats 1600000 in
theorem ins_end (hv : w.ownsRow base 41 6 v L.length (cellsL L)) (hM : Lies w base A (cellsL M)) (hB : base ≤ w.heap.size) (hlen : L.length + M.length ≤ 1000) (hm : 0 < M.length) :
    Calls Try.prog 57 #[v, .int .i64 (L.length : Int), .slice A M.length cM] w (Insd base L M L.length v w) := by
  obtain ⟨v2, W2, hr, ho, hon⟩ := run_append_onto (P := Try.prog) (m := M.length) (c := cM) 22 22 41 (.agg #[.int .i64 0, .int .i64 0, .int .i64 0, .slice none 0 0, .slice none 0 0, .int .u64 0]) 6 80 Try.underlying22 (by kernel_rfl) rfl (by decide)
    cellsL_one hv hM (cellsL_length M) (by unfold maxLen; omega) (by omega) hB
  rw [← cellsL_append, ← List.length_append] at ho
  have hb := hon.keep
  obtain ⟨A0, c0, rfl, hnc, hcm, -⟩ := own_parts hv
  have HR := Lib.hid hr
  have HO := Lib.hid ho
  have HB := Lib.hid hb
  have t1 : ((M.length : Int) == 0) = false := beq_eq_false_iff_ne.2 (by omega)
  unfold maxLen at hcm
  clear hv hM hr ho hb
  go_enter Try.func57, Try.ntmps57
  go_wp2_with (at_builtin; refine wpList_append_run rfl _ _ 22 rfl rfl rfl HR.out ?_)
  all_goals go_ret
  all_goals refine ⟨v2, rfl, by simp only [List.take_length, List.drop_length, List.append_nil]; exact HO.out, ?_⟩
  all_goals cases A0 <;> exact HB.out
set_option maxRecDepth 100000 in
set_option maxHeartbeats 3200000 in
theorem ins_room {g : Nat} {t : List Value} (hbx : Box w g 41 (cellsL L ++ t)) (hg : base ≤ g) (hlt : (cellsL L ++ t).length = c * 6) (hcm : c ≤ maxLen) (hM : Lies w base A (cellsL M)) (hB : base ≤ w.heap.size) (hlen : L.length + M.length ≤ 1000) (hm : 0 < M.length) (hi : i < L.length) (hroom : L.length + M.length ≤ c) :
    Calls Try.prog 57 #[.slice (some ⟨g, 0, none⟩) L.length c, .int .i64 (i : Int), .slice A M.length cM] w (Insd base L M i (.slice (some ⟨g, 0, none⟩) L.length c) w) := by
  obtain ⟨ad, rfl, hab, hac⟩ := hM.place (by rw [cellsL_length]; omega)
  have hne : ad.block ≠ g := by omega
  have hsz : 0 < (cellsL L ++ t).toArray.size := by simp [cellsL_length]; omega
  obtain ⟨tA, kA, hsa⟩ : ∃ tA kA, w.shape? ad.block = some (tA, kA + 1) := by
    have h0 := hac 0 _ (List.getElem?_eq_getElem (by rw [cellsL_length]; omega))
    rw [show ad.add 0 = ad by unfold Addr.add; simp] at h0
    unfold World.cell? at h0
    unfold World.shape?
    cases hq : w.heap[ad.block]? with
    | none => rw [hq] at h0; cases h0
    | some o =>
      rw [hq] at h0
      cases o with
      | cells cs e fr =>
        have h1 : ad.off < cs.size := by
          rcases Nat.lt_or_ge ad.off cs.size with h1 | h1
          · exact h1
          · exfalso
            revert h0
            simp [Array.getElem?_eq_none h1]
        exact ⟨e, cs.size - 1, by simp; omega⟩
      | _ => simp at h0
  obtain ⟨i0, hi0, hz0, hs0, hb0⟩ := info_parts (P := Try.prog) (e := 41) (z := zD.v) (size := 6) (bytes := 80) (by kernel_rfl)
  have hz : ∀ w, (Go.sizeOf 41).run Try.prog w = .ok 6 w := fun w => by simp [sizeOf, typeInfo, hi0, hs0]
  have hov : ∀ lb cb, (callFunc 82 #[.slice (some ad) M.length cM, .slice (some ⟨g, (i + M.length) * 6, none⟩) lb cb]).run Try.prog w = .ok (.value (.bool false)) w := fun lb cb => by
    rw [run_callFunc_extern Try.func82 (by kernel_rfl) (by kernel_rfl) (by kernel_rfl) (e := Extern.SlicesOverlaps.overlaps #[22, 22] #[4]) (by kernel_rfl),
      run_overlaps_own w 22 4 41 Try.underlying22 6 hz ad ⟨g, (i + M.length) * 6, none⟩ M.length cM lb cb hne tA kA hsa _ _ hbx hsz]
    rfl
  have hcp1 : ∀ ty dc sc, Sem.run Try.prog (Builtin.copy_ #[22, 22] ty #[.slice (some ⟨g, (i + M.length) * 6, none⟩) (L.length + M.length - (i + M.length)) dc, .slice (some ⟨g, i * 6, none⟩) (L.length + M.length - i) sc]) w.drew = .ok (.int .i64 ((L.drop i).length : Int)) (w.drew.setRow g (splice (cellsL L ++ t) ((i + M.length) * 6) (cellsL (L.drop i))).toArray) := fun ty dc sc =>
    copy_runs (w := w.drew) (B := g + 1) hbx (.inr ⟨_, rfl, by show g < g + 1; omega, fun j u hj => by
      have h1 : (cellsL L ++ t)[i * 6 + j]? = some u := by
        have e : cellsL L = cellsL (L.take i) ++ cellsL (L.drop i) := by rw [← cellsL_append, List.take_append_drop]
        have hl4 : (cellsL (L.take i)).length = i * 6 := by rw [cellsL_length, List.length_take]; omega
        rw [e, List.append_assoc, List.getElem?_append_right (by omega), hl4, Nat.add_sub_cancel_left, List.getElem?_append_left (List.getElem?_eq_some_iff.1 hj).1, hj]
      rw [Addr.add_lit]
      exact (hbx.cell (i * 6 + j)).trans h1⟩) (by rw [List.length_drop]; simp only [Nat.min_def]; split <;> omega) (by rw [hlt, List.length_drop]; omega) (by rw [List.length_drop]; omega) ty
  obtain ⟨cur1, hcur1⟩ : ∃ cur, cur = splice (cellsL L ++ t) ((i + M.length) * 6) (cellsL (L.drop i)) := ⟨_, rfl⟩
  have HFIN : Hid (splice cur1 (i * 6) (cellsL M) = cellsL (L.take i ++ (M ++ L.drop i)) ++ t.drop (M.length * 6)) := Lib.hid (by rw [hcur1]; exact shift_cells (by omega) hlt hroom)
  have hlc : cur1.length = c * 6 := by rw [hcur1, len_splice (by rw [cellsL_length, List.length_drop, hlt]; omega), hlt]
  rw [← hcur1] at hcp1
  have HBX1 : Hid (Box (w.drew.setRow g cur1.toArray) g 41 cur1) := Lib.hid (setRow_heap w.drew g (cellsL L ++ t).toArray cur1.toArray 41 (0, 0) hbx)
  have HM1 : Hid (Lies (w.drew.setRow g cur1.toArray) base (some ad) (cellsL M)) := Lib.hid ((hM.later (w' := w.drew) fun _ _ => rfl).below ((keep_setRow w.drew g cur1.toArray).below hB fun k hk => by omega))
  have HK1 : Hid (Keep (fun k => (some g : Option Nat) = some k) w (w.drew.setRow g cur1.toArray)) := Lib.hid (((Keep.refl _ w).drew).trans (keep_setRow w.drew g cur1.toArray) fun j _ hj => by rw [hj])
  have HG := Lib.hid hg
  have HLT := Lib.hid hlt
  have t1 : ((M.length : Int) == 0) = false := beq_eq_false_iff_ne.2 (by omega)
  have t2 : ((i : Int) == (L.length : Int)) = false := beq_eq_false_iff_ne.2 (by omega)
  have hci : ¬ c = i := by omega
  have hcim : ¬ c = i + M.length := by omega
  have hw1 : IntKind.i64.wrap ((i : Int) + (M.length : Int)) = (i : Int) + (M.length : Int) := by rw [IntKind.wrap_i64]; omega
  have htn : ((i : Int) + (M.length : Int)).toNat = i + M.length := by omega
  have hb1 : (0 : Int) ≤ (i : Int) + (M.length : Int) := by omega
  have hin : i ≤ L.length := by omega
  have hb3 : (i : Int) ≤ (L.length : Int) + (M.length : Int) := by omega
  have HLC := Lib.hid hlc
  unfold maxLen at hcm
  clear hbx hM hac hsa hz hcur1 hlt hsz hlc hab hg
  go_enter Try.func57, Try.ntmps57
  go_wp2_with (simp only [hov])
  go_region_law (refine step_copy_runI rfl _ _ 22 22 rfl _ _ (by simp [Act.eval, Act.put]) (by simp [Act.eval, Act.put]) (hcp1 _ _ _) ?_)
  generalize w.drew.setRow g cur1.toArray = W1 at *
  have hcp2 : ∀ ty dc, Sem.run Try.prog (Builtin.copy_ #[22, 22] ty #[.slice (some ⟨g, i * 6, none⟩) (L.length + M.length - i) dc, .slice (some ad) M.length cM]) W1 = .ok (.int .i64 (M.length : Int)) (W1.setRow g (splice cur1 (i * 6) (cellsL M)).toArray) := fun ty dc =>
    copy_runs HBX1.out HM1.out (by simp only [Nat.min_def]; split <;> omega) (by rw [HLC.out]; omega) hm ty
  have HBX2 : Hid (Box (W1.setRow g (splice cur1 (i * 6) (cellsL M)).toArray) g 41 (cellsL (L.take i ++ (M ++ L.drop i)) ++ t.drop (M.length * 6))) := Lib.hid (by
    rw [← HFIN.out]
    exact setRow_heap W1 g cur1.toArray (splice cur1 (i * 6) (cellsL M)).toArray 41 (0, 0) HBX1.out)
  have HK2 : Hid (Keep (fun k => (some g : Option Nat) = some k) w (W1.setRow g (splice cur1 (i * 6) (cellsL M)).toArray)) := Lib.hid (HK1.out.trans (keep_setRow W1 g _) fun j _ hj => by rw [hj])
  have HLF : Hid ((cellsL (L.take i ++ (M ++ L.drop i)) ++ t.drop (M.length * 6)).length = c * 6) := Lib.hid (by rw [← HFIN.out, len_splice (by rw [cellsL_length, HLC.out]; omega), HLC.out])
  have HLL : Hid ((L.take i ++ (M ++ L.drop i)).length = L.length + M.length) := Lib.hid (by simp only [List.length_append, List.length_take, List.length_drop]; omega)
  clear hcp1 hov
  go_wp2_with (at_builtin; refine wpList_copy_runI _ rfl _ _ 22 22 rfl _ _ rfl rfl (hcp2 _ _) ?_)
  go_ret
  have h := row_own HBX2.out HG.out HLF.out (by rw [HLL.out]; omega) (by unfold maxLen; omega)
  refine ⟨.slice (some ⟨g, 0, none⟩) (L.length + M.length) c, rfl, ?_, HK2.out⟩
  have e := HLL.out
  rw [e] at h ⊢
  exact h
set_option maxRecDepth 100000 in
set_option maxHeartbeats 3200000 in
theorem ins_grow {g : Nat} {t : List Value} (hbx : Box w g 41 (cellsL L ++ t)) (hg : base ≤ g) (hlt : (cellsL L ++ t).length = c * 6) (hcm : c ≤ maxLen) (hM : Lies w base A (cellsL M)) (hB : base ≤ w.heap.size) (hlen : L.length + M.length ≤ 1000) (hm : 0 < M.length) (hi : i < L.length) (hnc : L.length ≤ c) (hroom : c < L.length + M.length) :
    Calls Try.prog 57 #[.slice (some ⟨g, 0, none⟩) L.length c, .int .i64 (i : Int), .slice A M.length cM] w (Insd base L M i (.slice (some ⟨g, 0, none⟩) L.length c) w) := by
  obtain ⟨ad, rfl, hab, hac⟩ := hM.place (by rw [cellsL_length]; omega)
  obtain ⟨i0, hi0, hz0, hs0, hb0⟩ := info_parts (P := Try.prog) (e := 41) (z := zD.v) (size := 6) (bytes := 80) (by kernel_rfl)
  have hkk : (L.length : Int) + (M.length : Int) - (i : Int) = ((L.length + M.length - i : Nat) : Int) := by omega
  have hik : i + (L.length + M.length - i) = L.length + M.length := by omega
  have ltk : (cellsL (L.take i)).length = i * 6 := by rw [cellsL_length, List.length_take]; omega
  have hrow : ∀ j u, (cellsL L)[j]? = some u → w.cell? ⟨g, j, none⟩ = some u := fun j u hj => (hbx.cell j).trans (by rw [List.getElem?_append_left (List.getElem?_eq_some_iff.1 hj).1, hj])
  have hold : (Builtin.firstCells i0.size i (.slice (some ⟨g, 0, none⟩) i c)).run Try.prog w.drew = .ok (cellsL (L.take i)).toArray w.drew := by
    rw [hs0]
    exact run_firstCells_some w.drew 6 i ⟨g, 0, none⟩ i c (cellsL (L.take i)) ltk (fun j v hj => by
      rw [Addr.add_lit, Nat.zero_add]
      refine hrow j v ?_
      rw [← List.take_append_drop i L, cellsL_append, List.getElem?_append_left (List.getElem?_eq_some_iff.1 hj).1, hj])
  obtain ⟨G, hG⟩ : ∃ G, G = grownCap w (L.length + M.length) c 41 := ⟨_, rfl⟩
  have hGn : L.length + M.length ≤ G := by rw [hG]; exact grownCap_ge w _ _ _
  have hG63 : G ≤ maxLen := by
    have := grownCap_le_maxLen w (L.length + M.length) c 41 (by unfold maxLen; omega)
    rw [← hG] at this
    exact this
  obtain ⟨ROW, hROW⟩ : ∃ ROW : List Value, ROW = cellsL (L.take i) ++ (cellsL (List.replicate (L.length + M.length - i) zD) ++ cellsL (List.replicate (G - (L.length + M.length)) zD)) := ⟨_, rfl⟩
  have hrz : ∀ ty, (Builtin.append_ #[22, 3] ty #[.slice (some ⟨g, 0, none⟩) i c, .int .i64 ((L.length : Int) + (M.length : Int) - (i : Int))]).run Try.prog w =
      .ok (.slice (some ⟨w.heap.size, 0, none⟩) (L.length + M.length) G) (w.drew.alloc (.cells ROW.toArray 41)) := fun ty => by
    have h := Lib.run_append_grow_zeros w 22 3 ty 41 i0 _ .i64 .i64 Try.underlying22 Try.underlying3 hi0 hz0 (some ⟨g, 0, none⟩) i c (cellsL (L.take i)) hold (L.length + M.length - i) (by omega) (by omega) (by omega) (by omega) (by rw [hb0]; omega) (by rw [hb0, hik]; exact growslice_fits hroom (by omega))
    rw [hik, ← hG] at h
    rw [hkk, h, hROW, ← zero_runs, ← zero_runs]
    congr 4
    apply Array.toList_inj.1
    simp
  have hRl : ROW.length = G * 6 := by
    rw [hROW]
    simp only [List.length_append, cellsL_length, List.length_replicate, List.length_take]
    omega
  have hRt : ROW.take (i * 6) = cellsL (L.take i) := by rw [hROW]; exact List.take_left' ltk
  obtain ⟨W1, hW1⟩ : ∃ W1, W1 = w.drew.alloc (.cells ROW.toArray 41) := ⟨_, rfl⟩
  have hb1 : Below base w W1 := by rw [hW1]; exact ((Below.refl base w).drew).alloc hB _
  have HBX1 : Hid (Box W1 w.heap.size 41 ROW) := Lib.hid (by rw [hW1]; exact Box.new w.drew _ _)
  have HSRC : Hid (Box W1 g 41 (cellsL L ++ t)) := Lib.hid (by
    rw [hW1]
    exact Box.alloc (w := w.drew) hbx _)
  have HK1 : Hid (Keep (fun k => (some g : Option Nat) = some k) w W1) := Lib.hid (by rw [hW1]; exact ((Keep.refl _ w).drew).alloc _)
  have HM1 := Lib.hid (hM.below hb1)
  have HGL : Hid (g < w.heap.size) := Lib.hid hbx.lt
  have HFIN : Hid (splice (splice ROW (i * 6) (cellsL M)) ((i + M.length) * 6) (cellsL (L.drop i)) = cellsL (L.take i ++ (M ++ L.drop i)) ++ ROW.drop ((L.length + M.length) * 6)) := Lib.hid (grow_cells (by omega) hRt (by rw [hRl]; omega))
  have HRL := Lib.hid hRl
  obtain ⟨h, hh⟩ : ∃ h, h = w.heap.size := ⟨_, rfl⟩
  have HH : Hid (base ≤ h) := Lib.hid (by omega)
  have HHE := Lib.hid hh
  rw [← hW1, ← hh] at hrz
  rw [← hh] at HBX1 HGL
  have HG := Lib.hid hg
  have t1 : ((M.length : Int) == 0) = false := beq_eq_false_iff_ne.2 (by omega)
  have t2 : ((i : Int) == (L.length : Int)) = false := beq_eq_false_iff_ne.2 (by omega)
  have hroom3 : (c : Int) < (L.length : Int) + (M.length : Int) := by omega
  have hci : ¬ c = i := by omega
  have hGi : ¬ G = i := by omega
  have hGim : ¬ G = i + M.length := by omega
  have hw1 : IntKind.i64.wrap ((i : Int) + (M.length : Int)) = (i : Int) + (M.length : Int) := by rw [IntKind.wrap_i64]; omega
  have htn : ((i : Int) + (M.length : Int)).toNat = i + M.length := by omega
  have hb1 : (0 : Int) ≤ (i : Int) + (M.length : Int) := by omega
  have hin : i ≤ L.length := by omega
  have hb3 : (i : Int) ≤ (L.length : Int) + (M.length : Int) := by omega
  have hG63' := hG63
  unfold maxLen at hG63' hcm
  have hcp1 : ∀ ty dc, Sem.run Try.prog (Builtin.copy_ #[22, 22] ty #[.slice (some ⟨h, i * 6, none⟩) (L.length + M.length - i) dc, .slice (some ad) M.length cM]) W1 = .ok (.int .i64 (M.length : Int)) (W1.setRow h (splice ROW (i * 6) (cellsL M)).toArray) := fun ty dc =>
    copy_runs HBX1.out HM1.out (by simp only [Nat.min_def]; split <;> omega) (by rw [HRL.out]; omega) hm ty
  clear hbx hM hac hlt hab hg hkk hik ltk hrow hold hG hROW hRl hRt hW1 hh hi0 hz0 hs0 hb0 i0
  go_enter Try.func57, Try.ntmps57
  go_wp2_with (first | (at_builtin; refine Lib.wpList_append_run _ rfl _ _ _ _ rfl _ _ rfl rfl _ _ (hrz _) ?_) | (at_builtin; refine wpList_copy_runI _ rfl _ _ 22 22 rfl _ _ rfl rfl (hcp1 _ _) ?_))
  have HBX2 : Hid (Box (W1.setRow h (splice ROW (i * 6) (cellsL M)).toArray) h 41 (splice ROW (i * 6) (cellsL M))) := Lib.hid (setRow_heap W1 h ROW.toArray (splice ROW (i * 6) (cellsL M)).toArray 41 (0, 0) HBX1.out)
  have hks := keep_setRow W1 h (splice ROW (i * 6) (cellsL M)).toArray
  have HSRC2 : Hid (Box (W1.setRow h (splice ROW (i * 6) (cellsL M)).toArray) g 41 (cellsL L ++ t)) := Lib.hid (HSRC.out.keep hks (by have := HGL.out; omega))
  have HK2 := Lib.hid (HK1.out.trans hks fun j hj he => by have := HHE.out; omega)
  clear hks hcp1 hrz
  generalize W1.setRow h (splice ROW (i * 6) (cellsL M)).toArray = W2 at *
  have hcp2 : ∀ ty dc sc, Sem.run Try.prog (Builtin.copy_ #[22, 22] ty #[.slice (some ⟨h, (i + M.length) * 6, none⟩) (L.length + M.length - (i + M.length)) dc, .slice (some ⟨g, i * 6, none⟩) (L.length - i) sc]) W2.drew = .ok (.int .i64 ((L.drop i).length : Int)) (W2.drew.setRow h (splice (splice ROW (i * 6) (cellsL M)) ((i + M.length) * 6) (cellsL (L.drop i))).toArray) := fun ty dc sc =>
    copy_runs (w := W2.drew) (B := g + 1) HBX2.out (.inr ⟨_, rfl, by show g < g + 1; omega, fun j u hj => by
      have h1 : (cellsL L ++ t)[i * 6 + j]? = some u := by
        have e : cellsL L = cellsL (L.take i) ++ cellsL (L.drop i) := by rw [← cellsL_append, List.take_append_drop]
        have hl4 : (cellsL (L.take i)).length = i * 6 := by rw [cellsL_length, List.length_take]; omega
        rw [e, List.append_assoc, List.getElem?_append_right (by omega), hl4, Nat.add_sub_cancel_left, List.getElem?_append_left (List.getElem?_eq_some_iff.1 hj).1, hj]
      rw [Addr.add_lit]
      exact (HSRC2.out.cell (i * 6 + j)).trans h1⟩) (by rw [List.length_drop]; simp only [Nat.min_def]; split <;> omega) (by rw [len_splice (by rw [cellsL_length, HRL.out]; omega), HRL.out, List.length_drop]; omega) (by rw [List.length_drop]; omega) ty
  have HBX3 : Hid (Box (W2.drew.setRow h (splice (splice ROW (i * 6) (cellsL M)) ((i + M.length) * 6) (cellsL (L.drop i))).toArray) h 41 (cellsL (L.take i ++ (M ++ L.drop i)) ++ ROW.drop ((L.length + M.length) * 6))) := Lib.hid (by
    rw [← HFIN.out]
    exact setRow_heap W2.drew h (splice ROW (i * 6) (cellsL M)).toArray _ 41 (0, 0) HBX2.out)
  have HK3 : Hid (Keep (fun k => (some g : Option Nat) = some k) w (W2.drew.setRow h (splice (splice ROW (i * 6) (cellsL M)) ((i + M.length) * 6) (cellsL (L.drop i))).toArray)) := Lib.hid ((HK2.out.drew).trans (keep_setRow W2.drew h _) fun j hj he => by have := HHE.out; omega)
  have HLL : Hid ((L.take i ++ (M ++ L.drop i)).length = L.length + M.length) := Lib.hid (by simp only [List.length_append, List.length_take, List.length_drop]; omega)
  have HLF : Hid ((cellsL (L.take i ++ (M ++ L.drop i)) ++ ROW.drop ((L.length + M.length) * 6)).length = G * 6) := Lib.hid (by
    rw [List.length_append, cellsL_length, HLL.out, List.length_drop, HRL.out]
    omega)
  go_region_law (refine step_copy_runI rfl _ _ 22 22 rfl _ _ (by simp [Act.eval, Act.put]) (by simp [Act.eval, Act.put]) (hcp2 _ _ _) ?_)
  go_wp2_with fail
  go_ret
  have hf := row_own HBX3.out HH.out HLF.out (by rw [HLL.out]; exact hGn) hG63
  refine ⟨.slice (some ⟨h, 0, none⟩) (L.length + M.length) G, rfl, ?_, HK3.out⟩
  have e := HLL.out
  rw [e] at hf ⊢
  exact hf
/-- slices.Insert of runs, wherever there is room. -/
theorem vins_any (hv : w.ownsRow base 41 6 v L.length (cellsL L)) (hM : Lies w base A (cellsL M)) (hB : base ≤ w.heap.size) (hi : i ≤ L.length) (hlen : L.length + M.length ≤ 1000) :
    Calls Try.prog 57 #[v, .int .i64 (i : Int), .slice A M.length cM] w (Insd base L M i v w) := by
  by_cases hm : M.length = 0
  · obtain rfl := List.eq_nil_of_length_eq_zero hm
    exact ins_none hv hi (by omega)
  · by_cases he : i = L.length
    · subst he
      exact ins_end hv hM hB hlen (by omega)
    · obtain ⟨g, c, t, rfl, hg, hbx, hl, hnc, hcm⟩ := own_row hv (by omega)
      by_cases hr : L.length + M.length ≤ c
      · exact ins_room hbx hg hl hcm hM hB hlen (by omega) (by omega) hr
      · exact ins_grow hbx hg hl hcm hM hB hlen (by omega) (by omega) hnc (by omega)
end
end Go.Proofs.Ythhmjjmjicmhdaa.Ve

/- cmp.Or of two numbers; package version's copied: runs with keys of their own. -/
namespace Go.Proofs.Ythhmjjmjicmhdaa.Ve
set_option linter.unusedVariables false
set_option linter.unusedSimpArgs false
open Go.RowKit Lift Ik Ed
set_option maxRecDepth 100000 in
set_option maxHeartbeats 1600000 in
theorem vor_any (g : Nat) (a b : Int) (w : World) (h0 : w.cell? ⟨g, 0, none⟩ = some (.int .i64 a)) (h1 : w.cell? ⟨g, 1, none⟩ = some (.int .i64 b)) :
    Calls Try.prog 58 #[.slice (some ⟨g, 0, none⟩) 2 2] w fun e w' => e = .returned (.int .i64 (orI a b)) ∧ w = w' := by
  unfold orI
  by_cases ha : a = 0
  · subst ha
    rw [if_pos rfl]
    by_cases hb : b = 0
    · subst hb
      go_enter Try.func58, Try.ntmps58
      go_wp2
      refine wp_loop_rounds 3 ?_
      rw [rounds_succ]
      go_wp2
      rw [rounds_succ]
      go_wp2
      rw [rounds_succ]
      go_wp2
      go_ret
      exact ⟨rfl, rfl⟩
    · have d2 : (b != 0) = true := by simpa using hb
      have d3 : ((b : Int) != 0) = true := by simpa using hb
      go_enter Try.func58, Try.ntmps58
      go_wp2
      refine wp_loop_rounds 2 ?_
      rw [rounds_succ]
      go_wp2
      rw [rounds_succ]
      go_wp2
      go_ret
      exact ⟨rfl, rfl⟩
  · have d1 : (a != 0) = true := by simpa using ha
    have d3 : ((a : Int) != 0) = true := by simpa using ha
    rw [if_neg ha]
    go_enter Try.func58, Try.ntmps58
    go_wp2
    refine wp_loop_rounds 1 ?_
    rw [rounds_succ]
    go_wp2
    go_ret
    exact ⟨rfl, rfl⟩
set_option maxRecDepth 100000 in
set_option maxHeartbeats 1600000 in
theorem vorn_any (g : Nat) (a b : Nat) (w : World) (h0 : w.cell? ⟨g, 0, none⟩ = some (.int .u64 (a : Nat))) (h1 : w.cell? ⟨g, 1, none⟩ = some (.int .u64 (b : Nat))) :
    Calls Try.prog 59 #[.slice (some ⟨g, 0, none⟩) 2 2] w fun e w' => e = .returned (.int .u64 ((orN a b) : Nat)) ∧ w = w' := by
  unfold orN
  by_cases ha : a = 0
  · subst ha
    rw [if_pos rfl]
    by_cases hb : b = 0
    · subst hb
      go_enter Try.func59, Try.ntmps59
      go_wp2
      refine wp_loop_rounds 3 ?_
      rw [rounds_succ]
      go_wp2
      rw [rounds_succ]
      go_wp2
      rw [rounds_succ]
      go_wp2
      go_ret
      exact ⟨rfl, rfl⟩
    · have d2 : (b != 0) = true := by simpa using hb
      have d3 : ((b : Int) != 0) = true := by simpa using hb
      go_enter Try.func59, Try.ntmps59
      go_wp2
      refine wp_loop_rounds 2 ?_
      rw [rounds_succ]
      go_wp2
      rw [rounds_succ]
      go_wp2
      go_ret
      exact ⟨rfl, rfl⟩
  · have d1 : (a != 0) = true := by simpa using ha
    have d3 : ((a : Int) != 0) = true := by simpa using ha
    rw [if_neg ha]
    go_enter Try.func59, Try.ntmps59
    go_wp2
    refine wp_loop_rounds 1 ?_
    rw [rounds_succ]
    go_wp2
    go_ret
    exact ⟨rfl, rfl⟩
set_option maxHeartbeats 800000 in
theorem bclone_any (A : Option Addr) (c : Nat) (xs : List Nat) (w : World) (hl : Lies w w.heap.size A (xs.map vb)) (hm : xs.length ≤ 100000) (h8 : ∀ x, x ∈ xs → x < 256) :
    Calls Try.prog 81 #[.slice A xs.length c] w fun e w' => ∃ A1 c1, e = .returned (.slice A1 xs.length c1) ∧ New w w' A1 c1 xs ∧ Below w.heap.size w w' := by
  rcases A with _ | ad
  · have h0 : xs = [] := by
      rcases hl with h | ⟨_, h, _⟩
      · simpa using h
      · cases h
    subst h0
    have q22 : ∀ W : World, Sem.run Try.prog (binOp .eql 29 (.slice none 0 c) (.slice none 0 0)) W = .ok (.bool true) W := fun W => Lib.run_eql_slice_nil W _ _ none 0 c 0 0 Try.underlying29
    clear hl hm h8
    show Calls Try.prog 81 #[.slice none 0 c] w _
    go_enter Try.func81, Try.ntmps81
    go_wp2_with fail
    go_ret
    exact ⟨none, 0, rfl, new_nil _ _, Below.refl _ _⟩
  · refine (clone_any ad c xs w hl (by omega)).mono ?_
    rintro e w' ⟨v, rfl, ho, hb⟩
    obtain ⟨A1, c1, rfl, hc, hcm, -⟩ := own_parts ho
    exact ⟨A1, c1, rfl, ⟨LiesP.of_own ho, hc, hcm, h8⟩, hb⟩
theorem cellsL_keys {d : D} {A1 A2 : Option Addr} {c1 c2 : Nat} : ∀ {L : List D} {k : Nat}, L[k]? = some d → ((cellsL L).set (k * 6 + 3) (.slice A1 d.first.length c1)).set (k * 6 + 4) (.slice A2 d.last.length c2) = cellsL (L.set k ⟨d.file, d.bytes, d.count, A1, c1, d.first, A2, c2, d.last, d.seq⟩)
  | [], k, h => by simp at h
  | x :: L, 0, h => by
    have : x = d := by simpa using h
    subst this
    rfl
  | x :: L, k + 1, h => by
    have hc : cellsL (x :: L) = x.cells ++ cellsL L := rfl
    have hl : x.cells.length = 6 := rfl
    have ih := cellsL_keys (d := d) (A1 := A1) (A2 := A2) (c1 := c1) (c2 := c2) (L := L) (k := k) (by simpa using h)
    rw [hc, List.set_append_right _ _ (by omega), List.set_append_right _ _ (by omega), show (k + 1) * 6 + 3 - x.cells.length = k * 6 + 3 by omega, show (k + 1) * 6 + 4 - x.cells.length = k * 6 + 4 by omega, ih]
    rfl
/-- What copied has: k copies KL in a row of n, in the block H. -/
structure Cp (w wr : World) (H n : Nat) (L KL : List D) (k : Nat) : Prop where
  bx : Box wr H 41 (cellsL (KL ++ List.replicate (n - KL.length) zD) ++ [])
  len : KL.length = k
  ok : ∀ d, d ∈ KL → d.Ok wr (Fresh w.heap.size wr)
  eq : KL.map D.ru = (L.take k).map D.ru
  be : Below w.heap.size w wr
  ge : w.heap.size ≤ H
set_option maxRecDepth 100000 in
set_option maxHeartbeats 6400000 in
theorem vcopy_any (A : Option Addr) (c B : Nat) (L : List D) (w : World) (hL : Runs w B A c L) (hn : L.length ≤ 1000) (hB : B ≤ w.heap.size) (hsm : ∀ d, d ∈ L → d.first.length ≤ 100000 ∧ d.last.length ≤ 100000) :
    Calls Try.prog 56 #[.slice A L.length c] w fun e w' => ∃ (v : Value) (KL : List D), e = .returned v ∧ KL.map D.ru = L.map D.ru ∧ Ac w.heap.size w' v KL ∧ Below w.heap.size w w' := by
  have HL := Lib.hid hL
  have HM := Lib.hid (make_runs L.length hn w)
  have hcl := Nat.le_trans hL.len hL.cap
  have HSM := Lib.hid hsm
  clear hL hsm
  unfold maxLen at hcl
  go_enter Try.func56, Try.ntmps56
  have hm := HM.out
  go_wp2_with fail
  clear hm
  have hba := Joins.below_alloc1 w (.cells (cellsL (List.replicate L.length zD)).toArray 41)
  have HC0 : Hid (Cp w (w.alloc (.cells (cellsL (List.replicate L.length zD)).toArray 41)) w.heap.size L.length L [] 0) := Lib.hid ⟨by
    have h := Box.new w 41 (cellsL (List.replicate L.length zD))
    rw [List.append_nil]
    simpa using h, rfl, fun d hd => (by simp at hd), rfl, hba, Nat.le_refl _⟩
  obtain ⟨H, hH⟩ : ∃ H, H = w.heap.size := ⟨_, rfl⟩
  rw [← hH] at HC0 ⊢
  have HHH := Lib.hid hH
  clear hH HM hba
  rw [HHH.out] at HC0
  rw [← HHH.out] at HC0
  generalize w.alloc (.cells (cellsL (List.replicate L.length zD)).toArray 41) = w0 at *
  go_loopw [11] (fun i wr => ∃ (k : Nat) (KL : List D), k ≤ L.length ∧ i = .int .i64 (k : Int) ∧ Hid (Cp w wr H L.length L KL k)) (fun i _ => L.length + 1 - (intOf i).toNat)
  case atStart => exact ⟨0, [], Nat.zero_le _, rfl, HC0⟩
  case round =>
    obtain ⟨k, KL, hk, rfl, hC⟩ := hrel
    by_cases hlt : k < L.length
    · obtain ⟨d, hd⟩ : ∃ d, L[k]? = some d := ⟨_, List.getElem?_eq_getElem hlt⟩
      have hR := HL.out.below (hC.out.be.mono hB)
      obtain ⟨ad, p, rfl, hpb, hpp, q0, q1, q2, q3, q4, q5⟩ := hR.place hd
      have ql := load_run q0 q1 q2 q3 q4 q5
      have HD := Lib.hid hd
      have HOK := Lib.hid (hR.ok d (List.mem_of_getElem? hd))
      clear hd hR hpb
      go_upto_region 5 with fail
      have hba := Joins.below_alloc1 wr (rbox d)
      have HX1 : Hid (Box (wr.alloc (rbox d)) wr.heap.size 41 d.cells) := Lib.hid (Box.new wr 41 d.cells)
      have HB1 := Lib.hid hba
      have HGX : Hid (H < wr.heap.size) := Lib.hid hC.out.bx.lt
      obtain ⟨X, hX⟩ : ∃ X, X = wr.heap.size := ⟨_, rfl⟩
      rw [← hX] at HX1 HGX ⊢
      have HXX := Lib.hid hX
      clear hba hX ql q0 q1 q2 q3 q4 q5
      generalize hw1 : wr.alloc (.cells #[.int .i64 d.file, .int .i64 d.bytes, .int .i64 d.count, .slice d.firstA d.first.length d.firstC, .slice d.lastA d.last.length d.lastC, .int .u64 (d.seq : Int)] 41) = wa at *
      clear hw1
      have hat : (KL ++ List.replicate (L.length - KL.length) zD)[k]? = some zD := by
        have := hC.out.len
        rw [List.getElem?_append_right (by omega), List.getElem?_replicate, if_pos (by omega)]
      have HHA : Hid (Box wa H 41 (cellsL (KL ++ List.replicate (L.length - KL.length) zD) ++ [])) := Lib.hid (hC.out.bx.below HB1.out hC.out.bx.lt)
      obtain ⟨⟨c0, f0⟩, ⟨c1, f1⟩, ⟨c2, f2⟩, ⟨c3, f3⟩, ⟨c4, f4⟩, ⟨c5, f5⟩, hbx⟩ := row_store d HHA.out hat
      simp only [zD] at c0 c1 c2 c3 c4 c5
      have HHB := Lib.hid hbx
      have HAT := Lib.hid hat
      have q0 := HX1.out.cell 0
      have q1 := HX1.out.cell 1
      have q2 := HX1.out.cell 2
      have q3 := HX1.out.cell 3
      have q4 := HX1.out.cell 4
      have q5 := HX1.out.cell 5
      have ql : Sem.run Try.prog (loadVar 41 ⟨X, 0, none⟩) wa = .ok d.v wa := load_run q0 q1 q2 q3 q4 q5
      simp only [D.cells, List.getElem?_cons_succ, List.getElem?_cons_zero] at q0 q1 q2 q3 q4 q5
      clear hbx hat
      go_upto_region 6 with fail
      change Code.wp _ _ _ _ (wa.setCells H (k * 6) d.cells)
      have HKB : Hid (Keep (· = H) wa (wa.setCells H (k * 6) d.cells)) := Lib.hid (keep_setCells _ _ _ _ _ (Keep.refl _ _))
      clear c0 c1 c2 c3 c4 c5 f0 f1 f2 f3 f4 f5 q0 q1 q2 q3 q4 q5 ql
      generalize wa.setCells H (k * 6) d.cells = wb at *
      have HXB : Hid (Box wb.drew X 41 d.cells) := Lib.hid (show Box wb X 41 d.cells from HX1.out.keep HKB.out (by have := HGX.out; omega))
      have HBB : Hid (Below w.heap.size w wb.drew) := Lib.hid (((hC.out.be.trans (HB1.out.mono hC.out.be.size)).trans (HKB.out.below (Nat.le_trans hC.out.be.size HB1.out.size) fun j hj => by have := hC.out.ge; omega)).drew)
      have HSZ : Hid (B ≤ wb.drew.heap.size) := Lib.hid (Nat.le_trans hB HBB.out.size)
      have HOB : Hid (d.Ok wb.drew (· < B)) := Lib.hid (HOK.out.later (fun j hj => (HKB.out.block j (Nat.lt_of_lt_of_le hj (Nat.le_trans hB (Nat.le_trans hC.out.be.size HB1.out.size))) (by have := hC.out.ge; omega)).trans (HB1.out.block j (Nat.lt_of_lt_of_le hj (Nat.le_trans hB hC.out.be.size)))) fun _ h => h)
      have hmem : d ∈ L := List.mem_of_getElem? HD.out
      have HC1 := Lib.hid (bclone_any d.firstA d.firstC d.first wb.drew (HOB.out.fl.lies fun j hj => Nat.lt_of_lt_of_le hj HSZ.out) (HSM.out d hmem).1 HOB.out.f8)
      have HC2 := fun (W : World) (hW : Below wb.drew.heap.size wb.drew W) => Lib.hid (bclone_any d.lastA d.lastC d.last W (((HOB.out.ll.lies (B := B) fun j hj => hj).below (hW.mono HSZ.out)).up (Nat.le_trans HSZ.out hW.size)) (HSM.out d hmem).2 HOB.out.l8)
      clear hmem
      refine wp_region_last (S := fun w' => Hid (Box w' X 41 d.cells)) 15 (by kernel_rfl) (HXB) (fun hS => ?_)
      refine wpAnyX_take (i := 0) (v := ?_) rfl (by kernel_rfl) (by kernel_rfl) (by kernel_rfl) (by kernel_rfl) (fun _ _ _ h => h) (Or.inl ⟨by rfl, ?_⟩) hS ?_
      rotate_left
      · intro wi hw
        go_simp
        try with_reducible rfl
      try simp only [Act.put, List.getElem_toArray, List.getElem_cons_succ, List.getElem_cons_zero, List.setIfInBounds_toArray, List.set_cons_zero, List.set_cons_succ]
      refine wpAnyX_take (i := 1) (v := ?_) rfl (by kernel_rfl) (by kernel_rfl) (by kernel_rfl) (by kernel_rfl) (fun _ _ _ h => h) (Or.inl ⟨by rfl, ?_⟩) hS ?_
      rotate_left
      · intro wi hw
        go_simp
        try with_reducible rfl
      try simp only [Act.put, List.getElem_toArray, List.getElem_cons_succ, List.getElem_cons_zero, List.setIfInBounds_toArray, List.set_cons_zero, List.set_cons_succ]
      refine wpAnyX_take (i := 2) (v := ?_) rfl (by kernel_rfl) (by kernel_rfl) (by kernel_rfl) (by kernel_rfl) (fun _ _ _ h => h) (Or.inl ⟨by rfl, ?_⟩) hS ?_
      rotate_left
      · intro wi hw
        go_simp
        try with_reducible rfl
      try simp only [Act.put, List.getElem_toArray, List.getElem_cons_succ, List.getElem_cons_zero, List.setIfInBounds_toArray, List.set_cons_zero, List.set_cons_succ]
      refine wpAnyX_take (i := 3) (v := ?_) rfl (by kernel_rfl) (by kernel_rfl) (by kernel_rfl) (by kernel_rfl) (fun _ _ _ h => h) (Or.inl ⟨by rfl, ?_⟩) hS ?_
      rotate_left
      · intro wi hw
        go_simp
        try with_reducible rfl
      try simp only [Act.put, List.getElem_toArray, List.getElem_cons_succ, List.getElem_cons_zero, List.setIfInBounds_toArray, List.set_cons_zero, List.set_cons_succ]
      refine wpAnyX_take (i := 4) (v := ?_) rfl (by kernel_rfl) (by kernel_rfl) (by kernel_rfl) (by kernel_rfl) (fun _ _ _ h => h) (Or.inl ⟨by rfl, ?_⟩) hS ?_
      rotate_left
      · intro wi hw
        go_simp
        try with_reducible rfl
      try simp only [Act.put, List.getElem_toArray, List.getElem_cons_succ, List.getElem_cons_zero, List.setIfInBounds_toArray, List.set_cons_zero, List.set_cons_succ]
      refine wpAnyX_take (i := 5) (v := ?_) rfl (by kernel_rfl) (by kernel_rfl) (by kernel_rfl) (by kernel_rfl) (fun _ _ _ h => h) (Or.inl ⟨by rfl, ?_⟩) hS ?_
      rotate_left
      · intro wi hw
        have h3 := hw.out.cell 3
        simp only [D.cells, List.getElem?_cons_succ, List.getElem?_cons_zero] at h3
        go_simp
        try with_reducible rfl
      try simp only [Act.put, List.getElem_toArray, List.getElem_cons_succ, List.getElem_cons_zero, List.setIfInBounds_toArray, List.set_cons_zero, List.set_cons_succ]
      refine wpAnyX_take (i := 7) (v := ?_) rfl (by kernel_rfl) (by kernel_rfl) (by kernel_rfl) (by kernel_rfl) (fun _ _ _ h => h) (Or.inl ⟨by rfl, ?_⟩) hS ?_
      rotate_left
      · intro wi hw
        go_simp
        try with_reducible rfl
      try simp only [Act.put, List.getElem_toArray, List.getElem_cons_succ, List.getElem_cons_zero, List.setIfInBounds_toArray, List.set_cons_zero, List.set_cons_succ]
      refine wpAnyX_take (i := 8) (v := ?_) rfl (by kernel_rfl) (by kernel_rfl) (by kernel_rfl) (by kernel_rfl) (fun _ _ _ h => h) (Or.inl ⟨by rfl, ?_⟩) hS ?_
      rotate_left
      · intro wi hw
        have h4 := hw.out.cell 4
        simp only [D.cells, List.getElem?_cons_succ, List.getElem?_cons_zero] at h4
        go_simp
        try with_reducible rfl
      try simp only [Act.put, List.getElem_toArray, List.getElem_cons_succ, List.getElem_cons_zero, List.setIfInBounds_toArray, List.set_cons_zero, List.set_cons_succ]
      refine wpAnyX_ready (rs := [6]) (by kernel_rfl) (by simp) ?_
      refine (AllReadyX.cons rfl (fun K hK => ?_) AllReadyX.nil)
      go_simp
      refine HC1.out.mono ?_
      rintro e V1 ⟨A1, e1, rfl, hn1, hb1⟩
      have HX2 : Hid (Box V1 X 41 d.cells) := Lib.hid (HXB.out.below hb1 HXB.out.lt)
      have HN1 := Lib.hid hn1
      have HV1 := Lib.hid hb1
      have HC2' := HC2 V1 hb1
      refine hK.out _ _ HX2 (fun hS => ?_)
      clear hK hn1 hb1 HC2
      try simp only [Act.put, List.getElem_toArray, List.getElem_cons_succ, List.getElem_cons_zero, List.setIfInBounds_toArray, List.set_cons_zero, List.set_cons_succ]
      refine wpAnyX_ready (rs := [9]) (by kernel_rfl) (by simp) ?_
      refine (AllReadyX.cons rfl (fun K hK => ?_) AllReadyX.nil)
      go_simp
      refine HC2'.out.mono ?_
      rintro e V2 ⟨A2, e2, rfl, hn2, hb2⟩
      have HX3 : Hid (Box V2 X 41 d.cells) := Lib.hid (HX2.out.below hb2 HX2.out.lt)
      have HN2 := Lib.hid hn2
      have HV2 := Lib.hid hb2
      refine hK.out _ _ HX3 (fun hS => ?_)
      clear hK hn2 hb2 HC2' 
      try simp only [Act.put, List.getElem_toArray, List.getElem_cons_succ, List.getElem_cons_zero, List.setIfInBounds_toArray, List.set_cons_zero, List.set_cons_succ]
      refine wpAnyX_take (i := 10) (v := ?_) rfl (by kernel_rfl) (by kernel_rfl) (by kernel_rfl) (by kernel_rfl) (fun _ _ _ h => h) (Or.inl ⟨by rfl, ?_⟩) hS ?_
      rotate_left
      · intro wi hw
        go_simp
        try with_reducible rfl
      try simp only [Act.put, List.getElem_toArray, List.getElem_cons_succ, List.getElem_cons_zero, List.setIfInBounds_toArray, List.set_cons_zero, List.set_cons_succ]
      refine wpAnyX_take (i := 11) (v := ?_) rfl (by kernel_rfl) (by kernel_rfl) (by kernel_rfl) (by kernel_rfl) (fun _ _ _ h => h) (Or.inl ⟨by rfl, ?_⟩) hS ?_
      rotate_left
      · intro wi hw
        go_simp
        try with_reducible rfl
      try simp only [Act.put, List.getElem_toArray, List.getElem_cons_succ, List.getElem_cons_zero, List.setIfInBounds_toArray, List.set_cons_zero, List.set_cons_succ]
      have HH2 : Hid (Box V2 H 41 (cellsL ((KL ++ List.replicate (L.length - KL.length) zD).set k d) ++ [])) := Lib.hid ((HHB.out.below (w' := V1) (B := wb.heap.size) (((Below.refl wb.heap.size wb).drew).trans HV1.out) HHB.out.lt).below HV2.out (Nat.lt_of_lt_of_le HHB.out.lt HV1.out.size))
      have hset : ((KL ++ List.replicate (L.length - KL.length) zD).set k d)[k]? = some d := by
        rw [List.getElem?_set_self]
        exact (List.getElem?_eq_some_iff.1 HAT.out).1
      have c3 : V2.cell? ⟨H, k * 6 + 3, none⟩ = some (.slice d.firstA d.first.length d.firstC) := row_cell HH2.out hset 3 (by decide)
      have f3 := HH2.out.free (k * 6 + 3)
      have hb3 := HH2.out.set (k * 6 + 3) (.slice A1 d.first.length e1)
      have c4 : (V2.setCell ⟨H, k * 6 + 3, none⟩ (.slice A1 d.first.length e1)).cell? ⟨H, k * 6 + 4, none⟩ = some (.slice d.lastA d.last.length d.lastC) := by
        rw [hb3.cell, List.getElem?_set_ne (by omega)]
        rw [← HH2.out.cell]
        exact row_cell HH2.out hset 4 (by decide)
      have f4 := hb3.free (k * 6 + 4)
      have hb4 := hb3.set (k * 6 + 4) (.slice A2 d.last.length e2)
      rw [List.append_nil, cellsL_keys hset, List.set_set] at hb4
      have HH4 := Lib.hid hb4
      have HX4 : Hid (Box (V2.setCell ⟨H, k * 6 + 3, none⟩ (.slice A1 d.first.length e1)) X 41 d.cells) := Lib.hid (HX3.out.setOther (by show ¬ X = H; have := HGX.out; omega) _)
      clear hset hb3 hb4
      refine wpAnyX_ready (rs := [12]) (by kernel_rfl) (by simp) ?_
      refine (AllReadyX.cons rfl (fun K hK => ?_) AllReadyX.nil)
      go_simp
      refine hK.out _ _ HX4 (fun hS => ?_)
      clear hK
      try simp only [Act.put, List.getElem_toArray, List.getElem_cons_succ, List.getElem_cons_zero, List.setIfInBounds_toArray, List.set_cons_zero, List.set_cons_succ]
      refine wpAnyX_ready (rs := [13]) (by kernel_rfl) (by simp) ?_
      refine (AllReadyX.cons rfl (fun K hK => ?_) AllReadyX.nil)
      go_simp
      refine hK.out _ _ HX4 (fun hS => ?_)
      clear hK
      try simp only [Act.put, List.getElem_toArray, List.getElem_cons_succ, List.getElem_cons_zero, List.setIfInBounds_toArray, List.set_cons_zero, List.set_cons_succ]
      refine wpAnyX_take (i := 14) (v := ?_) rfl (by kernel_rfl) (by kernel_rfl) (by kernel_rfl) (by kernel_rfl) (fun _ _ _ h => h) (Or.inl ⟨by rfl, ?_⟩) hS ?_
      rotate_left
      · intro wi hw
        go_simp
        try with_reducible rfl
      try simp only [Act.put, List.getElem_toArray, List.getElem_cons_succ, List.getElem_cons_zero, List.setIfInBounds_toArray, List.set_cons_zero, List.set_cons_succ]
      refine wpAnyX_ready (rs := [15]) (by kernel_rfl) (by simp) ?_
      refine AllReadyX.last rfl (fun K hK => ?_)
      go_simp
      refine hK.out _ _ ?_
      clear hK c3 f3 c4 f4
      try simp only [Act.put, List.getElem_toArray, List.getElem_cons_succ, List.getElem_cons_zero, List.setIfInBounds_toArray, List.set_cons_zero, List.set_cons_succ]
      refine wpAnyX_done (by kernel_rfl) ?_ _
      obtain ⟨d', hd'⟩ : ∃ d' : D, d' = ⟨d.file, d.bytes, d.count, A1, e1, d.first, A2, e2, d.last, d.seq⟩ := ⟨_, rfl⟩
      have HC' : Hid (Cp w ((V2.setCell ⟨H, k * 6 + 3, none⟩ (.slice A1 d.first.length e1)).setCell ⟨H, k * 6 + 4, none⟩ (.slice A2 d.last.length e2)) H L.length L (KL ++ [d']) (k + 1)) := Lib.hid (by
        have hkk : Keep (· = H) V2 ((V2.setCell ⟨H, k * 6 + 3, none⟩ (.slice A1 d.first.length e1)).setCell ⟨H, k * 6 + 4, none⟩ (.slice A2 d.last.length e2)) := ((Keep.refl (· = H) V2).setCell (p := ⟨H, k * 6 + 3, none⟩) (.inr rfl) _).setCell (p := ⟨H, k * 6 + 4, none⟩) (.inr rfl) _
        have hfr : ∀ Bq j, Fresh Bq V2 j → ¬ j = H := fun Bq j hf => fresh_ne HH2.out (by decide) hf
        have n1 := (HN1.out.other (S := fun _ => False) (below_keep HV2.out) fun _ _ h => h).other hkk (hfr _)
        have n2 := HN2.out.other hkk (hfr _)
        have hsz1 : w.heap.size ≤ V1.heap.size := Nat.le_trans HBB.out.size HV1.out.size
        have hlen := hC.out.len
        have hbe2 : Below w.heap.size w V2 := (HBB.out.trans (HV1.out.mono HBB.out.size)).trans (HV2.out.mono hsz1)
        refine ⟨?_, by rw [List.length_append, hlen]; rfl, fun e he => ?_, ?_, hbe2.trans (hkk.below hbe2.size fun j hj => by have := hC.out.ge; omega), hC.out.ge⟩
        · have hset2 : (KL ++ List.replicate (L.length - KL.length) zD).set k d' = (KL ++ [d']) ++ List.replicate (L.length - (KL ++ [d']).length) zD := by
            obtain ⟨r, hr⟩ : ∃ r, L.length - KL.length = r + 1 := ⟨L.length - KL.length - 1, by omega⟩
            rw [List.set_append_right _ _ (by omega), hr, show k - KL.length = 0 by omega, List.replicate_succ, List.set_cons_zero, List.length_append, show L.length - (KL.length + [d'].length) = r by simp; omega]
            simp
          rw [← hset2, List.append_nil, hd']
          exact HH4.out
        · rcases List.mem_append.1 he with he | he
          · have h1 := hC.out.ok e he
            have hne : ∀ j, Fresh w.heap.size wr j → ¬ j = H := fun j hf => fresh_ne hC.out.bx (by decide) hf
            have k1 : Keep (fun _ => False) wr wa := below_keep HB1.out
            have h2 := h1.later (fun j hf => k1.block j hf.2.1 id) fun j hf => Fresh.keep k1 (fun _ _ h => h) j hf
            have hne2 : ∀ j, Fresh w.heap.size wa j → ¬ j = H := fun j hf => fresh_ne HHA.out (by decide) hf
            have h3 := h2.later (w' := wb) (fun j hf => HKB.out.block j hf.2.1 (hne2 j hf)) fun j hf => Fresh.keep HKB.out hne2 j hf
            have k3 : Keep (fun _ => False) wb.drew V1 := below_keep HV1.out
            have k4 : Keep (fun _ => False) V1 V2 := below_keep HV2.out
            have h4 := h3.later (w' := V1) (fun j hf => k3.block j hf.2.1 id) fun j hf => Fresh.keep k3 (fun _ _ h => h) j hf
            have h5 := h4.later (fun j hf => k4.block j hf.2.1 id) fun j hf => Fresh.keep k4 (fun _ _ h => h) j hf
            exact h5.later (fun j hf => hkk.block j hf.2.1 (hfr _ j hf)) fun j hf => Fresh.keep hkk (hfr _) j hf
          · have he : e = d' := by simpa using he
            rw [he, hd']
            exact ⟨HOK.out.w0, HOK.out.w1, HOK.out.w2, n1.lies.later (fun _ _ => rfl) (Fresh.low HBB.out.size), n1.len, n1.cap, n1.b8, n2.lies.later (fun _ _ => rfl) (Fresh.low hsz1), n2.len, n2.cap, n2.b8, HOK.out.sq⟩
        · rw [List.map_append, hC.out.eq, List.take_add_one, HD.out, List.map_append, hd']
          rfl)
      clear hC hd'
      go_wp2_with fail
      go_roundw
      case rel => exact ⟨k + 1, KL ++ [d'], by omega, by go_num, HC'⟩
      case measure => simp [intOf]; omega
    · obtain rfl : k = L.length := by omega
      go_wp2_with fail
      go_ret
      have hl := hC.out.len
      have hbx := hC.out.bx
      rw [hl, Nat.sub_self, List.replicate_zero] at hbx
      simp only [List.append_nil] at hbx
      rw [← List.append_nil (cellsL KL)] at hbx
      have ho := row_own (base := w.heap.size) (c := L.length) hbx hC.out.ge (by rw [List.append_nil, cellsL_length, hl]) (by omega) (by unfold maxLen; omega)
      rw [hl] at ho
      refine ⟨.slice (some ⟨H, 0, none⟩) L.length L.length, KL, rfl, by rw [hC.out.eq, List.take_length], ⟨by rw [hl]; exact ho, hC.out.ok⟩, hC.out.be⟩
end Go.Proofs.Ythhmjjmjicmhdaa.Ve
