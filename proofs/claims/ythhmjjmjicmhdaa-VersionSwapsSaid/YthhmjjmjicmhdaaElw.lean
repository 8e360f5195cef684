/- What the laws of edits share: the example, the number of an error, what is too great. -/
import Derived.Test.YthhmjjmjicmhdaaEo
import Derived.Test.YthhmjjmjicmhdaaEsm
namespace Go.Proofs.Ythhmjjmjicmhdaa.Ed
set_option linter.unusedVariables false
set_option linter.unusedSimpArgs false
open Go.RowKit Lift Ik
/-- A law answers true, and nothing old has changed. -/
def Yes (w : World) (e : Ending) (w' : World) : Prop := e = .returned (.bool true) ∧ Below w.heap.size w w'
theorem num_any (n : Int) (w : World) : Calls Try.prog 19 #[.int .i64 n] w fun e w' => e = .returned (.int .i64 n) ∧ w = w' := by
  go_enter Try.func19, Try.ntmps19
  go_wp2_with fail
  go_ret
  exact ⟨rfl, rfl⟩
def negX : X := ⟨none, 0, [], none, 0, [], -1, 0, 0⟩
theorem negX_ok (w : World) (B : Nat) : negX.Ok w B := ⟨Runs.zero _ _, .inl rfl, Nat.le_refl _, by decide, fun _ h => (by cases h), by decide, by decide, by decide⟩
theorem zero_bytes : bytesE zeroX.e = [0, 0, 0, 0, 0] := by decide
theorem zero_right : right zeroX.e = true := by decide
theorem neg_right : right negX.e = false := by decide
theorem alive_any (w : World) : Calls Try.prog 12 #[] w (Yes w) := by
  have H1 := Lib.hid (obytes_any zeroX w.heap.size w (zeroX_ok _ _) (Nat.le_refl _))
  rw [zero_bytes] at H1
  go_enter Try.func12, Try.ntmps12
  go_wp2_with fail
  refine H1.out.mono ?_
  intro e W1 hm
  obtain ⟨A1, c1, rfl, -, -, -, hb1⟩ := hm.parts
  have HB1 := Lib.hid hb1
  have H2 := Lib.hid (oright_any zeroX W1.heap.size W1 (zeroX_ok _ _) (Nat.le_refl _))
  rw [zero_right] at H2
  clear hm hb1 H1
  go_wp2_with fail
  refine H2.out.mono ?_
  rintro e W2 ⟨rfl, hb2⟩
  have HB2 := Lib.hid (HB1.out.trans (hb2.mono HB1.out.size))
  have H3 := Lib.hid (oright_any negX W2.heap.size W2 (negX_ok _ _) (Nat.le_refl _))
  rw [neg_right] at H3
  clear hb2 HB1 H2
  go_wp2_with fail
  refine H3.out.mono ?_
  rintro e W3 ⟨rfl, hb3⟩
  have HB3 := Lib.hid (HB2.out.trans (hb3.mono HB2.out.size))
  clear hb3
  go_wp2_with fail
  go_ret
  exact ⟨rfl, HB3.out⟩
/-- Is an edit too great for the laws? -/
def bigX (x : X) : Bool := x.add.any (fun d => decide (300 < d.first.length) || decide (300 < d.last.length)) || (decide (110 < x.add.length) || decide (110 < x.drop.length))
theorem big_parts {x : X} (h : bigX x = false) : (∀ d, d ∈ x.add → d.first.length ≤ 300 ∧ d.last.length ≤ 300) ∧ x.add.length ≤ 110 ∧ x.drop.length ≤ 110 := by
  unfold bigX at h
  simp only [Bool.or_eq_false_iff, List.any_eq_false, decide_eq_false_iff_not, Bool.or_eq_true, decide_eq_true_eq, not_or, Nat.not_lt] at h
  exact ⟨fun d hd => h.1 d hd, h.2⟩
theorem take_memD {zs : List D} {k : Nat} {z n : D} (hz : zs[k]? = some z) : n ∈ zs.take (k + 1) ↔ n ∈ zs.take k ∨ n = z := by
  rw [List.take_add_one, hz]
  simp
set_option maxRecDepth 100000 in
set_option maxHeartbeats 3200000 in
theorem big_any (x : X) (w : World) (hx : x.Ok w w.heap.size) : Calls Try.prog 13 #[x.v] w fun e w' => e = .returned (.bool (bigX x)) ∧ Below w.heap.size w w' := by
  have b5 := Nat.le_trans hx.add.len hx.add.cap
  have b6 := Nat.le_trans hx.dc hx.dm
  unfold maxLen at b5 b6
  have hb0 := Joins.below_alloc1 w (.cells #[.slice x.addA x.add.length x.addC, .slice x.dropA x.drop.length x.dropC, .int .i64 x.next, .int .i64 x.log, .int .u64 (x.seq : Int)] 26)
  have hbx := Box.new w 26 [.slice x.addA x.add.length x.addC, .slice x.dropA x.drop.length x.dropC, .int .i64 x.next, .int .i64 x.log, .int .u64 (x.seq : Int)]
  have HX := Lib.hid (hx.below hb0)
  have HB := Lib.hid hb0
  have HBX := Lib.hid hbx
  obtain ⟨b, hbig⟩ : ∃ b, b = bigX x := ⟨_, rfl⟩
  rw [← hbig]
  have HBIG := Lib.hid hbig
  clear hx hb0 hbx hbig
  go_enter Try.func13, Try.ntmps13
  go_wp2_with fail
  generalize w.alloc (.cells #[.slice x.addA x.add.length x.addC, .slice x.dropA x.drop.length x.dropC, .int .i64 x.next, .int .i64 x.log, .int .u64 (x.seq : Int)] 26) = W at *
  go_loopw [3] (fun i wr => ∃ k : Nat, k ≤ x.add.length ∧ i = .int .i64 (k : Int) ∧ wr = W ∧ Hid (∀ d, d ∈ x.add.take k → d.first.length ≤ 300 ∧ d.last.length ≤ 300)) (fun i _ => x.add.length + 1 - (intOf i).toNat)
  case atStart => exact ⟨0, Nat.zero_le _, rfl, rfl, Lib.hid fun d hd => by simp at hd⟩
  case round =>
    obtain ⟨k, hk, rfl, rfl, hall⟩ := hrel
    have p0 : wr.cell? ⟨w.heap.size, 0, none⟩ = some (.slice x.addA x.add.length x.addC) := HBX.out.cell 0
    by_cases hlt : k < x.add.length
    · obtain ⟨d, hd⟩ : ∃ d, x.add[k]? = some d := ⟨_, List.getElem?_eq_getElem hlt⟩
      obtain ⟨ad, p, hA, -, hpp, -, -, -, q3, q4, -⟩ := HX.out.add.place hd
      rw [hA] at p0
      have HD := Lib.hid hd
      clear hA hd
      by_cases h1 : 300 < d.first.length
      · have t1 : decide (300 < d.first.length) = true := decide_eq_true h1
        have t2 : decide ((300 : Int) < (d.first.length : Int)) = true := decide_eq_true (by omega)
        have HY : Hid (b = true) := Lib.hid (by
          rw [HBIG.out]
          unfold bigX
          rw [Bool.or_eq_true]
          exact .inl (List.any_eq_true.2 ⟨d, List.mem_of_getElem? HD.out, by rw [t1]; rfl⟩))
        clear h1
        go_wp2_with fail
        go_ret
        exact ⟨by rw [HY.out]; rfl, HB.out⟩
      · have t1 : decide (300 < d.first.length) = false := decide_eq_false h1
        have t2 : decide ((300 : Int) < (d.first.length : Int)) = false := decide_eq_false (by omega)
        by_cases h2 : 300 < d.last.length
        · have t3 : decide (300 < d.last.length) = true := decide_eq_true h2
          have t4 : decide ((300 : Int) < (d.last.length : Int)) = true := decide_eq_true (by omega)
          have HY : Hid (b = true) := Lib.hid (by
            rw [HBIG.out]
            unfold bigX
            rw [Bool.or_eq_true]
            exact .inl (List.any_eq_true.2 ⟨d, List.mem_of_getElem? HD.out, by rw [t3, Bool.or_true]⟩))
          clear h1 h2
          go_wp2_with fail
          go_ret
          exact ⟨by rw [HY.out]; rfl, HB.out⟩
        · have t3 : decide (300 < d.last.length) = false := decide_eq_false h2
          have t4 : decide ((300 : Int) < (d.last.length : Int)) = false := decide_eq_false (by omega)
          have HOK := Lib.hid (show d.first.length ≤ 300 ∧ d.last.length ≤ 300 from ⟨by omega, by omega⟩)
          clear h1 h2
          go_wp2_with fail
          go_roundw
          case rel => exact ⟨k + 1, by omega, by go_num, trivial, Lib.hid fun e he => ((take_memD HD.out).1 he).elim (hall.out e) fun h => by rw [h]; exact HOK.out⟩
          case measure => simp [intOf]; omega
    · obtain rfl : k = x.add.length := by omega
      have HALL : Hid (x.add.any (fun d => decide (300 < d.first.length) || decide (300 < d.last.length)) = false) := Lib.hid (by
        rw [List.any_eq_false]
        intro d hd
        have := hall.out d (by rw [List.take_length]; exact hd)
        simp; omega)
      have p1 : wr.cell? ⟨w.heap.size, 1, none⟩ = some (.slice x.dropA x.drop.length x.dropC) := HBX.out.cell 1
      by_cases h1 : 110 < x.add.length
      · have t1 : decide (110 < x.add.length) = true := decide_eq_true h1
        have t2 : decide ((110 : Int) < (x.add.length : Int)) = true := decide_eq_true (by omega)
        have HY : Hid (b = true) := Lib.hid (by rw [HBIG.out]; unfold bigX; rw [HALL.out, t1]; rfl)
        clear h1
        go_wp2_with fail
        go_ret
        exact ⟨by rw [HY.out]; rfl, HB.out⟩
      · have t1 : decide (110 < x.add.length) = false := decide_eq_false h1
        have t2 : decide ((110 : Int) < (x.add.length : Int)) = false := decide_eq_false (by omega)
        have HY : Hid (b = decide ((110 : Int) < (x.drop.length : Int))) := Lib.hid (by
          rw [HBIG.out]; unfold bigX; rw [HALL.out, t1]
          simp
          omega)
        have HY2 : Hid (b = decide (110 < x.drop.length)) := Lib.hid (by rw [HBIG.out]; unfold bigX; rw [HALL.out, t1]; rfl)
        clear h1
        go_wp2_with fail
        go_ret
        exact ⟨by first | (rw [HY.out]; rfl) | (rw [HY2.out]; rfl), HB.out⟩
/-! ### Lengths and bytes of encodings -/
theorem encR_len {r : Ru} (h : okR r = true) : (encR r).length ≤ 600 := by
  obtain ⟨-, -, -, h4, h5, -, -⟩ := okR_parts h
  have e1 := enc_le r.file.toNat
  have e2 := enc_le r.bytes.toNat
  have e3 := enc_le r.count.toNat
  have e4 := enc_le r.first.length
  have e5 := enc_le r.last.length
  have e6 := enc_le r.seq
  unfold encR encI Bt.text
  simp only [List.length_append, List.length_nil]
  omega
theorem flat_len {α : Type} {f : α → List Nat} {n : Nat} : ∀ {l : List α}, (∀ a, a ∈ l → (f a).length ≤ n) → (l.flatMap f).length ≤ n * l.length
  | [], _ => by simp
  | a :: l, h => by
    have h1 := h a (List.mem_cons_self ..)
    have h2 := flat_len (l := l) fun b hb => h b (List.mem_cons_of_mem _ hb)
    rw [List.flatMap_cons, List.length_append, List.length_cons, Nat.mul_succ]
    omega
theorem encE_len {e : E} (h : right e = true) : (encE e).length ≤ 70000 := by
  obtain ⟨h1, h2, -, -, -, -, -, h8, -⟩ := right_parts h
  have a1 := flat_len (f := encR) (n := 600) (l := e.add) fun r hr => encR_len (h8 r hr)
  have a2 := flat_len (f := encI) (n := 10) (l := e.drop) fun x _ => enc_le x.toNat
  have e1 := enc_le e.add.length
  have e2 := enc_le e.drop.length
  have e3 := enc_le e.next.toNat
  have e4 := enc_le e.log.toNat
  have e5 := enc_le e.seq
  unfold encE
  simp only [List.length_append, List.length_nil]
  have e6 : (encI e.next).length ≤ 10 := e3
  have e7 : (encI e.log).length ≤ 10 := e4
  omega
theorem encE_pos (e : E) : 1 ≤ (encE e).length := by
  have h := (Vn.enc_len e.add.length).1
  unfold encE
  rw [List.length_append]
  omega
theorem enc_byt (x : Nat) (hx : x < 18446744073709551616) : Byt (Vn.enc x) := Vn.enc_byte x hx
theorem byt_app {l m : List Nat} (h : Byt l) (k : Byt m) : Byt (l ++ m) := fun c hc => (List.mem_append.1 hc).elim (h c) (k c)
theorem byt_nil : Byt [] := fun c h => by cases h
theorem byt_flat {α : Type} {f : α → List Nat} {l : List α} (h : ∀ a, a ∈ l → Byt (f a)) : Byt (l.flatMap f) := fun c hc => by
  obtain ⟨a, ha, h2⟩ := List.mem_flatMap.1 hc
  exact h a ha c h2
theorem encE_byt {e : E} (h : right e = true) (hb : ∀ r, r ∈ e.add → Byt r.first ∧ Byt r.last) : Byt (encE e) := by
  obtain ⟨h1, h2, h3, h4, h5, -, -, h8, h9⟩ := right_parts h
  have n3 := of_decide_eq_true h3
  have n4 := of_decide_eq_true h4
  refine byt_app (enc_byt _ (by omega)) (byt_app (byt_flat fun r hr => ?_) (byt_app (enc_byt _ (by omega)) (byt_app (byt_flat fun x hx => ?_) (byt_app (enc_byt _ (by omega)) (byt_app (enc_byt _ (by omega)) (byt_app (enc_byt _ (by omega)) byt_nil))))))
  · obtain ⟨o1, o2, o3, o4, o5, -, o7⟩ := okR_parts (h8 r hr)
    obtain ⟨b1, b2⟩ := hb r hr
    exact byt_app (enc_byt _ (by omega)) (byt_app (enc_byt _ (by omega)) (byt_app (enc_byt _ (by omega)) (byt_app (byt_app (enc_byt _ (by omega)) b1) (byt_app (byt_app (enc_byt _ (by omega)) b2) (byt_app (enc_byt _ (by omega)) byt_nil)))))
  · have := of_decide_eq_true (h9 x hx)
    exact enc_byt _ (by omega)
theorem X.byt {x : X} {w : World} {B : Nat} (h : x.Ok w B) : ∀ r, r ∈ x.e.add → Byt r.first ∧ Byt r.last := by
  intro r hr
  obtain ⟨d, hd, rfl⟩ := List.mem_map.1 hr
  have := h.add.ok d hd
  exact ⟨this.f8, this.l8⟩
theorem bytesE_yes {e : E} (h : right e = true) : bytesE e = encE e := if_pos h
theorem bytesE_no {e : E} (h : right e = false) : bytesE e = [] := if_neg (by rw [h]; decide)
abbrev X.cells (x : X) : List Value := [.slice x.addA x.add.length x.addC, .slice x.dropA x.drop.length x.dropC, .int .i64 x.next, .int .i64 x.log, .int .u64 (x.seq : Int)]
abbrev X.box (x : X) : Obj := .cells #[.slice x.addA x.add.length x.addC, .slice x.dropA x.drop.length x.dropC, .int .i64 x.next, .int .i64 x.log, .int .u64 (x.seq : Int)] 26
theorem box_look {x : X} {w : World} {g : Nat} (h : Box w g 26 x.cells) : w.cell? ⟨g, 0, none⟩ = some (.slice x.addA x.add.length x.addC) ∧ w.cell? ⟨g, 1, none⟩ = some (.slice x.dropA x.drop.length x.dropC) ∧ w.cell? ⟨g, 2, none⟩ = some (.int .i64 x.next) ∧ w.cell? ⟨g, 3, none⟩ = some (.int .i64 x.log) ∧ w.cell? ⟨g, 4, none⟩ = some (.int .u64 (x.seq : Int)) :=
  ⟨h.cell 0, h.cell 1, h.cell 2, h.cell 3, h.cell 4⟩
theorem lies_next {w w' : World} {A : Option Addr} {xs : List Value} (h : Lies w w.heap.size A xs) (hb : Below w.heap.size w w') : Lies w' w'.heap.size A xs := (h.below hb).up hb.size
theorem X.Ok.next {x : X} {w w' : World} (h : x.Ok w w.heap.size) (hb : Below w.heap.size w w') : x.Ok w' w'.heap.size := (h.below hb).up hb.size
theorem box_load {x : X} {w : World} {g : Nat} (h : Box w g 26 x.cells) : Sem.run Try.prog (loadVar 26 ⟨g, 0, none⟩) w = .ok x.v w :=
  run_loadVar_row (P := Try.prog) w g 26 26 x.cells.toArray (0, 0) _ h Try.underlying26 rfl (by kernel_rfl)
theorem read_small (bs : List Nat) : (readE bs).2.add.length ≤ 100 ∧ (readE bs).2.drop.length ≤ 100 := by
  unfold readE
  split
  · exact ⟨Nat.zero_le _, Nat.zero_le _⟩
  · rename_i e r _
    split
    · exact ⟨Nat.zero_le _, Nat.zero_le _⟩
    · rename_i h
      have hr : right e = true := by
        cases hq : right e
        · exact absurd (.inr hq) h
        · rfl
      obtain ⟨h1, h2, -⟩ := right_parts hr
      exact ⟨h1, h2⟩
theorem X.small {x : X} {bs : List Nat} (h : x.e = (readE bs).2) : x.add.length ≤ 1000000 ∧ x.drop.length ≤ 1000000 := by
  obtain ⟨h1, h2⟩ := read_small bs
  rw [← h] at h1 h2
  unfold X.e at h1 h2
  simp only [List.length_map] at h1 h2
  exact ⟨by omega, by omega⟩
end Go.Proofs.Ythhmjjmjicmhdaa.Ed
