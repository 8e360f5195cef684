/- Package edit: how numbers, texts, runs and edits are written. -/
import Derived.Test.YthhmjjmjicmhdaaEp2
import Derived.Test.YthhmjjmjicmhdaaPut
import Derived.Test.YthhmjjmjicmhdaaEfr
namespace Go.Proofs.Ythhmjjmjicmhdaa.Ed
set_option linter.unusedVariables false
set_option linter.unusedSimpArgs false
open Go.RowKit Lift Ik Vn Bt
theorem oenc_le (x : Nat) : (enc x).length ≤ 10 := (enc_len x).2
theorem owrap_u64 {f : Nat} (h : f < 18446744073709551616) : IntKind.u64.wrap (f : Int) = (f : Int) := by rw [IntKind.wrap_u64]; omega
theorem oflat_len {α : Type} {f : α → List Nat} {n : Nat} : ∀ {l : List α}, (∀ a, a ∈ l → (f a).length ≤ n) → (l.flatMap f).length ≤ n * l.length
  | [], _ => by simp
  | a :: l, h => by
    have h1 := h a (List.mem_cons_self ..)
    have h2 := oflat_len (l := l) fun b hb => h b (List.mem_cons_of_mem _ hb)
    rw [List.flatMap_cons, List.length_append, List.length_cons, Nat.mul_add]
    omega
theorem oencR_len {r : Ru} (h : okR r = true) : (encR r).length ≤ 600 := by
  obtain ⟨-, -, -, h4, h5, -⟩ := okR_parts h
  unfold encR encI text
  simp only [List.length_append, List.length_nil]
  have a1 := oenc_le r.file.toNat
  have a2 := oenc_le r.bytes.toNat
  have a3 := oenc_le r.count.toNat
  have a4 := oenc_le r.first.length
  have a5 := oenc_le r.last.length
  have a6 := oenc_le r.seq
  omega
set_option maxRecDepth 100000 in
set_option maxHeartbeats 400000 in
theorem onum_any (base x : Nat) (v : Value) (xs : List Nat) (w : World) (h : w.ownsRow base 5 1 v xs.length (xs.map vb)) (hbase : base ≤ w.heap.size) (hm : xs.length ≤ 2000000000) (hx : x < 18446744073709551616) :
    Calls Try.prog 36 #[v, .int .u64 (x : Int)] w (Grew base v w (xs ++ enc x)) := by
  have HO := Lib.hid h
  have HZ := Lib.hid hbase
  have hp := Vt.put_calls none 0 x [] w (.inl rfl) (by simp) hx
  have HP := Lib.hid hp
  have he := oenc_le x
  clear h hbase hp hx
  go_enter Try.func36, Try.ntmps36
  go_wp2_with fail
  refine HP.out.mono ?_
  intro e W1 hm1
  have hm1 : Lift.Made w.heap.size w ([] ++ enc x) e W1 := hm1
  obtain ⟨A1, c1, rfl, _, _, hl1, hb1⟩ := hm1.parts
  rw [List.nil_append] at hl1 ⊢
  obtain ⟨v2, W2, hr2, hown2, hon2⟩ := append_bytes (w := W1) (c := c1) (own_later HO.out hb1) hl1 (by omega) (Nat.le_trans HZ.out hb1.size)
  have H2 := Lib.hid (Onto.pre hb1 hon2)
  have HO2 := Lib.hid hown2
  have HR2 := Lib.hid hr2
  clear hm1 hl1 hb1 hr2 hown2 hon2
  go_wp2_with (at_builtin; refine wpList_append_run rfl _ _ 29 rfl rfl rfl HR2.out ?_)
  go_ret
  exact ⟨_, rfl, HO2.out, H2.out⟩
set_option maxRecDepth 100000 in
set_option maxHeartbeats 800000 in
/-- appendInts: numbers that are not negative. -/
theorem oints_any (base c : Nat) (v : Value) (A : Option Addr) (xs : List Nat) (zs : List Int) (w : World) (h : w.ownsRow base 5 1 v xs.length (xs.map vb)) (hbase : base ≤ w.heap.size) (hl : Off v w A (zs.map zi)) (hc : zs.length ≤ c) (hcm : c ≤ maxLen)
    (h0 : ∀ z, z ∈ zs → 0 ≤ z ∧ z ≤ 9223372036854775807) (hn : zs.length ≤ 1000) (hm : xs.length ≤ 1000000000) :
    Calls Try.prog 34 #[v, .slice A zs.length c] w (Grew base v w (xs ++ zs.flatMap encI)) := by
  have HO := Lib.hid h
  have HZ := Lib.hid hbase
  have HL := Lib.hid hl
  have H0 := Lib.hid h0
  clear h hbase hl h0
  unfold maxLen at hcm
  go_enter Try.func34, Try.ntmps34
  go_wp2_with fail
  go_loopw [0, 9] (fun o i wr => ∃ k : Nat, k ≤ zs.length ∧ i = .int .i64 (k : Int) ∧ Hid (wr.ownsRow base 5 1 o (xs ++ (zs.take k).flatMap encI).length ((xs ++ (zs.take k).flatMap encI).map vb)) ∧ Hid (Onto v o w wr) ∧ Hid (Off o wr A (zs.map zi))) (fun _ i _ => zs.length + 1 - (intOf i).toNat)
  case atStart => exact ⟨0, Nat.zero_le _, rfl, Lib.hid (by simpa using HO.out), Lib.hid (Onto.refl _ _), HL⟩
  case round =>
    obtain ⟨k, hk, rfl, ho, hon, hoff⟩ := hrel
    by_cases hlt : k < zs.length
    · obtain ⟨z, hz⟩ : ∃ z, zs[k]? = some z := ⟨_, List.getElem?_eq_getElem hlt⟩
      obtain ⟨ad, rfl, -, hcl⟩ := hoff.out.lies.place (by rw [List.length_map]; omega)
      have hc1 := hcl k _ (by rw [List.getElem?_map, hz]; rfl)
      have hz0 := H0.out z (List.mem_of_getElem? hz)
      obtain ⟨n, rfl⟩ : ∃ n : Nat, z = (n : Int) := ⟨z.toNat, by omega⟩
      have hn2 : n ≤ 9223372036854775807 := by omega
      have HZ1 := Lib.hid hz
      have hq := owrap_u64 (f := n) (by omega)
      have hle : (xs ++ (zs.take k).flatMap encI).length ≤ 2000000000 := by
        have h1 := oflat_len (f := encI) (n := 10) (l := zs.take k) fun z _ => oenc_le z.toNat
        have h2 : (zs.take k).length ≤ k := List.length_take_le _ _
        rw [List.length_append]
        omega
      have HN := Lib.hid (onum_any base n _ _ _ ho.out (Nat.le_trans HZ.out hon.out.keep.size) hle (by omega))
      have HE : Hid ((xs ++ (zs.take k).flatMap encI) ++ enc n = xs ++ (zs.take (k + 1)).flatMap encI) := Lib.hid (by
        rw [List.take_add_one, hz, List.flatMap_append, List.append_assoc]
        simp [encI])
      clear hcl hz hz0 hle
      go_wp2_with fail
      refine HN.out.mono ?_
      rintro e W1 ⟨v1, rfl, ho1, hon1⟩
      rw [HE.out] at ho1
      have HO1 := Lib.hid ho1
      have HON1 := Lib.hid (hon.out.trans hon1)
      have HOF1 := Lib.hid (hoff.out.onto hon1)
      clear ho1 hon1 HN HE
      go_wp2_with fail
      go_roundw
      case rel => exact ⟨k + 1, by omega, by go_num, HO1, HON1, HOF1⟩
      case measure => simp [intOf]; omega
    · obtain rfl : k = zs.length := by omega
      have HO1 := ho.out
      rw [List.take_length] at HO1
      have HO2 := Lib.hid HO1
      clear HO1 ho
      go_wp2_with fail
      go_ret
      exact ⟨_, rfl, HO2.out, hon.out⟩
/-- A slice in the newest block is off the call's own. -/
theorem off_new {w : World} {base n : Nat} {v : Value} {xs : List Value} (ho : w.ownsRow base 5 1 v n xs) (cs : Array Value) (T : TypeId) : Off v (w.alloc (.cells cs T)) (some ⟨w.heap.size, 0, none⟩) cs.toList := by
  refine .inr ⟨_, rfl, ⟨by simp, fun he => by have := (ho.lt _ he).2; simp at this⟩, ?_⟩
  rcases (lies_block (heap_alloc_new w (.cells cs T)) (Nat.lt_succ_self _) : Lies _ (w.heap.size + 1) _ _) with h | ⟨ad, h1, _, h2⟩
  · intro j u hj
    rw [h] at hj
    simp at hj
  · injection h1 with h1
    subst h1
    exact h2
set_option maxRecDepth 100000 in
set_option maxHeartbeats 800000 in
theorem otext_any (base c : Nat) (v : Value) (A : Option Addr) (xs ts : List Nat) (w : World) (h : w.ownsRow base 5 1 v xs.length (xs.map vb)) (hbase : base ≤ w.heap.size) (hl : Off v w A (ts.map vb)) (ht : ts.length ≤ 1000) (hm : xs.length ≤ 1000000000) :
    Calls Try.prog 68 #[v, .slice A ts.length c] w (Grew base v w (xs ++ text ts)) := by
  have hb0 := Joins.below_alloc1 w (.cells #[.int .i64 (ts.length : Int)] 3)
  have HI := Lib.hid (oints_any base 1 v (some ⟨w.heap.size, 0, none⟩) xs [(ts.length : Int)] (w.alloc (.cells #[.int .i64 (ts.length : Int)] 3)) (own_later h hb0) (Nat.le_trans hbase hb0.size) (off_new h #[.int .i64 (ts.length : Int)] 3) (by simp) (by decide)
    (fun z hz => by simp at hz; subst hz; omega) (by simp) hm)
  have HOF := Lib.hid (hl.later hb0)
  have HB0 := Lib.hid hb0
  have HZ := Lib.hid hbase
  have he := oenc_le ts.length
  clear h hbase hl hb0
  go_enter Try.func68, Try.ntmps68
  go_wp2_with fail
  refine HI.out.mono ?_
  rintro e W1 ⟨v1, rfl, ho1, hon1⟩
  have e1 : [(ts.length : Int)].flatMap encI = enc ts.length := by simp [encI]
  rw [e1] at ho1
  have HOF1 := HOF.out.onto hon1
  have hb1 : base ≤ W1.heap.size := Nat.le_trans HZ.out (Nat.le_trans HB0.out.size hon1.keep.size)
  obtain ⟨v2, W2, hr2, hown2, hon2⟩ := append_bytes (c := c) ho1 HOF1.lies (by rw [List.length_append]; omega) hb1
  have H2 := Lib.hid (Onto.pre HB0.out (hon1.trans hon2))
  have HO2 := Lib.hid hown2
  have HR2 := Lib.hid hr2
  clear ho1 hon1 e1 HOF1 hb1 hr2 hown2 hon2 HOF HI HB0
  go_wp2_with (at_builtin; refine wpList_append_run rfl _ _ 29 rfl rfl rfl HR2.out ?_)
  go_ret
  refine ⟨_, rfl, ?_, H2.out⟩
  unfold text
  rw [← List.append_assoc]
  exact HO2.out
/-- What a run's writing keeps. -/
structure Wn (base X : Nat) (d : D) (v0 : Value) (w0 : World) (v : Value) (xs : List Nat) (wr : World) : Prop where
  own : wr.ownsRow base 5 1 v xs.length (xs.map vb)
  onto : Onto v0 v w0 wr
  fi : Off v wr d.firstA (d.first.map vb)
  la : Off v wr d.lastA (d.last.map vb)
  bx : Box wr X 41 d.cells
  le : base ≤ wr.heap.size
section
variable {base X : Nat} {d : D} {v0 v v' : Value} {w0 wr w' : World} {xs ys : List Nat}
theorem Wn.below (h : Wn base X d v0 w0 v xs wr) (hb : Below wr.heap.size wr w') : Wn base X d v0 w0 v xs w' :=
  ⟨own_later h.own hb, h.onto.post hb, h.fi.later hb, h.la.later hb, h.bx.below hb h.bx.lt, Nat.le_trans h.le hb.size⟩
theorem Wn.grew (h : Wn base X d v0 w0 v xs wr) (ho : w'.ownsRow base 5 1 v' ys.length (ys.map vb)) (hon : Onto v v' wr w') : Wn base X d v0 w0 v' ys w' :=
  ⟨ho, h.onto.trans hon, h.fi.onto hon, h.la.onto hon, h.bx.keep hon.keep (own_apart h.own h.bx (by decide)), Nat.le_trans h.le hon.keep.size⟩
theorem Wn.cells (h : Wn base X d v0 w0 v xs wr) : wr.cell? ⟨X, 0, none⟩ = some (.int .i64 d.file) ∧ wr.cell? ⟨X, 1, none⟩ = some (.int .i64 d.bytes) ∧ wr.cell? ⟨X, 2, none⟩ = some (.int .i64 d.count) ∧ wr.cell? ⟨X, 3, none⟩ = some (.slice d.firstA d.first.length d.firstC) ∧ wr.cell? ⟨X, 4, none⟩ = some (.slice d.lastA d.last.length d.lastC) ∧ wr.cell? ⟨X, 5, none⟩ = some (.int .u64 (d.seq : Int)) :=
  ⟨h.bx.cell 0, h.bx.cell 1, h.bx.cell 2, h.bx.cell 3, h.bx.cell 4, h.bx.cell 5⟩
end
set_option maxRecDepth 100000 in
set_option maxHeartbeats 3200000 in
theorem oarun_any (d : D) (base B : Nat) (v : Value) (xs : List Nat) (w : World) (hd : d.Ok w (· < B)) (hBb : B ≤ base) (hok : okR d.ru = true) (h : w.ownsRow base 5 1 v xs.length (xs.map vb)) (hbase : base ≤ w.heap.size) (hm : xs.length ≤ 900000000) :
    Calls Try.prog 35 #[v, d.v] w (Grew base v w (xs ++ encR d.ru)) := by
  obtain ⟨o1, o2, o3, o4, o5, -, o7⟩ := okR_parts hok
  have hl1 : d.first.length ≤ 256 := o4.2
  have hl2 : d.last.length ≤ 256 := o5.2
  have hsq : d.seq ≤ 72057594037927935 := o7.2
  have hba := Joins.below_alloc1 w (.cells #[.int .i64 d.file, .int .i64 d.bytes, .int .i64 d.count, .slice d.firstA d.first.length d.firstC, .slice d.lastA d.last.length d.lastC, .int .u64 (d.seq : Int)] 41)
  have HW0 : Hid (Wn base w.heap.size d v w v xs (w.alloc (.cells #[.int .i64 d.file, .int .i64 d.bytes, .int .i64 d.count, .slice d.firstA d.first.length d.firstC, .slice d.lastA d.last.length d.lastC, .int .u64 (d.seq : Int)] 41))) :=
    Lib.hid ⟨own_later h hba, (Onto.refl _ _).post hba, (Off.old ((hd.fl.lies fun _ h => h).up hBb) hbase h).later hba, (Off.old ((hd.ll.lies fun _ h => h).up hBb) hbase h).later hba, Box.new w 41 d.cells, Nat.le_trans hbase hba.size⟩
  have HNN : Hid (∀ z, z ∈ [d.file, d.bytes, d.count] → 0 ≤ z ∧ z ≤ 9223372036854775807) := Lib.hid fun z hz => by
    simp only [D.ru] at o1 o2 o3
    simp at hz
    rcases hz with rfl | rfl | rfl <;> omega
  obtain ⟨I3, hI3⟩ : ∃ I, I = [d.file, d.bytes, d.count].flatMap encI := ⟨_, rfl⟩
  obtain ⟨T1, hT1⟩ : ∃ I, I = text d.first := ⟨_, rfl⟩
  obtain ⟨T2, hT2⟩ : ∃ I, I = text d.last := ⟨_, rfl⟩
  have HEN : Hid (xs ++ encR d.ru = xs ++ I3 ++ T1 ++ T2 ++ enc d.seq) := Lib.hid (by rw [hI3, hT1, hT2]; unfold encR D.ru; simp)
  have h3 : I3.length ≤ 30 := by rw [hI3]; exact oflat_len (f := encI) (n := 10) fun z _ => oenc_le z.toNat
  have h4 : T1.length ≤ 300 := by rw [hT1]; unfold text; rw [List.length_append]; have := oenc_le d.first.length; omega
  have h5 : T2.length ≤ 300 := by rw [hT2]; unfold text; rw [List.length_append]; have := oenc_le d.last.length; omega
  have HI3 := Lib.hid hI3
  have HT1 := Lib.hid hT1
  have HT2 := Lib.hid hT2
  clear o1 o2 o3 o4 o5 o7 hok hd h hbase hba hI3 hT1 hT2
  go_enter Try.func35, Try.ntmps35
  go_upto_region 1 with fail
  obtain ⟨X, hX⟩ : ∃ X, X = w.heap.size := ⟨_, rfl⟩
  rw [← hX] at HW0 ⊢
  clear hX
  generalize w.alloc (.cells #[.int .i64 d.file, .int .i64 d.bytes, .int .i64 d.count, .slice d.firstA d.first.length d.firstC, .slice d.lastA d.last.length d.lastC, .int .u64 (d.seq : Int)] 41) = w1 at *
  obtain ⟨q0, q1, q2, q3, q4, q5⟩ := HW0.out.cells
  have hb1 := Joins.below_alloc1 w1 (.cells #[.int .i64 d.file, .int .i64 d.bytes, .int .i64 d.count] 3)
  have HI := Lib.hid (oints_any base 3 v (some ⟨w1.heap.size, 0, none⟩) xs [d.file, d.bytes, d.count] (w1.alloc (.cells #[.int .i64 d.file, .int .i64 d.bytes, .int .i64 d.count] 3)) (own_later HW0.out.own hb1) (Nat.le_trans HW0.out.le hb1.size) (off_new HW0.out.own #[.int .i64 d.file, .int .i64 d.bytes, .int .i64 d.count] 3) (by simp) (by decide)
    HNN.out (by simp) (by omega))
  have HW1 := Lib.hid (HW0.out.below hb1)
  clear hb1 HW0
  go_wp2_with fail
  refine HI.out.mono ?_
  rintro e W2 ⟨v2, rfl, ho2, hon2⟩
  rw [← HI3.out] at ho2
  have HW2 := Lib.hid (HW1.out.grew ho2 hon2)
  clear ho2 hon2 HI HW1 q0 q1 q2 q3 q4 q5 HI3
  obtain ⟨q0, q1, q2, q3, q4, q5⟩ := HW2.out.cells
  have HX1 := Lib.hid (otext_any base d.firstC v2 d.firstA (xs ++ I3) d.first W2 HW2.out.own HW2.out.le HW2.out.fi (by omega) (by rw [List.length_append]; omega))
  rw [← HT1.out] at HX1
  go_wp2_with fail
  refine HX1.out.mono ?_
  rintro e W3 ⟨v3, rfl, ho3, hon3⟩
  have HW3 := Lib.hid (HW2.out.grew ho3 hon3)
  clear ho3 hon3 HX1 HW2 q0 q1 q2 q3 q4 q5 HT1
  obtain ⟨q0, q1, q2, q3, q4, q5⟩ := HW3.out.cells
  have HX2 := Lib.hid (otext_any base d.lastC v3 d.lastA (xs ++ I3 ++ T1) d.last W3 HW3.out.own HW3.out.le HW3.out.la (by omega) (by simp only [List.length_append]; omega))
  rw [← HT2.out] at HX2
  go_wp2_with fail
  refine HX2.out.mono ?_
  rintro e W4 ⟨v4, rfl, ho4, hon4⟩
  have HW4 := Lib.hid (HW3.out.grew ho4 hon4)
  clear ho4 hon4 HX2 HW3 q0 q1 q2 q3 q4 q5 HT2
  obtain ⟨q0, q1, q2, q3, q4, q5⟩ := HW4.out.cells
  have HX3 := Lib.hid (onum_any base d.seq v4 (xs ++ I3 ++ T1 ++ T2) W4 HW4.out.own HW4.out.le (by simp only [List.length_append]; omega) (by omega))
  go_wp2_with fail
  refine HX3.out.mono ?_
  rintro e W5 ⟨v5, rfl, ho5, hon5⟩
  have HW5 := Lib.hid (HW4.out.grew ho5 hon5)
  clear ho5 hon5 HX3 HW4 q0 q1 q2 q3 q4 q5
  go_wp2_with fail
  go_ret
  rw [HEN.out]
  exact ⟨_, rfl, HW5.out.own, HW5.out.onto⟩
end Go.Proofs.Ythhmjjmjicmhdaa.Ed
