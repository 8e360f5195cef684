/- An operation, appended to a slice of the call's own. -/
import Derived.Test.YtggliedlfccicaaBenc1
namespace Go.Proofs.Ytggliedlfccicaa.Bt
set_option linter.unusedVariables false
set_option linter.unusedSimpArgs false
open Go.RowKit Lift Ik Vn

theorem encO_del (ka va : Option Addr) (kc vc : Nat) (key : List Nat) : encO (D.o ⟨0, ka, kc, key, va, vc, []⟩) = 0 :: text key := by simp [encO, D.o]
theorem encO_put (ka va : Option Addr) (kc vc : Nat) (key val : List Nat) : encO (D.o ⟨1, ka, kc, key, va, vc, val⟩) = 1 :: (text key ++ text val) := by simp [encO, D.o]
theorem text_len (t : List Nat) : (text t).length ≤ 10 + t.length := by unfold text; rw [List.length_append]; have := (enc_len t.length).2; omega
theorem encO_len {o : O} (h : o.ok = true) : (encO o).length ≤ 4400 := by
  obtain ⟨h1, h2, h3, h4⟩ := ok_parts h
  have t1 := text_len o.key
  have t2 := text_len o.val
  unfold encO
  split <;> simp <;> omega

set_option maxRecDepth 100000 in
set_option maxHeartbeats 400000 in
theorem op_del (base : Nat) (v : Value) (ka va : Option Addr) (kc vc : Nat) (key xs : List Nat) (w : World) (h : w.ownsRow base 5 1 v xs.length (xs.map vb)) (hl : Lies w base ka (key.map vb)) (hk : key.length ≤ 256)
    (hbase : base ≤ w.heap.size) (hm : xs.length ≤ 130000000000000) : Calls Try.prog 22 #[v, .agg #[.int .i64 0, .slice ka key.length kc, .slice va 0 vc]] w (Grew base v w (xs ++ 0 :: text key)) := by
  have HO := Lib.hid h
  have HL := Lib.hid hl
  have HZ := Lib.hid hbase
  
  clear h hl hbase
  have hb0 := Joins.below_alloc1 w (.cells #[.int .i64 0, .slice ka key.length kc, .slice va 0 vc] 46)
  have b0 := Box.new w 46 [.int .i64 0, .slice ka key.length kc, .slice va 0 vc]
  have hz0 : (w.alloc (.cells #[.int .i64 0, .slice ka key.length kc, .slice va 0 vc] 46)).heap.size = w.heap.size + 1 := by simp
  have o0 := HO.out.alloc (.cells #[.int .i64 0, .slice ka key.length kc, .slice va 0 vc] 46)
  have hcell : Lies ((w.alloc (.cells #[.int .i64 0, .slice ka key.length kc, .slice va 0 vc] 46)).alloc (.cells #[.int .u8 0] 5)) (w.heap.size + 2) (some ⟨w.heap.size + 1, 0, none⟩) [.int .u8 0] := by
    have := lies_block (B := w.heap.size + 2) (heap_alloc_new (w.alloc (.cells #[.int .i64 0, .slice ka key.length kc, .slice va 0 vc] 46)) (.cells #[.int .u8 0] 5)) (by omega)
    rw [hz0] at this
    exact this
  obtain ⟨v1, W1, hr1, hown1, hon1⟩ := run_append_onto (P := Try.prog) (m := 1) (c := 1) 28 28 5 (.int .u8 0) 1 1 Try.underlying28 (by kernel_rfl) rfl (by decide)
    (fun u hu => by simp at hu; subst hu; rfl) (o0.alloc (.cells #[.int .u8 0] 5)) hcell rfl (by unfold maxLen; omega) (by omega) (by have := HZ.out; simp; omega)
  have h1 := Onto.pre (Joins.below_alloc2 w (.cells #[.int .i64 0, .slice ka key.length kc, .slice va 0 vc] 46) (.cells #[.int .u8 0] 5)) hon1
  have b1 := (b0.alloc (.cells #[.int .u8 0] 5)).keep hon1.keep (fun hk2 => by have := (HO.out.lt _ hk2).2; omega)
  have hbw := h1.below HO.out HZ.out
  rw [show xs.map vb ++ [Value.int .u8 0] = (xs ++ [0]).map vb by simp] at hown1
  have hown1 : W1.ownsRow base 5 1 v1 (xs ++ [0]).length ((xs ++ [0]).map vb) := by rw [List.length_append]; exact hown1
  have ht := text_any base kc v1 ka (xs ++ [0]) key W1 hown1 (HL.out.below hbw) (Nat.le_trans HZ.out hbw.size) (by simp; omega) (by omega)
  have HT := Lib.hid ht
  have H1 := Lib.hid h1
  have HR1 := Lib.hid hr1
  have HO1 := Lib.hid hown1
  have B1 := Lib.hid b1
  obtain ⟨p0, p1, p2, _, _, _⟩ := b1.facts3
  clear hb0 b0 hz0 o0 hcell hr1 hown1 hon1 h1 b1 hbw ht
  go_enter Try.func22, Try.ntmps22
  go_wp2_with (at_builtin; refine wpList_append_run rfl _ _ 28 rfl rfl rfl HR1.out ?_)
  refine HT.out.mono ?_; rintro e W2 ⟨v2, rfl, hown2, hon2⟩
  have b2 := B1.out.keep hon2.keep (own_apart HO1.out B1.out (by decide))
  have H2 := Lib.hid (H1.out.trans hon2)
  have HO2 := Lib.hid hown2
  have B2 := Lib.hid b2
  clear p0 p1 p2 hown2 hon2 HT
  obtain ⟨p0, p1, p2, _, _, _⟩ := b2.facts3
  clear b2
  go_wp2_with fail
  go_ret
  refine ⟨_, rfl, ?_, H2.out⟩
  rw [show xs ++ 0 :: text key = xs ++ [0] ++ text key by simp]
  exact HO2.out

set_option maxRecDepth 100000 in
set_option maxHeartbeats 400000 in
theorem op_put (base : Nat) (v : Value) (ka va : Option Addr) (kc vc : Nat) (key val xs : List Nat) (w : World) (h : w.ownsRow base 5 1 v xs.length (xs.map vb)) (hl : Lies w base ka (key.map vb)) (hk : key.length ≤ 256)
    (hl2 : Lies w base va (val.map vb)) (hv : val.length ≤ 4096) (hbase : base ≤ w.heap.size) (hm : xs.length ≤ 130000000000000) : Calls Try.prog 22 #[v, .agg #[.int .i64 1, .slice ka key.length kc, .slice va val.length vc]] w (Grew base v w (xs ++ 1 :: (text key ++ text val))) := by
  have HO := Lib.hid h
  have HL := Lib.hid hl
  have HZ := Lib.hid hbase
  have HL2 := Lib.hid hl2
  clear h hl hbase hl2
  have hb0 := Joins.below_alloc1 w (.cells #[.int .i64 1, .slice ka key.length kc, .slice va val.length vc] 46)
  have b0 := Box.new w 46 [.int .i64 1, .slice ka key.length kc, .slice va val.length vc]
  have hz0 : (w.alloc (.cells #[.int .i64 1, .slice ka key.length kc, .slice va val.length vc] 46)).heap.size = w.heap.size + 1 := by simp
  have o0 := HO.out.alloc (.cells #[.int .i64 1, .slice ka key.length kc, .slice va val.length vc] 46)
  have hcell : Lies ((w.alloc (.cells #[.int .i64 1, .slice ka key.length kc, .slice va val.length vc] 46)).alloc (.cells #[.int .u8 1] 5)) (w.heap.size + 2) (some ⟨w.heap.size + 1, 0, none⟩) [.int .u8 1] := by
    have := lies_block (B := w.heap.size + 2) (heap_alloc_new (w.alloc (.cells #[.int .i64 1, .slice ka key.length kc, .slice va val.length vc] 46)) (.cells #[.int .u8 1] 5)) (by omega)
    rw [hz0] at this
    exact this
  obtain ⟨v1, W1, hr1, hown1, hon1⟩ := run_append_onto (P := Try.prog) (m := 1) (c := 1) 28 28 5 (.int .u8 0) 1 1 Try.underlying28 (by kernel_rfl) rfl (by decide)
    (fun u hu => by simp at hu; subst hu; rfl) (o0.alloc (.cells #[.int .u8 1] 5)) hcell rfl (by unfold maxLen; omega) (by omega) (by have := HZ.out; simp; omega)
  have h1 := Onto.pre (Joins.below_alloc2 w (.cells #[.int .i64 1, .slice ka key.length kc, .slice va val.length vc] 46) (.cells #[.int .u8 1] 5)) hon1
  have b1 := (b0.alloc (.cells #[.int .u8 1] 5)).keep hon1.keep (fun hk2 => by have := (HO.out.lt _ hk2).2; omega)
  have hbw := h1.below HO.out HZ.out
  rw [show xs.map vb ++ [Value.int .u8 1] = (xs ++ [1]).map vb by simp] at hown1
  have hown1 : W1.ownsRow base 5 1 v1 (xs ++ [1]).length ((xs ++ [1]).map vb) := by rw [List.length_append]; exact hown1
  have ht := text_any base kc v1 ka (xs ++ [1]) key W1 hown1 (HL.out.below hbw) (Nat.le_trans HZ.out hbw.size) (by simp; omega) (by omega)
  have HT := Lib.hid ht
  have H1 := Lib.hid h1
  have HR1 := Lib.hid hr1
  have HO1 := Lib.hid hown1
  have B1 := Lib.hid b1
  obtain ⟨p0, p1, p2, _, _, _⟩ := b1.facts3
  clear hb0 b0 hz0 o0 hcell hr1 hown1 hon1 h1 b1 hbw ht
  go_enter Try.func22, Try.ntmps22
  go_wp2_with (at_builtin; refine wpList_append_run rfl _ _ 28 rfl rfl rfl HR1.out ?_)
  refine HT.out.mono ?_; rintro e W2 ⟨v2, rfl, hown2, hon2⟩
  have b2 := B1.out.keep hon2.keep (own_apart HO1.out B1.out (by decide))
  have H2 := Lib.hid (H1.out.trans hon2)
  have HO2 := Lib.hid hown2
  have B2 := Lib.hid b2
  clear p0 p1 p2 hown2 hon2 HT
  obtain ⟨p0, p1, p2, _, _, _⟩ := b2.facts3
  clear b2
  have htk := text_len key
  have hbw2 := H2.out.below HO.out HZ.out
  have HT2 := Lib.hid (text_any base vc v2 va (xs ++ [1] ++ text key) val W2 HO2.out (HL2.out.below hbw2) (Nat.le_trans HZ.out hbw2.size) (by simp; omega) (by omega))
  clear hbw2
  go_wp2_with fail
  refine HT2.out.mono ?_; rintro e W3 ⟨v3, rfl, hown3, hon3⟩
  have H3 := Lib.hid (H2.out.trans hon3)
  have HO3 := Lib.hid hown3
  clear p0 p1 p2 hown3 hon3 HT2
  go_wp2_with fail
  go_ret
  refine ⟨_, rfl, ?_, H3.out⟩
  rw [show xs ++ 1 :: (text key ++ text val) = xs ++ [1] ++ text key ++ text val by simp]
  exact HO3.out

/-- What appendOp makes, of every valid operation. -/
theorem op_any (base : Nat) (v : Value) (d : D) (xs : List Nat) (w : World) (h : w.ownsRow base 5 1 v xs.length (xs.map vb)) (hd : d.Ok w (· < base)) (hv : d.o.ok = true) (hbase : base ≤ w.heap.size) (hm : xs.length ≤ 130000000000000) :
    Calls Try.prog 22 #[v, d.v] w (Grew base v w (xs ++ encO d.o)) := by
  obtain ⟨h1, h2, h3, h4⟩ := ok_parts hv
  have kl := hd.kl.lies (B := base) fun _ h => h
  have vl := hd.vl.lies (B := base) fun _ h => h
  obtain ⟨kind, ka, kc, key, va, vc, val⟩ := d
  simp only [D.o] at h1 h2 h3 h4 kl vl
  rcases h4 with ⟨rfl, rfl⟩ | rfl
  · rw [encO_del]
    exact op_del base v ka va kc vc key xs w h kl h2 hbase hm
  · rw [encO_put]
    exact op_put base v ka va kc vc key val xs w h kl h2 vl h3 hbase hm
end Go.Proofs.Ytggliedlfccicaa.Bt
