/- The laws' run: another one at each call, in new memory. -/
import Derived.Test.YthhmjjmjicmhdaaVed
import Derived.Lib.SlBytesConst
namespace Go.Proofs.Ythhmjjmjicmhdaa.Ve
set_option linter.unusedVariables false
set_option linter.unusedSimpArgs false
open Go.RowKit Lift Ik Ed
abbrev ruR (f : Int) (s : Nat) : Ru := ⟨f, 10, 1, [97], [98], s⟩
abbrev dR (n : Nat) (f : Int) (s : Nat) : D := ⟨f, 10, 1, some ⟨n, 0, none⟩, 1, [97], some ⟨n + 1, 0, none⟩, 1, [98], s⟩
theorem liesb_one {W : World} {k : Nat} {c : Nat} {fr : Nat × Nat} {R : Nat → Prop} (h : W.heap[k]? = some (.cells #[.int .u8 (c : Int)] 5 fr)) (hR : R k) : LiesP W R (some ⟨k, 0, none⟩) ([c].map vb) :=
  .inr ⟨_, rfl, hR, fun j u hj => by
    rcases j with _ | j
    · have e : Value.int .u8 (c : Int) = u := by simpa using hj
      subst e
      show W.cell? ⟨k, 0, none⟩ = _
      rw [cell_of_row W k 0 _ _ _ h]
      rfl
    · simp at hj⟩
set_option maxRecDepth 100000 in
set_option maxHeartbeats 1600000 in
theorem run_any (f : Int) (s : Nat) (w : World) (hf : (Lit.int .i64 f).wf = true) (hs : s < 18446744073709551616) :
    Calls Try.prog 33 #[.int .i64 f, .int .u64 (s : Int)] w fun e w' => ∃ d : D, e = .returned d.v ∧ d.ru = ruR f s ∧ d.Ok w' (Fresh w.heap.size w') ∧ Below w.heap.size w w' := by
  have HF := Lib.hid hf
  have HS := Lib.hid hs
  have HB0 := Lib.hid (Joins.below_alloc1 w (.cells zrun.toArray 41))
  have HX0 : Hid (Box (w.alloc (.cells zrun.toArray 41)) w.heap.size 41 zrun) := Lib.hid (Box.new w 41 zrun)
  clear hf hs
  go_enter Try.func33, Try.ntmps33
  go_upto_region 1 with fail
  generalize w.alloc (.cells #[.int .i64 0, .int .i64 0, .int .i64 0, .slice none 0 0, .slice none 0 0, .int .u64 0] 41) = w0 at *
  obtain ⟨X, hX⟩ : ∃ X, X = w.heap.size := ⟨_, rfl⟩
  rw [← hX] at HX0 ⊢
  have HXE := Lib.hid hX
  clear hX
  have kc := fun (W : World) (C : Array Value) (n c : Nat) => Lib.run_convert_bytes_const (P := Try.prog) W 29 5 C n c Try.underlying29 Try.underlying5
  have k2 := Joins.run_convert_bytes_const_at (P := Try.prog) (w0.alloc (.cells #[.int .u8 97] 5 (1, 2))) 29 5 #[.int .u8 98] 1 1 (w0.heap.size + 1) (by simp) Try.underlying29 Try.underlying5
  have h0 : ((w0.alloc (.cells #[.int .u8 97] 5 (1, 2))).alloc (.cells #[.int .u8 98] 5 (1, 2))).heap[w0.heap.size]? = some (.cells #[.int .u8 97] 5 (1, 2)) := by
    rw [Below.heap_alloc _ _ _ (by simp)]
    exact heap_alloc_new w0 _
  have h1 : ((w0.alloc (.cells #[.int .u8 97] 5 (1, 2))).alloc (.cells #[.int .u8 98] 5 (1, 2))).heap[w0.heap.size + 1]? = some (.cells #[.int .u8 98] 5 (1, 2)) := by
    have e : (w0.alloc (.cells #[.int .u8 97] 5 (1, 2))).heap.size = w0.heap.size + 1 := by simp
    rw [← e]
    exact heap_alloc_new _ _
  have hb2 := Joins.below_alloc2 w0 (.cells #[.int .u8 97] 5 (1, 2)) (.cells #[.int .u8 98] 5 (1, 2))
  have HA0 := Lib.hid h0
  have HA1 := Lib.hid h1
  have HX2 := Lib.hid (HX0.out.below hb2 HX0.out.lt)
  have HB2 := Lib.hid (HB0.out.trans (hb2.mono HB0.out.size))
  have HLE : Hid (w.heap.size ≤ w0.heap.size) := Lib.hid HB0.out.size
  have HXL : Hid (X < w0.heap.size) := Lib.hid HX0.out.lt
  clear h0 h1 hb2 HX0
  go_wp2_with (refine wpList_store_row rfl _ _ _ rfl X #[.int .i64 f, .int .i64 10, .int .i64 1, .slice (some ⟨w0.heap.size, 0, none⟩) 1 1, .slice (some ⟨w0.heap.size + 1, 0, none⟩) 1 1, .int .u64 (s : Int)] rfl rfl _ zrun.toArray HX2.out (by kernel_rfl) rfl (by kernel_rfl) ?_)
  generalize (w0.alloc (.cells #[.int .u8 97] 5 (1, 2))).alloc (.cells #[.int .u8 98] 5 (1, 2)) = w2 at *
  have hrz : Box (w2.setRow X #[.int .i64 f, .int .i64 10, .int .i64 1, .slice (some ⟨w0.heap.size, 0, none⟩) 1 1, .slice (some ⟨w0.heap.size + 1, 0, none⟩) 1 1, .int .u64 (s : Int)]) X 41 (dR w0.heap.size f s).cells := setRow_heap _ _ _ _ _ _ HX2.out
  refine bodyPost_ret (results_one rfl Try.underlying41 rfl (by kernel_rfl) _ rfl hrz) rfl ?_
  have hk := Ve.keep_setRow w2 X (dR w0.heap.size f s).cells.toArray
  have hlt := HXL.out
  have a0 := (hk.block w0.heap.size (Array.getElem?_eq_some_iff.1 HA0.out).1 (by omega)).trans HA0.out
  have a1 := (hk.block (w0.heap.size + 1) (Array.getElem?_eq_some_iff.1 HA1.out).1 (by omega)).trans HA1.out
  have m1 : 1 ≤ maxLen := by decide
  have c1 : ∀ c, c ∈ [97] → c < 256 := by decide
  have c2 : ∀ c, c ∈ [98] → c < 256 := by decide
  exact ⟨dR w0.heap.size f s, rfl, rfl, ⟨HF.out, (show (Lit.int .i64 10).wf = true by decide), (show (Lit.int .i64 1).wf = true by decide), liesb_one a0 ⟨HLE.out, (Array.getElem?_eq_some_iff.1 a0).1, _, _, a0⟩, Nat.le_refl _, m1, c1, liesb_one a1 ⟨Nat.le_succ_of_le HLE.out, (Array.getElem?_eq_some_iff.1 a1).1, _, _, a1⟩, Nat.le_refl _, m1, c2, HS.out⟩, below_setRow HB2.out (by rw [HXE.out]; exact Nat.le_refl _) _⟩
/-! ### What the law VersionErrors builds -/
section
variable {W W' : World} {g : Nat} {d : D} {zs : List Int}
/-- A run in a block of its own. -/
structure One (W : World) (g : Nat) (d : D) : Prop where
  box : Box W g 41 d.cells
  ok : d.Ok W (· < W.heap.size)
theorem One.next (h : One W g d) (hb : Below W.heap.size W W') : One W' g d := ⟨h.box.below hb h.box.lt, h.ok.later hb.block fun k hk => Nat.lt_of_lt_of_le hk hb.size⟩
theorem One.new {B : Nat} (h : d.Ok W (Fresh B W)) : One (W.alloc (rbox d)) W.heap.size d :=
  ⟨Box.new W 41 d.cells, h.later (fun k hk => Below.heap_alloc W _ k hk.2.1) fun k hk => Nat.lt_of_lt_of_le hk.2.1 (by simp)⟩
/-- Numbers in a block of their own. -/
structure Ints (W : World) (g : Nat) (zs : List Int) : Prop where
  box : Box W g 3 (zs.map vi)
theorem Ints.next (h : Ints W g zs) (hb : Below W.heap.size W W') : Ints W' g zs := ⟨h.box.below hb h.box.lt⟩
theorem Ints.lies (h : Ints W g zs) : Lies W W.heap.size (some ⟨g, 0, none⟩) (zs.map vi) := by
  have := lies_block (B := W.heap.size) h.box h.box.lt
  simpa using this
theorem Ints.new (W : World) (zs : List Int) : Ints (W.alloc (.cells (zs.map vi).toArray 3)) W.heap.size zs := ⟨Box.new W 3 (zs.map vi)⟩
/-- An edit of one run and a few files, of one run, of a few files. -/
theorem One.edit {S n : Nat} {Z : List Int} (h : One W S d) (hz : Ints W g Z) (hn : Z.length = n) (hm : n ≤ 1000) (hw : ∀ z, z ∈ Z → (Lit.int .i64 z).wf = true) {nx lg : Int} {sq : Nat} (h4 : (Lit.int .i64 nx).wf = true) (h5 : (Lit.int .i64 lg).wf = true) (h6 : sq < 18446744073709551616) :
    (⟨some ⟨S, 0, none⟩, 1, [d], some ⟨g, 0, none⟩, n, Z, nx, lg, sq⟩ : X).Ok W W.heap.size := by
  refine ⟨⟨?_, Nat.le_refl _, (show 1 ≤ maxLen by decide), fun e he => ?_⟩, hz.lies, Nat.le_of_eq hn, (show n ≤ maxLen by unfold maxLen; omega), hw, h4, h5, h6⟩
  · have := lies_block (B := W.heap.size) h.box h.box.lt
    simpa [cellsL] using this
  · rw [List.mem_singleton.1 he]; exact h.ok
theorem One.add {S : Nat} (h : One W S d) {nx lg : Int} {sq : Nat} (h4 : (Lit.int .i64 nx).wf = true) (h5 : (Lit.int .i64 lg).wf = true) (h6 : sq < 18446744073709551616) :
    (⟨some ⟨S, 0, none⟩, 1, [d], none, 0, [], nx, lg, sq⟩ : X).Ok W W.heap.size := by
  refine ⟨⟨?_, Nat.le_refl _, (show 1 ≤ maxLen by decide), fun e he => ?_⟩, .inl rfl, Nat.le_refl _, (show 0 ≤ maxLen by decide), (fun z hz => by cases hz), h4, h5, h6⟩
  · have := lies_block (B := W.heap.size) h.box h.box.lt
    simpa [cellsL] using this
  · rw [List.mem_singleton.1 he]; exact h.ok
theorem Ints.drop {n : Nat} (hz : Ints W g zs) (hn : zs.length = n) (hm : n ≤ 1000) (hw : ∀ z, z ∈ zs → (Lit.int .i64 z).wf = true) : (⟨none, 0, [], some ⟨g, 0, none⟩, n, zs, 0, 0, 0⟩ : X).Ok W W.heap.size :=
  ⟨Runs.zero _ _, hz.lies, Nat.le_of_eq hn, (show n ≤ maxLen by unfold maxLen; omega), hw, (show (Lit.int .i64 0).wf = true by decide), (show (Lit.int .i64 0).wf = true by decide), (show 0 < 18446744073709551616 by decide)⟩
theorem bare_ok {nx lg : Int} {sq : Nat} (h4 : (Lit.int .i64 nx).wf = true) (h5 : (Lit.int .i64 lg).wf = true) (h6 : sq < 18446744073709551616) : (⟨none, 0, [], none, 0, [], nx, lg, sq⟩ : X).Ok W W.heap.size :=
  ⟨Runs.zero _ _, .inl rfl, Nat.le_refl _, (show 0 ≤ maxLen by decide), (fun z hz => by cases hz), h4, h5, h6⟩
end
theorem One.full {W : World} {S : Nat} {d : D} {dA : Option Addr} {dc : Nat} {Z : List Int} (h : One W S d) (hz : Lies W W.heap.size dA (Z.map vi)) (h1 : Z.length ≤ dc) (h2 : dc ≤ maxLen) (hw : ∀ z, z ∈ Z → (Lit.int .i64 z).wf = true) {nx lg : Int} {sq : Nat} (h4 : (Lit.int .i64 nx).wf = true) (h5 : (Lit.int .i64 lg).wf = true) (h6 : sq < 18446744073709551616) :
    (⟨some ⟨S, 0, none⟩, 1, [d], dA, dc, Z, nx, lg, sq⟩ : X).Ok W W.heap.size := by
  refine ⟨⟨?_, Nat.le_refl _, (show 1 ≤ maxLen by decide), fun e he => ?_⟩, hz, h1, h2, hw, h4, h5, h6⟩
  · have := lies_block (B := W.heap.size) h.box h.box.lt
    simpa [cellsL] using this
  · rw [List.mem_singleton.1 he]; exact h.ok
structure Vs (W : World) (g : Nat) (y : Y) : Prop where
  box : Box W g 44 y.cells
  ok : y.Ok W W.heap.size
theorem Vs.next {W W' : World} {g : Nat} {y : Y} (h : Vs W g y) (hb : Below W.heap.size W W') : Vs W' g y := ⟨h.box.below hb h.box.lt, h.ok.next hb⟩
theorem Vs.put {W : World} {g : Nat} {y a : Y} (h : Vs W g y) (ha : a.Ok W W.heap.size) : Vs (W.setRow g a.cells.toArray) g a := ⟨setRow_heap _ _ _ _ _ _ h.box, ha.poke (vbox_of h.box) (Ve.keep_setRow _ _ _)⟩
end Go.Proofs.Ythhmjjmjicmhdaa.Ve
