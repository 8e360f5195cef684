/- The document's own copyRun: another run that tells the same, of its own memory. -/
import Derived.Test.YthhmjjmjicmhdaaVops
import Derived.Deep.CutBlock
namespace Go.Proofs.Ythhmjjmjicmhdaa.Ve
set_option linter.unusedVariables false
set_option linter.unusedSimpArgs false
open Go.RowKit Lift Ik Ed
theorem results_one {P : Program} {fn : Func} {p g : Nat} {T : TypeId} {us : List Value} {w : World} {u : TypeDesc} (h : fn.results = #[.cell p T]) (hu : P.underlying T = some u) (ha : (match u with | .struct _ | .array _ _ => true | _ => false) = true)
    (hi : (P.info? T).map (·.size) = some us.toArray.size) (tmps : Array Value) (hp : tmps.getD p undef = .pointer (some ⟨g, 0, none⟩)) (hb : Lift.Box w g T us) :
    (results fn tmps).run P w = .ok (.agg us.toArray) w := by
  have hl := run_loadVar_row (P := P) w g T T us.toArray (0, 0) u hb hu ha hi
  have hp' : tmps[p]?.getD undef = .pointer (some ⟨g, 0, none⟩) := by rw [← hp]; simp
  simp only [results, h]
  simp [Sem.run_bind, hp', asAddr, hl]
  try rfl
/-- A copy of a run, in new memory. -/
def Cop (w : World) (r : Ru) (e : Ending) (w' : World) : Prop := ∃ d' : D, e = .returned d'.v ∧ d'.ru = r ∧ d'.Ok w' (Fresh w.heap.size w') ∧ Below w.heap.size w w'
abbrev zrun : List Value := [.int .i64 0, .int .i64 0, .int .i64 0, .slice none 0 0, .slice none 0 0, .int .u64 0]
abbrev zbox : Obj := .cells #[.int .i64 0, .int .i64 0, .int .i64 0, .slice none 0 0, .slice none 0 0, .int .u64 0] 41
theorem keep_setRow (w : World) (g : Nat) (cs : Array Value) : Keep (· = g) w (w.setRow g cs) := ⟨rfl, rfl, rfl, by simp, fun k _ hk => setRow_other w g k cs hk⟩
set_option maxRecDepth 100000 in
set_option maxHeartbeats 3200000 in
theorem copy_any {d : D} {w : World} (h : d.Ok w (· < w.heap.size)) (h1 : d.first.length ≤ 100000) (h2 : d.last.length ≤ 100000) : Calls Try.prog 84 #[d.v] w (Cop w d.ru) := by
  have s1 : (w.alloc (rbox d)).heap.size = w.heap.size + 1 := by simp
  have hb0 := Joins.below_alloc2 w (rbox d) zbox
  have HX0 : Hid (Box ((w.alloc (rbox d)).alloc zbox) w.heap.size 41 d.cells) := Lib.hid ((Box.new w 41 d.cells).alloc _)
  have HZ0 : Hid (Box ((w.alloc (rbox d)).alloc zbox) (w.heap.size + 1) 41 zrun) := Lib.hid (by rw [← s1]; exact Box.new _ _ _)
  have HB0 := Lib.hid hb0
  have HS0 : Hid (((w.alloc (rbox d)).alloc zbox).heap.size = w.heap.size + 2) := Lib.hid (by simp)
  have H := Lib.hid h
  obtain ⟨A1, c1, W1, hr1, ho1, hb1⟩ := fresh_bytes d.firstA d.firstC _ d.first ((w.alloc (rbox d)).alloc zbox) ((h.fl.lies (B := w.heap.size) fun _ h => h).below hb0) (by omega)
  have HR1 := Lib.hid hr1
  have HO1 := Lib.hid ho1
  have HB1 := Lib.hid hb1
  have HN1 := Lib.hid h1
  have HN2 := Lib.hid h2
  clear h h1 h2 hb0 hr1 ho1 hb1 s1
  go_enter Try.func84, Try.ntmps84
  have x3 : W1.cell? ⟨w.heap.size, 3, none⟩ = some (.slice d.firstA d.first.length d.firstC) := (HX0.out.below HB1.out HX0.out.lt).cell 3
  have z3 : W1.frozen? ⟨w.heap.size, 3, none⟩ = false := (HX0.out.below HB1.out HX0.out.lt).free 3
  go_upto_region 2 with (at_builtin; refine wpList_append_run rfl _ _ 29 rfl rfl rfl HR1.out ?_)
  have HX1 := Lib.hid ((HX0.out.below HB1.out HX0.out.lt).set 3 (.slice A1 d.first.length c1))
  have hk1 : Keep (· = w.heap.size) W1 (W1.setCell ⟨w.heap.size, 3, none⟩ (.slice A1 d.first.length c1)) := (Keep.refl (· = w.heap.size) W1).setCell (p := ⟨w.heap.size, 3, none⟩) (.inr rfl) _
  have HZ1 := Lib.hid ((HZ0.out.below HB1.out HZ0.out.lt).keep hk1 (by omega))
  have HB2 : Hid (Below w.heap.size w (W1.setCell ⟨w.heap.size, 3, none⟩ (.slice A1 d.first.length c1))) := Lib.hid ((HB0.out.trans (HB1.out.mono (by rw [HS0.out]; omega))).setCell (p := ⟨w.heap.size, 3, none⟩) (Nat.le_refl _) _)
  have HO2 := Lib.hid (own_kept HO1.out hk1 fun k hv hs => by have := (HO1.out.lt k hv).1; rw [HS0.out] at this; omega)
  have HS2 : Hid (w.heap.size + 2 ≤ (W1.setCell ⟨w.heap.size, 3, none⟩ (.slice A1 d.first.length c1)).heap.size) := Lib.hid (by have := hk1.size; have := HB1.out.size; rw [HS0.out] at this; omega)
  clear x3 z3 hk1 HX0 HZ0
  generalize W1.setCell ⟨w.heap.size, 3, none⟩ (.slice A1 d.first.length c1) = W2 at *
  obtain ⟨A3, c3, W3, hr3, ho3, hb3⟩ := fresh_bytes d.lastA d.lastC _ d.last W2 ((H.out.ll.lies (B := w.heap.size) fun _ h => h).below HB2.out) (by have := HN2.out; omega)
  have HR3 := Lib.hid hr3
  have HO3 := Lib.hid ho3
  have HB3 := Lib.hid hb3
  have y4 : W2.cell? ⟨w.heap.size, 4, none⟩ = some (.slice d.lastA d.last.length d.lastC) := HX1.out.cell 4
  have x4 : W3.cell? ⟨w.heap.size, 4, none⟩ = some (.slice d.lastA d.last.length d.lastC) := (HX1.out.below hb3 HX1.out.lt).cell 4
  have z4 : W3.frozen? ⟨w.heap.size, 4, none⟩ = false := (HX1.out.below hb3 HX1.out.lt).free 4
  clear hr3 ho3 hb3
  go_upto_region 3 with (at_builtin; refine wpList_append_run rfl _ _ 29 rfl rfl rfl HR3.out ?_)
  have HX3 : Hid (Box (W3.setCell ⟨w.heap.size, 4, none⟩ (.slice A3 d.last.length c3)) w.heap.size 41 [.int .i64 d.file, .int .i64 d.bytes, .int .i64 d.count, .slice A1 d.first.length c1, .slice A3 d.last.length c3, .int .u64 (d.seq : Int)]) := Lib.hid ((HX1.out.below HB3.out HX1.out.lt).set 4 (.slice A3 d.last.length c3))
  have hk3 : Keep (· = w.heap.size) W3 (W3.setCell ⟨w.heap.size, 4, none⟩ (.slice A3 d.last.length c3)) := (Keep.refl (· = w.heap.size) W3).setCell (p := ⟨w.heap.size, 4, none⟩) (.inr rfl) _
  have HZ3 := Lib.hid ((HZ1.out.below HB3.out HZ1.out.lt).keep hk3 (by omega))
  have HB4 : Hid (Below w.heap.size w (W3.setCell ⟨w.heap.size, 4, none⟩ (.slice A3 d.last.length c3))) := Lib.hid ((HB2.out.trans (HB3.out.mono (by have := HS2.out; omega))).setCell (p := ⟨w.heap.size, 4, none⟩) (Nat.le_refl _) _)
  have HO4 := Lib.hid (own_kept HO3.out hk3 fun k hv hs => by have := (HO3.out.lt k hv).1; have := HS2.out; omega)
  have HO5 := Lib.hid (own_kept (own_later HO2.out HB3.out) hk3 fun k hv hs => by have := (HO2.out.lt k hv).1; rw [HS0.out] at this; omega)
  clear y4 x4 z4 hk3 HX1 HZ1 HO1 HO2 HO3
  generalize W3.setCell ⟨w.heap.size, 4, none⟩ (.slice A3 d.last.length c3) = W4 at *
  go_wp2_with (first | (refine wpList_load_row rfl _ _ rfl w.heap.size rfl _ #[.int .i64 d.file, .int .i64 d.bytes, .int .i64 d.count, .slice A1 d.first.length c1, .slice A3 d.last.length c3, .int .u64 (d.seq : Int)] (0, 0) _ HX3.out Try.underlying41 rfl (by kernel_rfl) ?_) | (refine wpList_store_row rfl _ _ _ rfl (w.heap.size + 1) #[.int .i64 d.file, .int .i64 d.bytes, .int .i64 d.count, .slice A1 d.first.length c1, .slice A3 d.last.length c3, .int .u64 (d.seq : Int)] rfl rfl _ zrun.toArray HZ3.out (by kernel_rfl) rfl (by kernel_rfl) ?_))
  have hrz : Box (W4.setRow (w.heap.size + 1) #[.int .i64 d.file, .int .i64 d.bytes, .int .i64 d.count, .slice A1 d.first.length c1, .slice A3 d.last.length c3, .int .u64 (d.seq : Int)]) (w.heap.size + 1) 41 [.int .i64 d.file, .int .i64 d.bytes, .int .i64 d.count, .slice A1 d.first.length c1, .slice A3 d.last.length c3, .int .u64 (d.seq : Int)] := setRow_heap _ _ _ _ _ _ HZ3.out
  refine bodyPost_ret (results_one rfl Try.underlying41 rfl (by kernel_rfl) _ rfl hrz) rfl ?_
  have hk := keep_setRow W4 (w.heap.size + 1) #[.int .i64 d.file, .int .i64 d.bytes, .int .i64 d.count, .slice A1 d.first.length c1, .slice A3 d.last.length c3, .int .u64 (d.seq : Int)]
  have o1 := own_kept HO5.out hk fun k hv hs => by have := (HO5.out.lt k hv).1; rw [HS0.out] at this; omega
  have o2 := own_kept HO4.out hk fun k hv hs => by have := (HO4.out.lt k hv).1; have := HS2.out; omega
  obtain ⟨_, _, e1, hc1, hm1, -⟩ := own_parts o1
  injection e1 with ea _ ec
  subst ea; subst ec
  obtain ⟨_, _, e1, hc3, hm3, -⟩ := own_parts o2
  injection e1 with ea _ ec
  subst ea; subst ec
  refine ⟨⟨d.file, d.bytes, d.count, A1, c1, d.first, A3, c3, d.last, d.seq⟩, rfl, rfl, ⟨H.out.w0, H.out.w1, H.out.w2, (LiesP.of_own o1).later (fun _ _ => rfl) fun k hk => ⟨Nat.le_trans (by rw [HS0.out]; omega) hk.1, hk.2⟩, hc1, hm1, H.out.f8, (LiesP.of_own o2).later (fun _ _ => rfl) fun k hk => ⟨Nat.le_trans (by have := HS2.out; omega) hk.1, hk.2⟩, hc3, hm3, H.out.l8, H.out.sq⟩, below_setRow HB4.out (by omega) _⟩
end Go.Proofs.Ythhmjjmjicmhdaa.Ve
