/- The project's May. -/
import Derived.Test.YtndkehadboekbaaLo1
namespace Go.Proofs.Ytndkehadboekbaa.Bl
set_option linter.unusedVariables false
set_option linter.unusedSimpArgs false
open Go.RowKit Lift Ik Sq
attribute [local go_sem] Oper.semAt_some
theorem add_block (a : Addr) (j : Nat) : (a.add j).block = a.block := by unfold Addr.add; split <;> rfl
theorem below_two {w : World} {o o2 : Obj} : Below w.heap.size w ((w.alloc o).alloc o2) := ((Below.refl _ w).alloc (Nat.le_refl _) _).alloc (by simp) _
theorem cell_one2 (w : World) (v : Value) (t : TypeId) (v2 : Value) (t2 : TypeId) : ((w.alloc (.cells #[v] t)).alloc (.cells #[v2] t2)).cell? ⟨w.heap.size + 1, 0, none⟩ = some v2 := by
  have := (Boxed.new (w.alloc (.cells #[v] t)) t2 v2).cell
  rwa [World.size_alloc] at this
set_option maxRecDepth 100000 in
set_option maxHeartbeats 1600000 in
theorem omay_any (A1 A2 : Option Addr) (c1 c2 B : Nat) (f ky : List Nat) (w : World) (hB : B ≤ w.heap.size) (h1 : Lies w B A1 (f.map vb)) (hc1 : f.length ≤ c1) (hm1 : c1 ≤ maxLen) (f8 : ∀ x, x ∈ f → x < 256)
    (h2 : Lies w B A2 (ky.map vb)) (hc2 : ky.length ≤ c2) (hm2 : c2 ≤ maxLen) (k8 : ∀ x, x ∈ ky → x < 256) (hs : f.length ≤ 1000000) :
    Calls Try.prog 11 #[.slice A1 f.length c1, .slice A2 ky.length c2] w fun e w' => e = .returned (.bool (mayB f ky)) ∧ Below w.heap.size w w' := by
  have H1 := Lib.hid (h1.up hB)
  have H2 := Lib.hid (h2.up hB)
  have F8 := Lib.hid f8
  have K8 := Lib.hid k8
  have hhl := hsh_lt ky
  have HM2 := Lib.hid hm2
  unfold maxLen at hm1 hm2
  clear h1 h2 f8 k8
  by_cases hl2 : f.length < 2
  · have HE : Hid (mayB f ky = true) := Lib.hid (by unfold mayB; rw [decide_eq_true hl2]; rfl)
    have d1 : decide ((f.length : Int) - 1 < 1) = true := decide_eq_true (by omega)
    go_enter Try.func11, Try.ntmps11
    go_wp2_with fail
    refine ⟨rfl, .bool true, ?_, by rw [HE.out], (@below_two w _ _)⟩
    have hc5 := cell_one2 w (.slice A1 f.length c1) 25 (.bool true) 4
    simp [results, Try.f11, go_sem, hc5]
  · obtain ⟨m, hm⟩ : ∃ m, f.length = m + 1 := ⟨f.length - 1, by omega⟩
    have d1 : decide ((f.length : Int) - 1 < 1) = false := decide_eq_false (by omega)
    obtain ⟨k, hk⟩ : ∃ k, f[m]? = some k := ⟨_, List.getElem?_eq_getElem (by omega)⟩
    obtain ⟨ad, rfl, hadb, hcell⟩ := H1.out.place (by rw [List.length_map]; omega)
    have g0 := cells_at hcell m k hk
    have ei : (f.length : Int) - 1 = (m : Int) := by omega
    have g1 : ((w.alloc (.cells #[.slice (some ad) f.length c1] 25)).alloc (.cells #[.bool false] 4)).cell? (ad.add m) = some (.int .u8 (k : Int)) := (below_two.cell (by rw [add_block]; exact hadb)).trans g0
    have d5 : decide ((m : Int) < 1) = false := decide_eq_false (by omega)
    have d6 : decide (m < 1) = false := decide_eq_false (by omega)
    have hkg : f.getD (f.length - 1) 0 = k := by rw [hm, List.getD_eq_getElem?_getD, Nat.add_sub_cancel, hk]; rfl
    have hk8 := F8.out k (List.mem_of_getElem? hk)
    have hml : m < f.length := by omega
    have HM := Lib.hid hm
    have HB := Lib.hid hadb
    have HC := Lib.hid (cells_at hcell)
    by_cases hk30 : 30 < k
    · have HE : Hid (mayB f ky = true) := Lib.hid (by unfold mayB; rw [hkg, decide_eq_true hk30, Bool.true_or, Bool.or_true])
      have d2 : decide ((30 : Int) < (k : Int)) = true := decide_eq_true (by omega)
      have d3 : decide (30 < k) = true := decide_eq_true hk30
      clear hcell hk hkg hm
      go_enter Try.func11, Try.ntmps11
      go_wp2_with fail
      refine ⟨rfl, .bool true, ?_, by rw [HE.out], (@below_two w _ _)⟩
      have hc5 := cell_one2 w (.slice (some ad) f.length c1) 25 (.bool true) 4
      simp [results, Try.f11, go_sem, hc5]
    · have d2 : decide ((30 : Int) < (k : Int)) = false := decide_eq_false (by omega)
      have d3 : decide (30 < k) = false := decide_eq_false hk30
      have HE : Hid (mayB f ky = (List.range k).all fun j => on f (nth (hsh ky) (rot (hsh ky)) j % (8 * m))) := Lib.hid (by
        unfold mayB
        rw [hkg, decide_eq_false hl2, decide_eq_false hk30, Bool.false_or, Bool.false_or, show f.length - 1 = m from by omega])
      have hrl := rot_lt hhl
      have HP := Lib.hid (fun (W : World) (hW : Below w.heap.size w W) => places_any A2 c2 w.heap.size k m ky W (H2.out.below hW) hW.size hc2 HM2.out K8.out (by omega) (by omega))
      have hm0 : 0 < 8 * m := by omega
      clear hcell hk hkg hm hl2
      generalize hsh ky = h at *
      generalize rot h = d at *
      refine (callsIn_wide (n := 5)).1 ?_
      refine callsIn_of_wp_marks Try.func11 rfl trivial ?_ rfl
      simp only [Try.ntmps11, List.size_toArray, List.length_cons, List.length_nil, Nat.reduceAdd, Nat.reduceSub, Array.replicate_succ, Array.replicate_zero, List.push_toArray, List.append_toArray, List.nil_append, List.cons_append]
      gi_wp2_with fail
      refine ⟨trivial, (callsIn_wide.2 (HP.out _ below_two)).mono ?_⟩
      rintro e w' ⟨rfl, rfl⟩
      clear HP g1
      gi_wp2_with fail
      have hf0 : Boxed (four ((w.alloc (.cells #[.slice (some ad) f.length c1] 25)).alloc (.cells #[.bool false] 4)) k m h d) w.heap.size 25 (.slice (some ad) f.length c1) := by
        unfold four
        exact (((((Boxed.new w _ _).alloc _).alloc _).alloc _).alloc _).alloc _
      have hr0 : Boxed (four ((w.alloc (.cells #[.slice (some ad) f.length c1] 25)).alloc (.cells #[.bool false] 4)) k m h d) (w.heap.size + 1) 4 (.bool false) := by
        have := Boxed.new (w.alloc (.cells #[.slice (some ad) f.length c1] 25)) 4 (.bool false)
        rw [World.size_alloc] at this
        unfold four
        exact (((this.alloc _).alloc _).alloc _).alloc _
      obtain ⟨p0, p1, p2, p3, psz, pb⟩ := four_cells ((w.alloc (.cells #[.slice (some ad) f.length c1] 25)).alloc (.cells #[.bool false] 4)) k m h d
      have hb0 := below_two.trans (pb.mono (by simp; omega) : Below w.heap.size _ _)
      simp only [World.size_alloc] at p0 p1 p2 p3 psz
      generalize four ((w.alloc (.cells #[.slice (some ad) f.length c1] 25)).alloc (.cells #[.bool false] 4)) k m h d = W1 at hf0 hr0 p0 p1 p2 p3 psz pb hb0 ⊢
      have hh32 := hhl
      refine wpIn_rangeFunc_ownF rfl (by omega) (gf := 18) (lb := box4 (w.heap.size + 1 + 1)) rfl trivial (enters_of Try.func18 (by kernel_rfl) rfl)
        (pls_stops _ (w.heap.size + 1 + 1) k (8 * m) h d hm0 (by omega) (by omega) hh32 hrl (by omega) W1 (by omega) p0 p1 p2 p3) mid_t (mid_b (by omega)) (Below.refl _ _) (fun _ => rfl)
        (fun pre W => ((∀ x ∈ pre, on f x.val = true) ∧ Boxed W w.heap.size 25 (.slice (some ad) f.length c1) ∧ Boxed W (w.heap.size + 1) 4 (.bool false)) ∧ Below w.heap.size w W)
        (fun c pre W => ((c = .ret ∧ ∃ x ∈ pre, on f x.val = false) ∧ Boxed W (w.heap.size + 1) 4 (.bool false)) ∧ Below w.heap.size w W)
        (OwnFrom.and (OwnFrom.and (ownFrom_pure _ _) (OwnFrom.and (Own.from (boxed_own _ _ _) _) (Own.from (boxed_own _ _ _) _))) (ownFrom_below (Nat.le_refl _) (by omega)))
        (fun c => OwnFrom.and (OwnFrom.and (ownFrom_pure _ _) (Own.from (boxed_own _ _ _) _)) (ownFrom_below (Nat.le_refl _) (by omega)))
        ⟨⟨by simp, hf0, hr0⟩, hb0⟩
        (fun x => { tmps := #[Value.slice (some ad) f.length c1, Value.slice A2 ky.length c2,
              Value.pointer (some { block := w.heap.size, off := 0 }), undef,
              Value.pointer (some { block := w.heap.size + 1, off := 0 }), Value.int IntKind.i64 ↑m, Value.int .u64 (x.val : Int),
              Value.slice (some ad) f.length c1, Value.int IntKind.i64 ↑f.length, Value.int IntKind.i64 ↑m,
              Value.int IntKind.i64 ↑m, Value.bool false, Value.bool false, Value.slice (some ad) f.length c1,
              Value.int IntKind.i64 ↑m, Value.pointer (some (ad.add m)), Value.int IntKind.u8 ↑k, Value.bool false,
              Value.bool false, Value.slice A2 ky.length c2, Value.slice (some ad) f.length c1, Value.int IntKind.i64 ↑m,
              Value.pointer (some (ad.add m)), Value.int IntKind.u8 ↑k, Value.int IntKind.i64 ↑k, Value.int IntKind.i64 ↑m,
              Value.func (Fn.func 18) #[] (box4 (w.heap.size + 1 + 1)), Value.int .u64 (x.val : Int), undef, undef, undef, undef, undef, undef,
              undef, undef, undef, undef], defers := [] }) ?assign ?body ?done ?stop
      case assign =>
        intro l x W K hK
        gi_wp2
        exact hK
      case body =>
        rintro l pre x W ⟨⟨hp, hbf, hbr⟩, hB⟩ _
        obtain ⟨X, hXm⟩ := x
        dsimp only
        obtain ⟨b, hb⟩ : ∃ b, f[X / 8]? = some b := ⟨_, List.getElem?_eq_getElem (by have := HM.out; omega)⟩
        obtain ⟨Y, hY⟩ : ∃ Y, Y = X / 8 := ⟨_, rfl⟩
        obtain ⟨Z, hZ⟩ : ∃ Z, Z = X % 8 := ⟨_, rfl⟩
        have q1 : (X : Int) / 8 = (Y : Int) := by omega
        have q2 : (X : Int) % 8 = (Z : Int) := by omega
        have hYl : Y < f.length := by have := HM.out; omega
        have hZ8 : Z < 8 := by omega
        have g5 := (hB.cell (p := ad.add (X / 8)) (by rw [add_block]; exact HB.out)).trans (HC.out _ b hb)
        have b8 := F8.out b (List.mem_of_getElem? hb)
        rw [← hY] at g5
        have HO2 : Hid (on f X = b.testBit Z) := Lib.hid (by
          unfold on
          rw [List.getD_eq_getElem?_getD, hb, hZ]
          rfl)
        have e8 := bit_int (z := Z) b8
        have cf := hbf.cell
        have cr := hbr.cell
        have fr := hbr.frozen
        have HP := Lib.hid hp
        have HBF := Lib.hid hbf
        have HBR := Lib.hid hbr
        clear hb hY hZ hp p0 p1 p2 p3 pb
        cases ht : b.testBit Z
        · rw [ht] at e8
          have e10 : bits .and .u8 ((b : Int) / 2 ^ Z) 1 = 0 := e8
          have HT := Lib.hid ht
          clear e8 ht
          gi_wp2_with fail
          exact ⟨KeepsOthers.setCell _ _ _, ⟨⟨rfl, ⟨⟨X, hXm⟩, List.mem_append.2 (.inr (by simp)), by rw [HO2.out, HT.out]⟩⟩, HBR.out.set _⟩, hB.setCell (p := ⟨w.heap.size + 1, 0, none⟩) (Nat.le_succ _) _⟩
        · rw [ht] at e8
          have e10 : bits .and .u8 ((b : Int) / 2 ^ Z) 1 = 1 := e8
          have HT := Lib.hid ht
          clear e8 ht
          gi_wp2_with fail
          refine ⟨KeepsOthers.refl _, mid_refl _ _ _, ⟨fun y hy => ?_, HBF.out, HBR.out⟩, hB⟩
          rcases List.mem_append.1 hy with e | e
          · exact HP.out y e
          · simp at e
            rw [e, HO2.out, HT.out]
      case done =>
        rintro D ys W hD rfl ⟨⟨hp, hbf, hbr⟩, hB⟩ hK
        have cr := hbr.cell
        have fr := hbr.frozen
        have HF : Hid (mayB f ky = true) := Lib.hid (by
          rw [HE.out, List.all_eq_true]
          intro i hi
          exact hp ⟨nth h d i % (8 * m), Nat.mod_lt _ hm0⟩ (by unfold pls; exact List.mem_map.2 ⟨i, hi, rfl⟩))
        have HK := Lib.hid hK
        clear hp p0 p1 p2 p3 pb
        gi_wp2_with fail
        have hK' := (KeepsOthers.setCell W ⟨w.heap.size + 1, 0, none⟩ (.bool true)).same D _ HK.out rfl
        refine ⟨by simp, .inl ⟨_, _, rfl, run_takeDeferred hK', ?_⟩⟩
        have hc5 := cell_kept (World.cell?_setCell_same' W ⟨w.heap.size + 1, 0, none⟩ (.bool true) (by rw [cr]; rfl)) (grownBy_putObj' _ D (.deferred none)) (fun r e => by cases e; exact ⟨_, hK', rfl⟩)
        refine ⟨.bool true, ?_, by rw [HF.out], (hB.setCell (p := ⟨w.heap.size + 1, 0, none⟩) (Nat.le_succ _) _).trans (belowK_b (w := w) (Nat.le_refl _) _ D _ _ (by omega) hK' rfl rfl)⟩
        simp [results, Try.f11, go_sem, hc5]
      case stop =>
        rintro D c pre W hD hpre ⟨⟨⟨rfl, x, hx, hxo⟩, hbr⟩, hB⟩ hK
        have HF : Hid (mayB f ky = false) := Lib.hid (by
          have hin := hpre.subset hx
          unfold pls at hin
          obtain ⟨j, hj, rfl⟩ := List.mem_map.1 hin
          rw [HE.out, List.all_eq_false]
          exact ⟨j, hj, by rw [show on f (nth h d j % (8 * m)) = false from hxo]; decide⟩)
        have HK := Lib.hid hK
        have HBR := Lib.hid hbr
        clear hx hxo hpre p0 p1 p2 p3 pb
        gi_wp2_with fail
        refine ⟨by simp, .inl ⟨_, _, rfl, run_takeDeferred HK.out, ?_⟩⟩
        have hc5 := cell_kept HBR.out.cell (grownBy_putObj' _ D (.deferred none)) (fun r e => by cases e; exact ⟨_, HK.out, rfl⟩)
        refine ⟨.bool false, ?_, by rw [HF.out], hB.trans (belowK_b (w := w) (Nat.le_refl _) W D _ _ (by omega) HK.out rfl rfl)⟩
        simp [results, Try.f11, go_sem, hc5]
end Go.Proofs.Ytndkehadboekbaa.Bl
