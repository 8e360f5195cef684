/- The project's Build. -/
import Derived.Test.YtndkehadboekbaaLo2
import Derived.Lib.MinMax
namespace Go.Proofs.Ytndkehadboekbaa.Bl
set_option linter.unusedVariables false
set_option linter.unusedSimpArgs false
open Go.RowKit Lift Ik Sq
attribute [local go_sem] Oper.semAt_some
/-- Bits set one after the other. -/
def setA {m : Nat} (f : List Nat) (pre : List (Fin m)) : List Nat := pre.foldl (fun f x => setB f x.val) f
theorem setA_one {m : Nat} (f : List Nat) (pre : List (Fin m)) (x : Fin m) : setA f (pre ++ [x]) = setB (setA f pre) x.val := by unfold setA; rw [List.foldl_append, List.foldl_cons, List.foldl_nil]
theorem setA_pls {m : Nat} (f : List Nat) (h d : Nat) (hm : 0 < m) : ∀ k, setA f (pls m k h d hm) = addN m f h d k
  | 0 => rfl
  | k + 1 => by
    have e : pls m (k + 1) h d hm = pls m k h d hm ++ [⟨nth h d k % m, Nat.mod_lt _ hm⟩] := by unfold pls; rw [List.range_succ, List.map_append]; rfl
    rw [e, setA_one, setA_pls f h d hm k]
    rfl
theorem setA_len {m : Nat} (f : List Nat) (pre : List (Fin m)) : (setA f pre).length = f.length := by
  unfold setA
  induction pre generalizing f with
  | nil => rfl
  | cons x pre ih => rw [List.foldl_cons, ih, setB_len]
theorem setA_byte {m : Nat} {f : List Nat} (pre : List (Fin m)) (h : ∀ c, c ∈ f → c < 256) : ∀ c, c ∈ setA f pre → c < 256 := by
  unfold setA
  induction pre generalizing f with
  | nil => exact h
  | cons x pre ih => rw [List.foldl_cons]; exact ih (setB_byte h)
theorem mid_set {lo hi g : Nat} (W : World) (j : Nat) (v : Value) (h : g < lo) : Mid lo hi W (W.setCell ⟨g, j, none⟩ v) := fun p h1 h2 => by
  have := Below.heap_setCell W ⟨g, j, none⟩ v p.block (by show p.block ≠ g; omega)
  unfold World.cell?
  rw [this]
theorem own_row {β : Type} (base size n : Nat) (e : TypeId) (v : Value) (f : β → List Value) : Own (fun s W => W.ownsRow base e size v n (f s)) := fun s X Y row hr hg hrow => by
  refine hr.kept hg ?_
  rcases hr.2 with ⟨rfl, _⟩ | ⟨g, cap, cur, rfl, _, hgb, _⟩
  · exact .inl rfl
  · refine .inr fun e' => ?_
    obtain ⟨o, ho, hc⟩ := hrow g (by simpa [Value.ownBlock] using e'.symm)
    rw [hgb] at ho; cases ho; cases hc
theorem marks_own {β : Type} {B b : Nat} {Ds : List Nat} (h : ∀ D, D ∈ Ds → D < B) : OwnFrom B (fun (_ : β) W => ∀ D, D ∈ Ds → b ≤ D ∧ W.heap[D]? = some (.deferred (some []))) := fun s X Y row hs hg hr D hD =>
  ⟨(hs D hD).1, (hg.block D (Array.getElem?_eq_some_iff.1 (hs D hD).2).1 (fun e => by obtain ⟨h1, _⟩ := hr D e.symm; have := h D hD; omega)).trans (hs D hD).2⟩
/-- A frame on its way out takes up all its marks. -/
abbrev mark (D : Nat) : Deferred := { target := .collected D, args := #[] }
theorem leave_all {F : Fence} {n B : Nat} {P : Program} {fn : Func} {tmps : Array Value} {R : Ending → World → Prop} (G : World → Prop)
    (hG : ∀ W D, B ≤ D → W.heap[D]? = some (.deferred (some [])) → G W → G (W.putObj D (.deferred none))) (hR : ∀ W, G W → LeavesIn F n P fn tmps R [] .returning W) :
    ∀ (Ds : List Nat) (W : World), Ds.Nodup → (∀ D, D ∈ Ds → B ≤ D ∧ W.heap[D]? = some (.deferred (some []))) → G W → LeavesInM F n P fn tmps R (Ds.map mark) .returning W
  | [], W, _, _, h => hR W h
  | D :: Ds, W, hn, hD, h => by
    obtain ⟨h1, h2⟩ := hD D (List.mem_cons_self ..)
    have hn' := List.nodup_cons.1 hn
    refine ⟨by simp, .inl ⟨D, _, rfl, run_takeDeferred h2, leave_all G hG hR Ds _ hn'.2 (fun D' hm => ?_) (hG W D h1 h2 h)⟩⟩
    obtain ⟨h3, h4⟩ := hD D' (List.mem_cons_of_mem _ hm)
    exact ⟨h3, (World.putObj_heap_other (fun e => hn'.1 (by cases e; exact hm))).trans h4⟩
set_option maxRecDepth 100000 in
set_option maxHeartbeats 3200000 in
theorem obloom_any (A : Option Addr) (c B : Nat) (L : List E) (bits' : Int) (w : World) (hl : Seqs w B A c L) (hB : B ≤ w.heap.size) (hn : L.length ≤ 1000000) :
    Calls Try.prog 9 #[.slice A L.length c, .int .i64 bits'] w (Made w.heap.size w (bloomB (L.map E.bs) (clampB bits'))) := by
  have HS := Lib.hid (hl.up hB)
  have hc := hl.len
  have hm := hl.cap
  unfold maxLen at hm
  have hlen : (L.map E.bs).length = L.length := List.length_map ..
  obtain ⟨be, hbe⟩ : ∃ be, be = clampB bits' := ⟨_, rfl⟩
  have hbi := clampB_in bits'
  rw [← hbe] at hbi ⊢
  obtain ⟨b1, b2⟩ := hbi
  have eb1 : min (max bits' 1) 40 = (be : Int) := by rw [hbe]; unfold clampB; omega
  have e69 : (be : Int) * 69 / 100 = ((be * 69 / 100 : Nat) : Int) := by omega
  have hk0 : min (max ((be * 69 / 100 : Nat) : Int) 1) 30 = ((kOf be : Nat) : Int) := by unfold kOf; omega
  have hki := kOf_in be
  have hmi := mOf_in (L.map E.bs).length be
  unfold bloomB
  rw [hlen] at hmi ⊢
  have hPb : L.length * be ≤ 40000000 := Nat.le_trans (Nat.mul_le_mul hn b2) (by decide)
  obtain ⟨P, hP⟩ : ∃ P, P = L.length * be := ⟨_, rfl⟩
  rw [← hP] at hPb
  have eP : (L.length : Int) * (be : Int) = (P : Int) := by rw [hP]; exact (Int.natCast_mul _ _).symm
  have hM : mOf L.length be = (max P 64 + 7) / 8 * 8 := by unfold mOf; rw [hP]
  clear hl
  have HLEN := Lib.hid hlen
  clear hlen hbe
  generalize kOf be = k at *
  generalize hQ : be * 69 / 100 = Q at *
  generalize mOf L.length be = m at *
  obtain ⟨n8, hn8⟩ : ∃ n8, m / 8 = n8 := ⟨_, rfl⟩
  rw [hn8]
  obtain ⟨k1, k2⟩ := hki
  obtain ⟨m1, m2⟩ := hmi
  have hm4 : m ≤ 50000000 := by omega
  have en8 : (max (P : Int) 64 + 8 - 1) / 8 = (n8 : Int) := by omega
  have eR : max (P : Int) 64 = ((max P 64 : Nat) : Int) := by omega
  have hmn : m = 8 * n8 := by omega
  have hR : max P 64 ≤ 50000000 := by omega
  generalize max P 64 = R at *
  rw [eR] at en8
  have en9 : ((R : Int) + 8 - 1) / 8 = (n8 : Int) := en8
  have HMN := Lib.hid hmn
  have HQ := Lib.hid hQ
  have HPL := Lib.hid hP
  have hqb : Q ≤ 100 := by omega
  have hn8b : n8 ≤ 10000000 := by omega
  clear hQ hP hmn m2 hM hn8 en8
  obtain ⟨hrun, hown0⟩ := make_own (n8 + 1) (by omega) w
  rw [show ((n8 + 1 : Nat) : Int) = (n8 : Int) + 1 from by omega] at hrun
  rw [List.length_replicate] at hown0
  have hown1 := hown0.alloc (.cells #[.slice (some ⟨w.heap.size, 0, none⟩) (n8 + 1) (n8 + 1)] 25)
  have hbx := Boxed.new (w.alloc (.cells (madeCells #[.int .u8 0] (n8 + 1)) 5)) 25 (.slice (some ⟨w.heap.size, 0, none⟩) (n8 + 1) (n8 + 1))
  rw [World.size_alloc] at hbx
  have cb := hbx.cell
  have g1 := hown1.cells (g := w.heap.size) rfl n8 (vb 0) (by rw [List.getElem?_map, List.getElem?_replicate, if_pos (Nat.lt_succ_self _)]; rfl)
  rw [add_zero_at] at g1
  have g2 := own_free hown1 n8
  have k256 : k < 256 := by omega
  have ek : IntKind.u8.wrap (k : Int) = (k : Int) := by rw [IntKind.wrap_u8]; omega
  have HOWN := Lib.hid hown1
  have HBX := Lib.hid hbx
  clear hown0 hown1 hbx
  refine (callsIn_wide (n := 6)).1 ?_
  refine callsIn_of_wp_marks Try.func9 rfl trivial ?_ rfl
  simp only [Try.ntmps9, List.size_toArray, List.length_cons, List.length_nil, Nat.reduceAdd, Nat.reduceSub, Array.replicate_succ, Array.replicate_zero, List.push_toArray, List.append_toArray, List.nil_append, List.cons_append]
  gi_wp2_with fail
  rw [en9]
  have hown2 := own_put (j := n8) (u := vb k) HOWN.out (by simp)
  have hbox2 := HBX.out
  have hb2 : Below w.heap.size w ((w.alloc (.cells ((madeCells #[.int .u8 0] (n8 + 1)).setIfInBounds n8 (.int .u8 (k : Int))) 5)).alloc (.cells #[.slice (some ⟨w.heap.size, 0, none⟩) (n8 + 1) (n8 + 1)] 25)) := below_two
  have hW : (((w.alloc (.cells (madeCells #[.int .u8 0] (n8 + 1)) 5)).alloc (.cells #[.slice (some ⟨w.heap.size, 0, none⟩) (n8 + 1) (n8 + 1)] 25)).setCell ⟨w.heap.size, n8, none⟩ (vb k)) =
      (w.alloc (.cells ((madeCells #[.int .u8 0] (n8 + 1)).setIfInBounds n8 (.int .u8 (k : Int))) 5)).alloc (.cells #[.slice (some ⟨w.heap.size, 0, none⟩) (n8 + 1) (n8 + 1)] 25) := by simp [go_sem, vb]
  have hbox3 : Boxed (((w.alloc (.cells (madeCells #[.int .u8 0] (n8 + 1)) 5)).alloc (.cells #[.slice (some ⟨w.heap.size, 0, none⟩) (n8 + 1) (n8 + 1)] 25)).setCell ⟨w.heap.size, n8, none⟩ (vb k)) (w.heap.size + 1) 25 (.slice (some ⟨w.heap.size, 0, none⟩) (n8 + 1) (n8 + 1)) :=
    (Below.heap_setCell _ _ _ _ (by simp)).trans hbox2
  rw [hW] at hown2 hbox3
  rw [show (List.map vb (List.replicate (n8 + 1) 0)).set n8 (vb k) = ((addA m k (zeroB n8) ((L.map E.bs).take 0)) ++ [k]).map vb from by
    show _ = (zeroB n8 ++ [k]).map vb
    unfold zeroB
    rw [← List.map_set, List.replicate_succ', List.set_append_right _ _ (by rw [List.length_replicate]; exact Nat.le_refl _), List.length_replicate, Nat.sub_self, List.set_cons_zero]] at hown2
  have HO0 := Lib.hid hown2
  have HX0 := Lib.hid hbox3
  have HB0 := Lib.hid hb2
  clear hown2 hbox2 hbox3 hb2 hW HOWN HBX hrun cb g1 g2 eb1 en9 e69 hk0 eP eR
  generalize (w.alloc (.cells ((madeCells #[.int .u8 0] (n8 + 1)).setIfInBounds n8 (.int .u8 (k : Int))) 5)).alloc (.cells #[.slice (some ⟨w.heap.size, 0, none⟩) (n8 + 1) (n8 + 1)] 25) = W0 at HO0 HX0 HB0 ⊢
  refine wpIn_loop (fun a' wr => ∃ (u9 u10 u37 u38 u39 u40 u41 u42 u43 u44 u45 u46 u47 u48 u49 u50 u51 u52 u53 u54 u55 u56 : Value) (n : Nat) (Ds : List Nat), (n ≤ L.length ∧ u37 = .int .i64 (n : Int) ∧ Hid (wr.ownsRow w.heap.size 5 1 (.slice (some ⟨w.heap.size, 0, none⟩) (n8 + 1) (n8 + 1)) (n8 + 1) (((addA m k (zeroB n8) ((L.map E.bs).take n)) ++ [k]).map vb)) ∧ Hid (Boxed wr (w.heap.size + 1) 25 (.slice (some ⟨w.heap.size, 0, none⟩) (n8 + 1) (n8 + 1))) ∧ Hid (Below w.heap.size w wr) ∧ Hid (Ds.Nodup) ∧ Hid (∀ D, D ∈ Ds → w.heap.size ≤ D ∧ wr.heap[D]? = some (.deferred (some [])))) ∧
      a' = { tmps := #[Value.slice A L.length c, Value.int IntKind.i64 ↑be, undef, undef, Value.slice none 0 0, Value.int IntKind.i64 ↑k, Value.int IntKind.i64 ↑n8, Value.pointer (some { block := w.heap.size + 1, off := 0 }), undef, u9, u10, Value.int IntKind.i64 bits', Value.int IntKind.i64 (max bits' 1), Value.int IntKind.i64 ↑be, Value.int IntKind.i64 ↑be, Value.int IntKind.i64 (↑be * 69), Value.int IntKind.i64 (↑be * 69 / 100), Value.int IntKind.i64 (max (↑Q) 1), Value.int IntKind.i64 ↑k, Value.slice A L.length c, Value.int IntKind.i64 ↑L.length, Value.int IntKind.i64 ↑be, Value.int IntKind.i64 ↑P, Value.int IntKind.i64 ↑R, Value.int IntKind.i64 (↑R + 8), Value.int IntKind.i64 (↑R + 8 - 1), Value.int IntKind.i64 ↑n8, Value.int IntKind.i64 ↑n8, Value.int IntKind.i64 (↑n8 + 1), Value.slice (some { block := w.heap.size, off := 0 }) (n8 + 1) (n8 + 1), Value.slice (some { block := w.heap.size, off := 0 }) (n8 + 1) (n8 + 1), Value.int IntKind.i64 ↑n8, Value.int IntKind.i64 ↑k, Value.int IntKind.u8 ↑k, Value.pointer (some { block := w.heap.size, off := n8 }), Value.slice A L.length c, Value.int IntKind.i64 ↑L.length, u37, u38, u39, u40, u41, u42, u43, u44, u45, u46, u47, u48, u49, u50, u51, u52, u53, u54, u55, u56, undef], defers := Ds.map mark }) (fun a' _ => L.length + 1 - (intOf (a'.tmps.getD 37 undef)).toNat) ?start ?round
  case start => exact ⟨_, _, _, _, _, _, _, _, _, _, _, _, _, _, _, _, _, _, _, _, _, _, 0, [], ⟨Nat.zero_le _, rfl, HO0, HX0, HB0, Lib.hid List.nodup_nil, Lib.hid (fun D hD => by cases hD)⟩, rfl⟩
  case round =>
    rintro a' wr ⟨u9, u10, u37, u38, u39, u40, u41, u42, u43, u44, u45, u46, u47, u48, u49, u50, u51, u52, u53, u54, u55, u56, n, Ds, ⟨hn', rfl, hown, hbox, hb, hnd, hds⟩, rfl⟩
    by_cases hlt : n < L.length
    · obtain ⟨e, he⟩ : ∃ e, L[n]? = some e := ⟨_, List.getElem?_eq_getElem hlt⟩
      obtain ⟨ad, hA, -, hp⟩ := (HS.out.below hb.out).place he
      subst hA
      have hok := (HS.out.below hb.out).ok e (List.mem_of_getElem? he)
      have HP := Lib.hid (places_any e.a e.c w.heap.size k n8 e.bs wr hok.lies hb.out.size hok.cap hok.max hok.byte (by omega) (by omega))
      have hhl := hsh_lt e.bs
      have hrl := rot_lt hhl
      have HNX : Hid (addA m k (zeroB n8) ((L.map E.bs).take (n + 1)) = addN m (addA m k (zeroB n8) ((L.map E.bs).take n)) (hsh e.bs) (rot (hsh e.bs)) k) := Lib.hid (addA_next (by rw [List.getElem?_map, he]; rfl))
      have HF8 : Hid (∀ x, x ∈ addA m k (zeroB n8) ((L.map E.bs).take n) → x < 256) := Lib.hid (addA_byte _ _ fun c hc => by
        unfold zeroB at hc
        rw [List.mem_replicate] at hc
        omega)
      have HFL : Hid ((addA m k (zeroB n8) ((L.map E.bs).take n)).length = n8) := Lib.hid (by rw [addA_len]; simp [zeroB])
      generalize addA m k (zeroB n8) ((L.map E.bs).take n) = F at *
      generalize hsh e.bs = h at *
      generalize rot h = d at *
      clear hok he
      gi_wp2_with fail
      refine ⟨trivial, (callsIn_wide.2 HP.out).mono ?_⟩
      rintro e' w' ⟨rfl, rfl⟩
      clear HP hp
      gi_wp2_with fail
      obtain ⟨p0, p1, p2, p3, psz, pb⟩ := four_cells wr k n8 h d
      have hbx1 : Boxed (four wr k n8 h d) (w.heap.size + 1) 25 (.slice (some ⟨w.heap.size, 0, none⟩) (n8 + 1) (n8 + 1)) := by
        unfold four
        exact (((hbox.out.alloc _).alloc _).alloc _).alloc _
      have hown1 : (four wr k n8 h d).ownsRow w.heap.size 5 1 (.slice (some ⟨w.heap.size, 0, none⟩) (n8 + 1) (n8 + 1)) (n8 + 1) ((F ++ [k]).map vb) := by
        unfold four
        exact (((hown.out.alloc _).alloc _).alloc _).alloc _
      have hds1 : ∀ D, D ∈ Ds → w.heap.size ≤ D ∧ (four wr k n8 h d).heap[D]? = some (.deferred (some [])) := fun D hD => ⟨(hds.out D hD).1, (pb.block D (Array.getElem?_eq_some_iff.1 (hds.out D hD).2).1).trans (hds.out D hD).2⟩
      have hb1 := hb.out.trans (pb.mono hb.out.size)
      have hlo : w.heap.size + 1 < wr.heap.size := hbox.out.lt
      rw [← HMN.out] at p1
      have hm0 : 0 < m := by omega
      have HLO := Lib.hid hlo
      generalize wr.heap.size = lo at *
      generalize four wr k n8 h d = W1 at *
      have hn8p : 0 < n8 := by have := HMN.out; omega
      refine wpIn_rangeFunc_ownF rfl (by omega) (gf := 18) (lb := box4 lo) rfl trivial (enters_of Try.func18 (by kernel_rfl) rfl)
        (pls_stops _ lo k m h d hm0 (by omega) (by omega) hhl hrl (by omega) W1 (by omega) p0 p1 p2 p3) mid_t (mid_b (by omega)) (Below.refl _ _) (fun _ => rfl)
        (fun pre W => (W.ownsRow w.heap.size 5 1 (.slice (some ⟨w.heap.size, 0, none⟩) (n8 + 1) (n8 + 1)) (n8 + 1) (((setA F pre) ++ [k]).map vb) ∧ Boxed W (w.heap.size + 1) 25 (.slice (some ⟨w.heap.size, 0, none⟩) (n8 + 1) (n8 + 1)) ∧ ∀ D, D ∈ Ds → w.heap.size ≤ D ∧ W.heap[D]? = some (.deferred (some []))) ∧ Below w.heap.size w W)
        (fun _ _ _ => False)
        (OwnFrom.and (OwnFrom.and (Own.from (own_row w.heap.size 1 (n8 + 1) 5 (.slice (some ⟨w.heap.size, 0, none⟩) (n8 + 1) (n8 + 1)) (fun pre => (setA F pre ++ [k]).map vb)) _) (OwnFrom.and (Own.from (boxed_own _ _ _) _) (marks_own (fun D hD => (Array.getElem?_eq_some_iff.1 (hds1 D hD).2).1)))) (ownFrom_below (Nat.le_refl _) hb1.size))
        (fun _ _ _ _ _ hs _ _ => hs)
        ⟨⟨hown1, hbx1, hds1⟩, hb1⟩
        (fun x => { tmps := #[Value.slice (some ad) L.length c, Value.int IntKind.i64 ↑be, undef, undef, Value.slice none 0 0, Value.int IntKind.i64 ↑k, Value.int IntKind.i64 ↑n8, Value.pointer (some { block := w.heap.size + 1, off := 0 }), undef, Value.slice e.a e.bs.length e.c, Value.int .u64 (x.val : Int), Value.int IntKind.i64 bits', Value.int IntKind.i64 (max bits' 1), Value.int IntKind.i64 ↑be, Value.int IntKind.i64 ↑be, Value.int IntKind.i64 (↑be * 69), Value.int IntKind.i64 (↑be * 69 / 100), Value.int IntKind.i64 (max (↑Q) 1), Value.int IntKind.i64 ↑k, Value.slice (some ad) L.length c, Value.int IntKind.i64 ↑L.length, Value.int IntKind.i64 ↑be, Value.int IntKind.i64 ↑P, Value.int IntKind.i64 ↑R, Value.int IntKind.i64 (↑R + 8), Value.int IntKind.i64 (↑R + 8 - 1), Value.int IntKind.i64 ↑n8, Value.int IntKind.i64 ↑n8, Value.int IntKind.i64 (↑n8 + 1), Value.slice (some { block := w.heap.size, off := 0 }) (n8 + 1) (n8 + 1), Value.slice (some { block := w.heap.size, off := 0 }) (n8 + 1) (n8 + 1), Value.int IntKind.i64 ↑n8, Value.int IntKind.i64 ↑k, Value.int IntKind.u8 ↑k, Value.pointer (some { block := w.heap.size, off := n8 }), Value.slice (some ad) L.length c, Value.int IntKind.i64 ↑L.length, Value.int IntKind.i64 ↑n, Value.bool true, Value.pointer (some (ad.add n)), Value.slice e.a e.bs.length e.c, Value.slice e.a e.bs.length e.c, Value.int IntKind.i64 ↑k, Value.int IntKind.i64 ↑n8, Value.func (Fn.func 18) #[] (box4 lo), Value.int .u64 (x.val : Int), u46, u47, u48, u49, u50, u51, u52, u53, u54, u55, u56, undef], defers := [] }) ?assign ?body ?done ?stop
      case assign =>
        intro l x W K hK
        gi_wp2
        exact hK
      case body =>
        rintro l pre x W ⟨⟨hO, hX, hD⟩, hB⟩ _
        obtain ⟨X, hXm⟩ := x
        dsimp only
        have hl8 : (setA F pre).length = n8 := by rw [setA_len]; exact HFL.out
        obtain ⟨b, hb'⟩ : ∃ b, (setA F pre)[X / 8]? = some b := ⟨_, List.getElem?_eq_getElem (by have := HMN.out; omega)⟩
        obtain ⟨Y, hY⟩ : ∃ Y, Y = X / 8 := ⟨_, rfl⟩
        obtain ⟨Z, hZ⟩ : ∃ Z, Z = X % 8 := ⟨_, rfl⟩
        have q1 : (X : Int) / 8 = (Y : Int) := by omega
        have q2 : (X : Int) % 8 = (Z : Int) := by omega
        have hYl : Y < n8 := by have := HMN.out; omega
        have hYl' : Y < n8 + 1 := by omega
        have hZ8 : Z < 8 := by omega
        have b8 := setA_byte pre HF8.out b (List.mem_of_getElem? hb')
        rw [← hY] at hb'
        have g1 := hO.cells (g := w.heap.size) rfl Y (vb b) (by rw [List.getElem?_map, List.getElem?_append_left (by omega), hb']; rfl)
        rw [add_zero_at] at g1
        have g2 := own_free hO Y
        have e8 := set_int b8 hZ8
        have cb := hX.cell
        have hO2 := own_put (j := Y) (u := vb (b ||| 2 ^ Z)) hO (by rw [List.length_map, List.length_append, hl8, List.length_singleton]; exact hYl')
        have hrow : ((setA F pre ++ [k]).map vb).set Y (vb (b ||| 2 ^ Z)) = ((setA F (pre ++ [⟨X, hXm⟩]) ++ [k]).map vb) := by
          rw [setA_one, ← List.map_set, List.set_append_left _ _ (by omega)]
          unfold setB
          rw [← hY, ← hZ, List.getD_eq_getElem?_getD, hb']
          rfl
        rw [hrow] at hO2
        have HO2 := Lib.hid hO2
        have HX := Lib.hid hX
        have HD := Lib.hid hD
        clear hO2 hrow hO hX hD hb' hY hZ hl8 p0 p1 p2 p3 pb hown1 hbx1 hds1
        gi_wp2_with fail
        exact ⟨KeepsOthers.setCell _ _ _, mid_set _ _ _ (by have := HLO.out; omega), ⟨HO2.out, (Below.heap_setCell _ _ _ _ (by simp)).trans HX.out, fun D hD => ⟨(HD.out D hD).1, (KeepsOthers.setCell W _ _).same D _ (HD.out D hD).2 rfl⟩⟩, hB.setCell (p := ⟨w.heap.size, Y, none⟩) (Nat.le_refl _) _⟩
      case done =>
        rintro D ys W hD rfl ⟨⟨hO, hX, hM⟩, hB⟩ hK
        rw [setA_pls, ← HNX.out] at hO
        have HO := Lib.hid hO
        have HX := Lib.hid hX
        have HB := Lib.hid hB
        have HND : Hid ((D :: Ds).Nodup) := Lib.hid (List.nodup_cons.2 ⟨fun hm => by have := (Array.getElem?_eq_some_iff.1 (hds1 D hm).2).1; omega, hnd.out⟩)
        have HDS : Hid (∀ D', D' ∈ D :: Ds → w.heap.size ≤ D' ∧ W.heap[D']? = some (.deferred (some []))) := Lib.hid (fun D' hm => by
          rcases List.mem_cons.1 hm with rfl | h2
          · exact ⟨Nat.le_trans hb1.size hD, hK⟩
          · exact hM D' h2)
        clear hO hX hM hK hB hown1 hbx1 hds1 p0 p1 p2 p3 pb
        gi_wp2_with fail
        refine ⟨⟨_, _, _, _, _, _, _, _, _, _, _, _, _, _, _, _, _, _, _, _, _, _, n + 1, D :: Ds, ⟨by omega, ?_, HO, HX, HB, HND, HDS⟩, rfl⟩, ?_⟩
        · go_num
        · simp [intOf]; omega
      case stop =>
        rintro D c pre W _ _ h _
        exact h.elim
    · obtain rfl : n = L.length := by omega
      have hall : (L.map E.bs).take L.length = L.map E.bs := List.take_of_length_le (by rw [HLEN.out]; exact Nat.le_refl _)
      rw [hall] at hown
      have HFL : Hid ((addA m k (zeroB n8) (L.map E.bs)).length = n8) := Lib.hid (by rw [addA_len]; simp [zeroB])
      clear hall
      generalize addA m k (zeroB n8) (L.map E.bs) = F at *
      have cb := hbox.out.cell
      gi_wp2_with fail
      refine leave_all (B := w.heap.size) (fun W => W.ownsRow w.heap.size 5 1 (.slice (some ⟨w.heap.size, 0, none⟩) (n8 + 1) (n8 + 1)) (n8 + 1) ((F ++ [k]).map vb) ∧ Below w.heap.size w W) (fun W D hD hK hG => ⟨ownsRow_putObj hG.1 _ hK rfl, hG.2.trans (belowK_b (w := w) (Nat.le_refl _) W D _ _ hD hK rfl rfl)⟩) (fun W hG => ?_) Ds wr hnd.out hds.out ⟨hown.out, hb.out⟩
      refine ⟨_, results_tmp rfl _ _ _, _, rfl, ?_, hG.2⟩
      have := hG.1
      rw [show (F ++ [k]).length = n8 + 1 from by rw [List.length_append, HFL.out]; rfl]
      exact this
end Go.Proofs.Ytndkehadboekbaa.Bl
