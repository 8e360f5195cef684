/- A call on both disks, Do of butterylaw6: Append, with the bytes overwritten behind it; and every way. -/
import Derived.Test.YtnbknihaefkllaaDdob
import Derived.Test.YtnbknihaefkllaaOwn
import Derived.Laws.BitsAllLaws
namespace Go.Proofs.Ytnbknihaefkllaa.Dl
set_option linter.unusedVariables false
set_option linter.unusedSimpArgs false
open Go.RowKit Go.Maps Lift Ik
open Dk (MS FM hit hit_fs hit_failed sizeM readM syncM appendM crashM renameM onFile num_any run_str)
open Rk (RTold removeM own_set)
section
theorem own_some {w : World} {base n c size : Nat} {A : Option Addr} {e : TypeId} {xs : List Value} (h : w.ownsRow base e size (.slice A n c) n xs) (hn : 0 < n) : ∃ gb, A = some ⟨gb, 0, none⟩ := by
  rcases h.2 with ⟨h0, h1⟩ | ⟨g, cap, cur, hv, _⟩
  · omega
  · injection hv with e1
    exact ⟨g, e1⟩
theorem own_at {w : World} {base n c size gb j : Nat} {e : TypeId} {xs : List Value} {u : Value} (h : w.ownsRow base e size (.slice (some ⟨gb, 0, none⟩) n c) n xs) (hj : xs[j]? = some u) : w.cell? ⟨gb, j, none⟩ = some u ∧ w.frozen? ⟨gb, j, none⟩ = false := by
  rcases h.2 with ⟨h0, _⟩ | ⟨g, cap, cur, hv, hB, hh, h1, h2, h3, h4⟩
  · cases h0
  · injection hv with e1 e2 e3
    injection e1 with e1
    injection e1 with e1
    subst e1
    refine ⟨(cell_of_row w gb j _ _ _ hh).trans ?_, frozen_of_row w gb j _ _ hh⟩
    rw [← h4, List.getElem?_take] at hj
    split at hj
    · simpa using hj
    · cases hj
variable {B g gr go : Nat} {w0 w : World} {S Sr So : Nat → Prop} {m mo : MS} {rm : Int}
set_option maxRecDepth 100000 in
set_option maxHeartbeats 1600000 in
theorem do0 (d : Ac) (T : Tri B w0 w g S m gr Sr rm m go So mo) (hok : d.Ok w0 B) (hp : d.p.size ≤ 60) (hq : d.q.size ≤ 60) (hbl : d.b.length ≤ 300) (hll : d.l.length ≤ 40) (hf : m.failed ≤ 100000) (hway : d.way = 0) :
    Calls Try.prog 9 #[.pointer (some ⟨g, 0, none⟩), .pointer (some ⟨gr, 0, none⟩), d.v] w (Did B w0 g gr rm go So mo (doM m d)) := by
  have HOK := Lib.hid hok
  obtain ⟨US, hus⟩ : ∃ US, US = ([.int .i64 0, .int .i64 d.at', .int .i64 d.n, .string d.p, .string d.q, .slice d.ba d.b.length d.bc, .slice d.la d.l.length d.lc] : List Value) := ⟨_, rfl⟩
  have hb0 := Joins.below_alloc1 w (.cells US.toArray 35)
  have b0 := Box.new w 35 US
  have T0 := Lib.hid (T.below hb0)
  have hn1 : ¬ S w.heap.size := fun h => Nat.lt_irrefl _ (T.d.lt _ h)
  have hn2 : ¬ Sr w.heap.size := fun h => Nat.lt_irrefl _ (T.r.lt _ h)
  have hn3 : ¬ So w.heap.size := fun h => Nat.lt_irrefl _ (T.o.lt _ h)
  have hB3 : B ≤ w.heap.size := T.size
  have E : Hid (doM m d = (appendM m d.p d.b).2) := Lib.hid (by simp [doM, hway])
  have hv : d.v = .agg US.toArray := by rw [hus]; show Value.agg _ = _; rw [hway]
  rw [hv]
  have k0 : (w.alloc (.cells US.toArray 35)).cell? ⟨w.heap.size, 0, none⟩ = some (.int .i64 0) := (b0.cell 0).trans (by rw [hus]; rfl)
  have k5 : (w.alloc (.cells US.toArray 35)).cell? ⟨w.heap.size, 5, none⟩ = some (.slice d.ba d.b.length d.bc) := (b0.cell 5).trans (by rw [hus]; rfl)
  have k3 : (w.alloc (.cells US.toArray 35)).cell? ⟨w.heap.size, 3, none⟩ = some (.string d.p) := (b0.cell 3).trans (by rw [hus]; rfl)
  have B0 := Lib.hid b0
  have HUS := Lib.hid hus
  clear T hok hb0 b0 hway hus hv
  obtain ⟨A2, c2, W2, hr2, hown2, hb2⟩ := fresh_bytes d.ba d.bc B d.b (w.alloc (.cells US.toArray 35)) (HOK.out.bl.below T0.out.low) (by omega)
  obtain ⟨A2', c2', hv2, hc2, hm2, hl2⟩ := own_parts hown2
  cases hv2
  have T2 := Lib.hid (T0.out.below hb2)
  have B2 := Lib.hid (B0.out.below hb2 B0.out.lt)
  have HP : Hid (LiesP W2 (fun k => ¬ S k ∧ k < W2.heap.size) A2 (d.b.map vb)) := Lib.hid ((LiesP.of_own hown2).later (fun _ _ => rfl) fun k hk => ⟨fun hs => by have h1 := T0.out.d.lt k hs; have h2 := hk.1; omega, hk.2.1⟩)
  have HFR : Hid (∀ k, (Value.slice A2 d.b.length c2).ownBlock = some k → (w.alloc (.cells US.toArray 35)).heap.size ≤ k ∧ k < W2.heap.size) := Lib.hid fun k hk => hown2.lt k hk
  have HO2 := Lib.hid (own_lower hown2 (Nat.zero_le _))
  have HR2 := Lib.hid hr2
  clear hr2 hown2 hb2 hl2
  have k3' : W2.cell? ⟨w.heap.size, 3, none⟩ = some (.string d.p) := (B2.out.cell 3).trans (by rw [HUS.out]; rfl)
  go_enter Try.func9, Try.ntmps9
  go_wp2_with (at_builtin; refine wpList_append_run rfl _ _ 31 rfl rfl rfl HR2.out ?_)
  refine (Dk.append_any d.p A2 c2 d.b T2.out.d (by omega) HP.out hc2 (by omega) HOK.out.b8).mono ?_
  rintro e W3 ⟨S3, rfl, hA, hK, hS⟩
  have T3 := Lib.hid (T2.out.dd hA hK hS)
  have B3 := Lib.hid (B2.out.keep hK hn1)
  have HO3 := Lib.hid (own_kept HO2.out hK fun k hk hs => by have h1 := HFR.out k hk; have h2 := T0.out.d.lt k hs; omega)
  have HN : Hid (∀ k, (Value.slice A2 d.b.length c2).ownBlock = some k → (B ≤ k ∧ ¬ S3 k ∧ ¬ Sr k ∧ ¬ So k) ∧ w.heap.size ≠ k) := Lib.hid fun k hk => by
    have h1 := HFR.out k hk
    have h2 := T0.out.size
    have h3 := B0.out.lt
    exact ⟨⟨by omega, fun hs => (hS k hs).elim (fun h => by have := T0.out.d.lt k h; omega) (fun h => by omega), fun hs => by have := T0.out.r.lt k hs; omega, fun hs => by have := T0.out.o.lt k hs; omega⟩, by omega⟩
  clear hA hK hS T0 T2 B0 B2 HP HFR HO2 HR2 k0 k5 k3 k3'
  go_wp2_with fail
  go_loopw [9] (fun i wr => ∃ (j : Nat) (ys : List Nat), i = .int .i64 (j : Int) ∧ j ≤ d.b.length ∧ ys.length = d.b.length ∧ (∀ y, y ∈ ys → y < 256) ∧ Hid (wr.ownsRow 0 5 1 (.slice A2 d.b.length c2) d.b.length (ys.map vb)) ∧ Hid (Tri B w0 wr g S3 (appendM m d.p d.b).2 gr Sr rm m go So mo) ∧ Hid (Box wr w.heap.size 35 US)) (fun i _ => d.b.length + 1 - (intOf i).toNat)
  case atStart => exact ⟨0, d.b, rfl, by omega, rfl, HOK.out.b8, HO3, T3, B3⟩
  case round =>
    obtain ⟨j, ys, rfl, hj, hyl, hy8, HO, T, HB⟩ := hrel
    clear HO3 T3 B3
    by_cases hlt : j < d.b.length
    · have dl : decide (j < d.b.length) = true := decide_eq_true hlt
      obtain ⟨y, hy⟩ : ∃ y, ys[j]? = some y := ⟨_, List.getElem?_eq_getElem (by omega)⟩
      obtain ⟨gb, rfl⟩ := own_some HO.out (by omega)
      obtain ⟨c5, f5⟩ := own_at HO.out (j := j) (u := vb y) (by rw [List.getElem?_map, hy]; rfl)
      have hy256 : y < 256 := hy8 y (List.mem_of_getElem? hy)
      have hx : bits .xor .u8 (y : Int) 255 = ((y ^^^ 255 : Nat) : Int) := u8_xor_nat y 255 hy256 (by decide)
      have hz : y ^^^ 255 < 256 := Nat.xor_lt_two_pow (n := 8) hy256 (by decide)
      go_wp2_with fail
      go_roundw
      case rel =>
        refine ⟨j + 1, ys.set j (y ^^^ 255), by go_num, by omega, by rw [List.length_set]; exact hyl, fun z h => (List.mem_or_eq_of_mem_set h).elim (hy8 z) (fun e => e ▸ hz), Lib.hid ?_, Lib.hid (T.out.keep (T := (· = gb)) ((Keep.refl (fun k => k = gb) _).setCell (p := ⟨gb, j, none⟩) (.inr rfl) _) fun k hk => by rw [hk]; exact (HN.out gb rfl).1), Lib.hid (HB.out.setOther (HN.out gb rfl).2 _)⟩
        rw [List.map_set]
        exact own_set HO.out (by rw [List.length_map, hyl]; exact hlt)
      case measure => simp [intOf]; omega
    · obtain rfl : j = d.b.length := by omega
      have dl : decide (d.b.length < d.b.length) = false := decide_eq_false (by omega)
      clear HO HN hy8
      go_wp2_with fail
      replace T := Lib.hid (T.out.below (Below.refl _ _).drew)
      replace HB : Hid (Box wr.drew w.heap.size 35 US) := HB
      refine wp_region_held_drew (S := fun w' => Hid (Box w' w.heap.size 35 US)) (by kernel_rfl) HB (fun hS => ?_)
      refine wpAnyH_take (i := 0) (v := ?_) rfl (by kernel_rfl) (by kernel_rfl) (by kernel_rfl) (fun _ _ _ h => h) (Or.inl ⟨by rfl, ?_⟩) hS ?_
      rotate_left
      · intro w_ hw
        go_simp
        try with_reducible rfl
      try simp only [Act.put, List.getElem_toArray, List.getElem_cons_succ, List.getElem_cons_zero, List.setIfInBounds_toArray, List.set_cons_zero, List.set_cons_succ]
      refine wpAnyH_take (i := 2) (v := ?_) rfl (by kernel_rfl) (by kernel_rfl) (by kernel_rfl) (fun _ _ _ h => h) (Or.inl ⟨by rfl, ?_⟩) hS ?_
      rotate_left
      · intro w_ hw
        go_simp
        try with_reducible rfl
      try simp only [Act.put, List.getElem_toArray, List.getElem_cons_succ, List.getElem_cons_zero, List.setIfInBounds_toArray, List.set_cons_zero, List.set_cons_succ]
      refine wpAnyH_take (i := 3) (v := ?_) rfl (by kernel_rfl) (by kernel_rfl) (by kernel_rfl) (fun _ _ _ h => h) (Or.inl ⟨by rfl, ?_⟩) hS ?_
      rotate_left
      · intro w_ hw
        go_simp
        try with_reducible rfl
      try simp only [Act.put, List.getElem_toArray, List.getElem_cons_succ, List.getElem_cons_zero, List.setIfInBounds_toArray, List.set_cons_zero, List.set_cons_succ]
      refine wpAnyH_take (i := 4) (v := ?_) rfl (by kernel_rfl) (by kernel_rfl) (by kernel_rfl) (fun _ _ _ h => h) (Or.inl ⟨by rfl, ?_⟩) hS ?_
      rotate_left
      · intro w_ hw
        have c3 : w_.cell? ⟨w.heap.size, 3, none⟩ = some (.string d.p) := (hw.out.cell 3).trans (by rw [HUS.out]; rfl)
        go_simp
        try with_reducible rfl
      try simp only [Act.put, List.getElem_toArray, List.getElem_cons_succ, List.getElem_cons_zero, List.setIfInBounds_toArray, List.set_cons_zero, List.set_cons_succ]
      refine wpAnyH_take (i := 5) (v := ?_) rfl (by kernel_rfl) (by kernel_rfl) (by kernel_rfl) (fun _ _ _ h => h) (Or.inl ⟨by rfl, ?_⟩) hS ?_
      rotate_left
      · intro w_ hw
        go_simp
        try with_reducible rfl
      try simp only [Act.put, List.getElem_toArray, List.getElem_cons_succ, List.getElem_cons_zero, List.setIfInBounds_toArray, List.set_cons_zero, List.set_cons_succ]
      refine wpAnyH_take (i := 6) (v := ?_) rfl (by kernel_rfl) (by kernel_rfl) (by kernel_rfl) (fun _ _ _ h => h) (Or.inl ⟨by rfl, ?_⟩) hS ?_
      rotate_left
      · intro w_ hw
        have c5 : w_.cell? ⟨w.heap.size, 5, none⟩ = some (.slice d.ba d.b.length d.bc) := (hw.out.cell 5).trans (by rw [HUS.out]; rfl)
        go_simp
        try with_reducible rfl
      try simp only [Act.put, List.getElem_toArray, List.getElem_cons_succ, List.getElem_cons_zero, List.setIfInBounds_toArray, List.set_cons_zero, List.set_cons_succ]
      refine wpAnyH_ready (rs := [1]) (by kernel_rfl) (by simp) ?_
      refine AllReadyH.cons rfl (fun K hK => ?_) AllReadyH.nil
      go_simp
      refine (num_any _ _).mono ?_; rintro e w' ⟨rfl, rfl⟩
      go_wp2_with fail
      refine hK.out _ _ HB (fun hS => ?_)
      clear hK K
      try simp only [Act.put, List.getElem_toArray, List.getElem_cons_succ, List.getElem_cons_zero, List.setIfInBounds_toArray, List.set_cons_zero, List.set_cons_succ]
      refine wpAnyH_ready (rs := [7]) (by kernel_rfl) (by simp) ?_
      refine AllReadyH.cons rfl (fun K hK => ?_) AllReadyH.nil
      go_simp
      refine (rappend_any d.p d.ba d.bc d.b (by omega) T.out.r (by omega) (free_r T.out HOK.out.bl) (by omega) HOK.out.b8).mono ?_
      rintro e W6 ⟨S6, rfl, hA, hK, hS6⟩
      have T6 := Lib.hid (T.out.rr hA hK hS6)
      have B6 := Lib.hid (HB.out.keep hK hn2)
      clear hA hK hS6 T
      generalize appendM m d.p d.b = r at *
      have n1 : ((r.1 : Int) == (r.1 : Int)) = true := by simp
      go_wp2_with fail
      refine hK.out _ _ B6 (fun hS => ?_)
      clear hK K
      try simp only [Act.put, List.getElem_toArray, List.getElem_cons_succ, List.getElem_cons_zero, List.setIfInBounds_toArray, List.set_cons_zero, List.set_cons_succ]
      refine wpAnyH_take (i := 8) (v := ?_) rfl (by kernel_rfl) (by kernel_rfl) (by kernel_rfl) (fun _ _ _ h => h) (Or.inl ⟨by rfl, ?_⟩) hS ?_
      rotate_left
      · intro w hw
        go_simp
        try with_reducible rfl
      try simp only [Act.put, List.getElem_toArray, List.getElem_cons_succ, List.getElem_cons_zero, List.setIfInBounds_toArray, List.set_cons_zero, List.set_cons_succ]
      refine wpAnyH_take (i := 9) (v := ?_) rfl (by kernel_rfl) (by kernel_rfl) (by kernel_rfl) (fun _ _ _ h => h) (Or.inl ⟨by rfl, ?_⟩) hS ?_
      rotate_left
      · intro w hw
        go_simp
        try with_reducible rfl
      try simp only [Act.put, List.getElem_toArray, List.getElem_cons_succ, List.getElem_cons_zero, List.setIfInBounds_toArray, List.set_cons_zero, List.set_cons_succ]
      refine wpAnyH_done (by kernel_rfl) ?_ _
      go_wp2_with fail
      go_ret
      refine ⟨_, _, ?_, by rw [E.out]; exact T6.out⟩
      simp
set_option maxRecDepth 100000 in
set_option maxHeartbeats 1600000 in
theorem do_else (d : Ac) (T : Tri B w0 w g S m gr Sr rm m go So mo) (hok : d.Ok w0 B) (hp : d.p.size ≤ 60) (hq : d.q.size ≤ 60) (hbl : d.b.length ≤ 300) (hll : d.l.length ≤ 40) (hf : m.failed ≤ 100000) (hway : d.way ≠ 0 ∧ d.way ≠ 1 ∧ d.way ≠ 2 ∧ d.way ≠ 3 ∧ d.way ≠ 4 ∧ d.way ≠ 5 ∧ d.way ≠ 6) :
    Calls Try.prog 9 #[.pointer (some ⟨g, 0, none⟩), .pointer (some ⟨gr, 0, none⟩), d.v] w (Did B w0 g gr rm go So mo (doM m d)) := by
  have HOK := Lib.hid hok
  obtain ⟨US, hus⟩ : ∃ US, US = ([.int .i64 d.way, .int .i64 d.at', .int .i64 d.n, .string d.p, .string d.q, .slice d.ba d.b.length d.bc, .slice d.la d.l.length d.lc] : List Value) := ⟨_, rfl⟩
  have hb0 := Joins.below_alloc1 w (.cells US.toArray 35)
  have b0 := Box.new w 35 US
  have T0 := Lib.hid (T.below hb0)
  have hn1 : ¬ S w.heap.size := fun h => Nat.lt_irrefl _ (T.d.lt _ h)
  have hn2 : ¬ Sr w.heap.size := fun h => Nat.lt_irrefl _ (T.r.lt _ h)
  have hn3 : ¬ So w.heap.size := fun h => Nat.lt_irrefl _ (T.o.lt _ h)
  have hB3 : B ≤ w.heap.size := T.size
  obtain ⟨h0, h1, h2, h3, h4, h5, h6⟩ := hway
  have E : Hid (doM m d = m) := Lib.hid (by simp [doM, h0, h1, h2, h3, h4, h5, h6])
  have hv : d.v = .agg US.toArray := by rw [hus]
  rw [hv]
  have k0 : (w.alloc (.cells US.toArray 35)).cell? ⟨w.heap.size, 0, none⟩ = some (.int .i64 d.way) := (b0.cell 0).trans (by rw [hus]; rfl)
  have n0 : (d.way == 0) = false := by simpa using h0
  have n1 : (d.way == 1) = false := by simpa using h1
  have n2 : (d.way == 2) = false := by simpa using h2
  have n3 : (d.way == 3) = false := by simpa using h3
  have n4 : (d.way == 4) = false := by simpa using h4
  have n5 : (d.way == 5) = false := by simpa using h5
  have n6 : (d.way == 6) = false := by simpa using h6
  clear T hok hb0 b0 hus hv h0 h1 h2 h3 h4 h5 h6
  go_enter Try.func9, Try.ntmps9
  go_wp2_with fail
  go_ret
  exact ⟨_, _, rfl, by rw [E.out]; exact T0.out⟩
theorem do_any (d : Ac) (T : Tri B w0 w g S m gr Sr rm m go So mo) (hok : d.Ok w0 B) (hp : d.p.size ≤ 60) (hq : d.q.size ≤ 60) (hbl : d.b.length ≤ 300) (hll : d.l.length ≤ 40) (hf : m.failed ≤ 100000) :
    Calls Try.prog 9 #[.pointer (some ⟨g, 0, none⟩), .pointer (some ⟨gr, 0, none⟩), d.v] w (Did B w0 g gr rm go So mo (doM m d)) := by
  by_cases h0 : d.way = 0
  · exact do0 d T hok hp hq hbl hll hf h0
  by_cases h1 : d.way = 1
  · exact do1 d T hok hp hq hbl hll hf h1
  by_cases h2 : d.way = 2
  · exact do2 d T hok hp hq hbl hll hf h2
  by_cases h3 : d.way = 3
  · exact do3 d T hok hp hq hbl hll hf h3
  by_cases h4 : d.way = 4
  · exact do4 d T hok hp hq hbl hll hf h4
  by_cases h5 : d.way = 5
  · exact do5 d T hok hp hq hbl hll hf h5
  by_cases h6 : d.way = 6
  · exact do6 d T hok hp hq hbl hll hf h6
  exact do_else d T hok hp hq hbl hll hf ⟨h0, h1, h2, h3, h4, h5, h6⟩
end
end Go.Proofs.Ytnbknihaefkllaa.Dl
