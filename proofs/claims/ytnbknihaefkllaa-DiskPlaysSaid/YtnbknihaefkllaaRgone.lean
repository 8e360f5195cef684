/- The document's own disk: a file goes. -/
import Derived.Test.YtnbknihaefkllaaRsync
namespace Go.Proofs.Ytnbknihaefkllaa.Rk
set_option linter.unusedVariables false
set_option linter.unusedSimpArgs false
open Go.RowKit Go.Maps Lift Ik Dk

theorem drop_at3 (A : Option Addr) (n c p : Nat) (h : p ≤ n) (hc : n ≤ c) (hm : c ≤ 9223372036854775807) :
    ∃ A' : Option Addr, (0 < n - p → A' = A.map (·.add (p * 3))) ∧ ∀ W : World, Sem.run Try.prog (Instr.slice 45 (.slice A n c) (some (.int .i64 (p : Int))) none none) W = .ok (.slice A' (n - p) (c - p)) W := by
  by_cases hcp : c = p
  · refine ⟨A, fun h0 => by omega, fun W => ?_⟩
    obtain rfl : n = p := by omega
    subst hcp
    go_simp
  · refine ⟨A.map (·.add (p * 3)), fun _ => rfl, fun W => ?_⟩
    go_simp
theorem upto_at3 (A : Option Addr) (n c k : Nat) (h : k ≤ c) (hc : n ≤ c) (hm : c ≤ 9223372036854775807) (W : World) : Sem.run Try.prog (Instr.slice 45 (.slice A n c) none (some (.int .i64 (k : Int))) none) W = .ok (.slice A k c) W := by
  go_simp
theorem append_files {w : World} {base B k c : Nat} {v : Value} {A : Option Addr} {L M : List D} (hown : w.ownsRow base Ty.file 3 v L.length (cellsL L)) (hl : Lies w B A (cellsL M)) (hk : M.length = k) (hn : L.length + M.length ≤ 2000) (hbase : base ≤ w.heap.size) :
    ∃ v' w', Sem.run Try.prog (Builtin.append_ #[45, 45] 45 #[v, .slice A k c]) w = .ok v' w' ∧ w'.ownsRow base Ty.file 3 v' (L ++ M).length (cellsL (L ++ M)) ∧ Below base w w' ∧ w.heap.size ≤ w'.heap.size := by
  subst hk
  obtain ⟨v', w', h1, h2, h3, h4⟩ := run_append_lies (P := Try.prog) (m := M.length) (c := c) 45 45 78 (.agg #[.string ⟨#[]⟩, .slice none 0 0, .int .i64 0]) 3 48 Try.underlying45 (by kernel_rfl) rfl (by decide)
    cellsL_one hown hl (cellsL_length M) (by unfold maxLen; omega) (by omega) hbase
  exact ⟨v', w', h1, by rw [List.length_append, cellsL_append]; exact h2, h3, h4⟩
theorem cellsL_take (L : List D) (k : Nat) : cellsL (L.take k) <+: cellsL L := by
  conv => rhs; rw [← List.take_append_drop k L]
  rw [cellsL_append]
  exact List.prefix_append _ _
theorem lies_drop {w : World} {B : Nat} {A A' : Option Addr} {L : List D} {p : Nat} (h : Lies w B A (cellsL L)) (hA : 0 < L.length - p → A' = A.map (·.add (p * 3))) : Lies w B A' (cellsL (L.drop p)) := by
  by_cases h0 : L.length - p = 0
  · left
    rw [List.drop_of_length_le (by omega)]
    rfl
  · obtain ⟨ad, rfl, hb, hc⟩ := h.place (by rw [cellsL_length]; omega)
    refine .inr ⟨ad.add (p * 3), hA (by omega), by rw [add_block]; exact hb, fun j u hj => ?_⟩
    rw [Lift.add_add]
    refine hc _ _ ?_
    have e : cellsL L = cellsL (L.take p) ++ cellsL (L.drop p) := by rw [← cellsL_append, List.take_append_drop]
    have hl : (cellsL (L.take p)).length = p * 3 := by rw [cellsL_length, List.length_take, Nat.min_eq_left (by omega)]
    rw [e, List.getElem?_append_right (by rw [hl]; omega), hl, Nat.add_sub_cancel_left]
    exact hj
section
variable {w w' : World} {g : Nat} {S S' T : Nat → Prop} {rm : Int} {m : MS} {L : List D} {A F : Option Addr} {c cf : Nat}
/-- A new list of files. -/
theorem Lay.fresh {L' : List D} {A' : Option Addr} {c' : Nat} (h : Lay w g S rm m L A F c cf) (hk : Keep (· = g) w w') (hb : Box w' g Ty.disk [.int .i64 rm, .slice A' L'.length c', .slice F m.armed.length cf, .int .i64 (m.failed : Int)])
    (ho : w'.ownsRow w.heap.size Ty.file 3 (.slice A' L'.length c') L'.length (cellsL L')) (hok : ∀ d, d ∈ L' → d.Ok w S) (hn : L'.length ≤ 1000) (hs : (L'.map D.m).Pairwise before) :
    Lay w' g (Gr S w w') rm { m with fs := L'.map D.m } L' A' F c' cf := by
  refine ⟨hb, .inl h.sg, Joins.ownsRow_le ho (Nat.zero_le _), fun k hk1 => .inr (ho.lt k hk1), fun d hd => (hok d hd).keep hk (fun k ht _ hh => ?_) (fun k hk => .inl hk), rfl,
    h.armed.keep hk (fun k ht _ hh => ?_) (fun k hk => .inl hk), h.capf, h.capm, h.wf, fun k hk1 => hk1.elim (fun h1 => Nat.lt_of_lt_of_le (h.lt k h1) hk.size) fun h1 => h1.2, h.room, h.rwf, hn, hs⟩
  · obtain ⟨cs, fr, hh⟩ := hh
    rw [ht] at hh
    exact typed h.box hh (by decide)
  · obtain ⟨cs, fr, hh⟩ := hh
    rw [ht] at hh
    exact typed h.box hh (by decide)
set_option maxRecDepth 100000 in
set_option maxHeartbeats 1600000 in
theorem gone_any {i : Nat} (h : Lay w g S rm m L A F c cf) (hi : i < L.length) :
    Calls Try.prog (46) #[.pointer (some ⟨g, 0, none⟩), .int .i64 (i : Int)] w fun e w' => ∃ A' c', e = .returned (.tuple #[]) ∧ Keep (· = g) w w' ∧ Lay w' g (Gr S w w') rm { m with fs := (L.take i ++ L.drop (i + 1)).map D.m } (L.take i ++ L.drop (i + 1)) A' F c' cf := by
  obtain ⟨hcap, hcm⟩ := h.cap
  have hmany := h.many
  have H := Lib.hid h
  have hlies : Lies w w.heap.size A (cellsL L) := Lies.of_own h.own
  obtain ⟨A2, hA2, hs2⟩ := drop_at3 A L.length c (i + 1) (by omega) hcap hcm
  have hs1 := upto_at3 A L.length c i (by omega) hcap hcm
  have hpc : ((i + 1 : Nat) : Int) = (i : Int) + 1 := by omega
  rw [hpc] at hs2
  have hwr : IntKind.i64.wrap ((i : Int) + 1) = (i : Int) + 1 := by rw [IntKind.wrap_i64]; omega
  obtain ⟨v1, W1, hr1, ho1, hb1, hz1⟩ := append_files (w := w.drew) (base := w.heap.size) (v := .slice none 0 0) (L := []) (M := L.take i) (c := c) (World.ownsRow_nil _ _ _ _) ((hlies.front (cellsL_take L i)).below ((Below.refl _ _).drew)) (k := i) (by rw [List.length_take]; omega) (by simp; omega) (Nat.le_refl _)
  rw [List.nil_append] at ho1
  have hb1' : Below w.heap.size w W1 := (Below.refl w.heap.size w).drew.trans hb1
  obtain ⟨v2, W2, hr2, ho2, hb2, hz2⟩ := append_files (M := L.drop (i + 1)) (c := c - (i + 1)) (k := L.length - (i + 1)) ho1 ((lies_drop hlies hA2).below hb1') (by rw [List.length_drop]) (by rw [List.length_take, List.length_drop]; omega) hb1'.size
  obtain ⟨A3, c3, rfl, _, _, _⟩ := own_parts ho2
  have hb2' : Below w.heap.size w W2 := hb1'.trans hb2
  obtain ⟨v1A, v1c, rfl, _, _, _⟩ := own_parts ho1
  obtain ⟨L2, hL2⟩ : ∃ L2, L2 = L.take i ++ L.drop (i + 1) := ⟨_, rfl⟩
  obtain ⟨n1, hn1⟩ : ∃ n1, n1 = (L.take i).length := ⟨_, rfl⟩
  rw [← hL2] at ho2 hr2 ⊢
  rw [← hn1] at hr1 hr2
  have HL2 := Lib.hid hL2
  clear hL2 hn1
  have HR1 := Lib.hid hr1
  have HR2 := Lib.hid hr2
  have HO2 := Lib.hid ho2
  have HB1 := Lib.hid hb1'
  have HB2 := Lib.hid hb2'
  have BX := Lib.hid h.box
  have HI := Lib.hid hi
  have hg := h.lt g h.sg
  have HG := Lib.hid hg
  clear h hlies hA2 hr1 ho1 hb1 hz1 hr2 ho2 hb2 hz2 hb1' hb2'
  go_enter Try.func46, Try.ntmps46
  go_wp2_with fail
  refine wp_region_held_drew (S := fun w' => Hid (Keep (fun j => j = g) w w')) (by kernel_rfl) (Lib.hid (Keep.refl _ _).drew) (fun hS => ?_)
  refine wpAnyH_take (i := 0) (v := ?_) rfl (by kernel_rfl) (by kernel_rfl) (by kernel_rfl) (fun _ _ _ h => h) (Or.inl ⟨by rfl, ?_⟩) hS ?_
  rotate_left
  · intro w hw
    go_simp
    try with_reducible rfl
  try simp only [Act.put, List.getElem_toArray, List.getElem_cons_succ, List.getElem_cons_zero, List.setIfInBounds_toArray, List.set_cons_zero, List.set_cons_succ]
  refine wpAnyH_take (i := 1) (v := ?_) rfl (by kernel_rfl) (by kernel_rfl) (by kernel_rfl) (fun _ _ _ h => h) (Or.inl ⟨by rfl, ?_⟩) hS ?_
  rotate_left
  · intro w hw
    go_simp
    try with_reducible rfl
  try simp only [Act.put, List.getElem_toArray, List.getElem_cons_succ, List.getElem_cons_zero, List.setIfInBounds_toArray, List.set_cons_zero, List.set_cons_succ]
  refine wpAnyH_take (i := 2) (v := ?_) rfl (by kernel_rfl) (by kernel_rfl) (by kernel_rfl) (fun _ _ _ h => h) (Or.inl ⟨by rfl, ?_⟩) hS ?_
  rotate_left
  · intro w hw
    go_simp
    try with_reducible rfl
  try simp only [Act.put, List.getElem_toArray, List.getElem_cons_succ, List.getElem_cons_zero, List.setIfInBounds_toArray, List.set_cons_zero, List.set_cons_succ]
  refine wpAnyH_take (i := 3) (v := ?_) rfl (by kernel_rfl) (by kernel_rfl) (by kernel_rfl) (fun _ _ _ h => h) (Or.inl ⟨by rfl, ?_⟩) hS ?_
  rotate_left
  · intro w hw
    go_simp
    try with_reducible rfl
  try simp only [Act.put, List.getElem_toArray, List.getElem_cons_succ, List.getElem_cons_zero, List.setIfInBounds_toArray, List.set_cons_zero, List.set_cons_succ]
  refine wpAnyH_take (i := 5) (v := ?_) rfl (by kernel_rfl) (by kernel_rfl) (by kernel_rfl) (fun _ _ _ h => h) (Or.inl ⟨by rfl, ?_⟩) hS ?_
  rotate_left
  · intro w hw
    go_simp
    try with_reducible rfl
  try simp only [Act.put, List.getElem_toArray, List.getElem_cons_succ, List.getElem_cons_zero, List.setIfInBounds_toArray, List.set_cons_zero, List.set_cons_succ]
  refine wpAnyH_take (i := 8) (v := ?_) rfl (by kernel_rfl) (by kernel_rfl) (by kernel_rfl) (fun _ _ _ h => h) (Or.inl ⟨by rfl, ?_⟩) hS ?_
  rotate_left
  · intro w hw
    go_simp
    try with_reducible rfl
  try simp only [Act.put, List.getElem_toArray, List.getElem_cons_succ, List.getElem_cons_zero, List.setIfInBounds_toArray, List.set_cons_zero, List.set_cons_succ]
  refine wpAnyH_take (i := 9) (v := ?_) rfl (by kernel_rfl) (by kernel_rfl) (by kernel_rfl) (fun _ _ _ h => h) (Or.inl ⟨by rfl, ?_⟩) hS ?_
  rotate_left
  · intro w hw
    go_simp
    try with_reducible rfl
  try simp only [Act.put, List.getElem_toArray, List.getElem_cons_succ, List.getElem_cons_zero, List.setIfInBounds_toArray, List.set_cons_zero, List.set_cons_succ]
  refine wpAnyH_take (i := 10) (v := ?_) rfl (by kernel_rfl) (by kernel_rfl) (by kernel_rfl) (fun _ _ _ h => h) (Or.inl ⟨by rfl, ?_⟩) hS ?_
  rotate_left
  · intro w hw
    go_simp
    try with_reducible rfl
  try simp only [Act.put, List.getElem_toArray, List.getElem_cons_succ, List.getElem_cons_zero, List.setIfInBounds_toArray, List.set_cons_zero, List.set_cons_succ]
  refine wpAnyH_take (i := 12) (v := ?_) rfl (by kernel_rfl) (by kernel_rfl) (by kernel_rfl) (fun _ _ _ h => h) (Or.inl ⟨by rfl, ?_⟩) hS ?_
  rotate_left
  · intro w hw
    go_simp
    try with_reducible rfl
  try simp only [Act.put, List.getElem_toArray, List.getElem_cons_succ, List.getElem_cons_zero, List.setIfInBounds_toArray, List.set_cons_zero, List.set_cons_succ]
  refine wpAnyH_take (i := 13) (v := ?_) rfl (by kernel_rfl) (by kernel_rfl) (by kernel_rfl) (fun _ _ _ h => h) (Or.inl ⟨by rfl, ?_⟩) hS ?_
  rotate_left
  · intro w hw
    go_simp
    try with_reducible rfl
  try simp only [Act.put, List.getElem_toArray, List.getElem_cons_succ, List.getElem_cons_zero, List.setIfInBounds_toArray, List.set_cons_zero, List.set_cons_succ]
  refine wpAnyH_ready (rs := [4, 11]) (by kernel_rfl) (by simp) ?_
  refine AllReadyH.cons rfl (fun K hK => ?_) (AllReadyH.cons rfl (fun K hK => ?_) AllReadyH.nil)
  · skip
    have p1 : w.cell? ⟨g, 1, none⟩ = some (.slice A L.length c) := BX.out.cell 1
    go_simp
    refine hK.out _ _ hS (fun hS => ?_)
    clear hK K p1
    try simp only [Act.put, List.getElem_toArray, List.getElem_cons_succ, List.getElem_cons_zero, List.setIfInBounds_toArray, List.set_cons_zero, List.set_cons_succ]
    refine wpAnyH_take (i := 6) (v := ?_) rfl (by kernel_rfl) (by kernel_rfl) (by kernel_rfl) (fun _ _ _ h => h) (Or.inl ⟨by rfl, ?_⟩) hS ?_
    rotate_left
    · intro w hw
      go_simp
      try with_reducible rfl
    try simp only [Act.put, List.getElem_toArray, List.getElem_cons_succ, List.getElem_cons_zero, List.setIfInBounds_toArray, List.set_cons_zero, List.set_cons_succ]
    refine wpAnyH_ready (rs := [7, 11]) (by kernel_rfl) (by simp) ?_
    refine AllReadyH.cons rfl (fun K hK => ?_) (AllReadyH.cons rfl (fun K hK => ?_) AllReadyH.nil)
    · skip
      refine held_append rfl _ _ 45 rfl rfl rfl HR1.out ?_
      refine hK.out _ _ (Lib.hid (below_keep (S := fun j => j = g) HB1.out)) (fun hS => ?_)
      clear hK K
      try simp only [Act.put, List.getElem_toArray, List.getElem_cons_succ, List.getElem_cons_zero, List.setIfInBounds_toArray, List.set_cons_zero, List.set_cons_succ]
      refine wpAnyH_ready (rs := [11]) (by kernel_rfl) (by simp) ?_
      refine AllReadyH.cons rfl (fun K hK => ?_) AllReadyH.nil
      have p1 : W1.cell? ⟨g, 1, none⟩ = some (.slice A L.length c) := (BX.out.below HB1.out HG.out).cell 1
      go_simp
      refine hK.out _ _ hS (fun hS => ?_)
      clear hK K p1
      try simp only [Act.put, List.getElem_toArray, List.getElem_cons_succ, List.getElem_cons_zero, List.setIfInBounds_toArray, List.set_cons_zero, List.set_cons_succ]
      refine wpAnyH_take (i := 14) (v := ?_) rfl (by kernel_rfl) (by kernel_rfl) (by kernel_rfl) (fun _ _ _ h => h) (Or.inl ⟨by rfl, ?_⟩) hS ?_
      rotate_left
      · intro w hw
        go_simp
        try with_reducible rfl
      try simp only [Act.put, List.getElem_toArray, List.getElem_cons_succ, List.getElem_cons_zero, List.setIfInBounds_toArray, List.set_cons_zero, List.set_cons_succ]
      refine wpAnyH_ready (rs := [15]) (by kernel_rfl) (by simp) ?_
      refine AllReadyH.cons rfl (fun K hK => ?_) AllReadyH.nil
      refine held_append rfl _ _ 45 rfl rfl rfl HR2.out ?_
      refine hK.out _ _ (Lib.hid (below_keep (S := fun j => j = g) HB2.out)) (fun hS => ?_)
      clear hK K
      try simp only [Act.put, List.getElem_toArray, List.getElem_cons_succ, List.getElem_cons_zero, List.setIfInBounds_toArray, List.set_cons_zero, List.set_cons_succ]
      refine wpAnyH_take (i := 16) (v := ?_) rfl (by kernel_rfl) (by kernel_rfl) (by kernel_rfl) (fun _ _ _ h => h) (Or.inl ⟨by rfl, ?_⟩) hS ?_
      rotate_left
      · intro w hw
        go_simp
        try with_reducible rfl
      try simp only [Act.put, List.getElem_toArray, List.getElem_cons_succ, List.getElem_cons_zero, List.setIfInBounds_toArray, List.set_cons_zero, List.set_cons_succ]
      refine wpAnyH_take (i := 17) (v := ?_) rfl (by kernel_rfl) (by kernel_rfl) (by kernel_rfl) (fun _ _ _ h => h) (Or.inl ⟨by rfl, ?_⟩) hS ?_
      rotate_left
      · intro w hw
        go_simp
        try with_reducible rfl
      try simp only [Act.put, List.getElem_toArray, List.getElem_cons_succ, List.getElem_cons_zero, List.setIfInBounds_toArray, List.set_cons_zero, List.set_cons_succ]
      refine wpAnyH_ready (rs := [18]) (by kernel_rfl) (by simp) ?_
      refine AllReadyH.cons rfl (fun K hK => ?_) AllReadyH.nil
      have p1 := (BX.out.below HB2.out HG.out).cell 1
      have z1 := (BX.out.below HB2.out HG.out).free 1
      simp only [List.getElem?_cons_succ, List.getElem?_cons_zero] at p1
      go_simp
      refine hK.out _ _ (Lib.hid ((below_keep (S := fun j => j = g) HB2.out).setCell (p := ⟨g, 1, none⟩) (.inr rfl) _)) (fun hS => ?_)
      clear hK K p1 z1
      try simp only [Act.put, List.getElem_toArray, List.getElem_cons_succ, List.getElem_cons_zero, List.setIfInBounds_toArray, List.set_cons_zero, List.set_cons_succ]
      refine wpAnyH_done (by kernel_rfl) ?_ _
      go_wp2_with fail
      go_end0
      have hk : Keep (· = g) w (W2.setCell ⟨g, 1, none⟩ (.slice A3 L2.length c3)) := (below_keep (S := fun j => j = g) HB2.out).setCell (p := ⟨g, 1, none⟩) (.inr rfl) _
      refine ⟨A3, c3, rfl, hk, H.out.fresh hk ((BX.out.below HB2.out HG.out).set 1 _) (own_keep HO2.out ((Keep.refl (fun j => j = g) W2).setCell (p := ⟨g, 1, none⟩) (.inr rfl) _) fun k hk1 e => by
          have h1 := (HO2.out.lt k hk1).1
          have h2 := HG.out
          omega) (fun d hd => H.out.ok d (by
          rw [HL2.out] at hd
          rcases List.mem_append.1 hd with h1 | h1
          · exact List.mem_of_mem_take h1
          · exact List.mem_of_mem_drop h1)) (by rw [HL2.out, List.length_append, List.length_take, List.length_drop]; omega) ?_⟩
      have hs := H.out.sorted
      rw [H.out.told] at hs
      refine hs.sublist ?_
      refine List.Sublist.map _ ?_
      have : L.take i ++ L.drop (i + 1) = L.eraseIdx i := (List.eraseIdx_eq_take_drop_succ L i).symm
      rw [HL2.out, this]
      exact List.eraseIdx_sublist _ _
    · skip
      have p1 : w.cell? ⟨g, 1, none⟩ = some (.slice A L.length c) := BX.out.cell 1
      go_simp
      refine hK.out _ _ hS (fun hS => ?_)
      clear hK K p1
      try simp only [Act.put, List.getElem_toArray, List.getElem_cons_succ, List.getElem_cons_zero, List.setIfInBounds_toArray, List.set_cons_zero, List.set_cons_succ]
      refine wpAnyH_take (i := 14) (v := ?_) rfl (by kernel_rfl) (by kernel_rfl) (by kernel_rfl) (fun _ _ _ h => h) (Or.inl ⟨by rfl, ?_⟩) hS ?_
      rotate_left
      · intro w hw
        go_simp
        try with_reducible rfl
      try simp only [Act.put, List.getElem_toArray, List.getElem_cons_succ, List.getElem_cons_zero, List.setIfInBounds_toArray, List.set_cons_zero, List.set_cons_succ]
      refine wpAnyH_ready (rs := [7]) (by kernel_rfl) (by simp) ?_
      refine AllReadyH.cons rfl (fun K hK => ?_) AllReadyH.nil
      refine held_append rfl _ _ 45 rfl rfl rfl HR1.out ?_
      refine hK.out _ _ (Lib.hid (below_keep (S := fun j => j = g) HB1.out)) (fun hS => ?_)
      clear hK K
      try simp only [Act.put, List.getElem_toArray, List.getElem_cons_succ, List.getElem_cons_zero, List.setIfInBounds_toArray, List.set_cons_zero, List.set_cons_succ]
      refine wpAnyH_ready (rs := [15]) (by kernel_rfl) (by simp) ?_
      refine AllReadyH.cons rfl (fun K hK => ?_) AllReadyH.nil
      refine held_append rfl _ _ 45 rfl rfl rfl HR2.out ?_
      refine hK.out _ _ (Lib.hid (below_keep (S := fun j => j = g) HB2.out)) (fun hS => ?_)
      clear hK K
      try simp only [Act.put, List.getElem_toArray, List.getElem_cons_succ, List.getElem_cons_zero, List.setIfInBounds_toArray, List.set_cons_zero, List.set_cons_succ]
      refine wpAnyH_take (i := 16) (v := ?_) rfl (by kernel_rfl) (by kernel_rfl) (by kernel_rfl) (fun _ _ _ h => h) (Or.inl ⟨by rfl, ?_⟩) hS ?_
      rotate_left
      · intro w hw
        go_simp
        try with_reducible rfl
      try simp only [Act.put, List.getElem_toArray, List.getElem_cons_succ, List.getElem_cons_zero, List.setIfInBounds_toArray, List.set_cons_zero, List.set_cons_succ]
      refine wpAnyH_take (i := 17) (v := ?_) rfl (by kernel_rfl) (by kernel_rfl) (by kernel_rfl) (fun _ _ _ h => h) (Or.inl ⟨by rfl, ?_⟩) hS ?_
      rotate_left
      · intro w hw
        go_simp
        try with_reducible rfl
      try simp only [Act.put, List.getElem_toArray, List.getElem_cons_succ, List.getElem_cons_zero, List.setIfInBounds_toArray, List.set_cons_zero, List.set_cons_succ]
      refine wpAnyH_ready (rs := [18]) (by kernel_rfl) (by simp) ?_
      refine AllReadyH.cons rfl (fun K hK => ?_) AllReadyH.nil
      have p1 := (BX.out.below HB2.out HG.out).cell 1
      have z1 := (BX.out.below HB2.out HG.out).free 1
      simp only [List.getElem?_cons_succ, List.getElem?_cons_zero] at p1
      go_simp
      refine hK.out _ _ (Lib.hid ((below_keep (S := fun j => j = g) HB2.out).setCell (p := ⟨g, 1, none⟩) (.inr rfl) _)) (fun hS => ?_)
      clear hK K p1 z1
      try simp only [Act.put, List.getElem_toArray, List.getElem_cons_succ, List.getElem_cons_zero, List.setIfInBounds_toArray, List.set_cons_zero, List.set_cons_succ]
      refine wpAnyH_done (by kernel_rfl) ?_ _
      go_wp2_with fail
      go_end0
      have hk : Keep (· = g) w (W2.setCell ⟨g, 1, none⟩ (.slice A3 L2.length c3)) := (below_keep (S := fun j => j = g) HB2.out).setCell (p := ⟨g, 1, none⟩) (.inr rfl) _
      refine ⟨A3, c3, rfl, hk, H.out.fresh hk ((BX.out.below HB2.out HG.out).set 1 _) (own_keep HO2.out ((Keep.refl (fun j => j = g) W2).setCell (p := ⟨g, 1, none⟩) (.inr rfl) _) fun k hk1 e => by
          have h1 := (HO2.out.lt k hk1).1
          have h2 := HG.out
          omega) (fun d hd => H.out.ok d (by
          rw [HL2.out] at hd
          rcases List.mem_append.1 hd with h1 | h1
          · exact List.mem_of_mem_take h1
          · exact List.mem_of_mem_drop h1)) (by rw [HL2.out, List.length_append, List.length_take, List.length_drop]; omega) ?_⟩
      have hs := H.out.sorted
      rw [H.out.told] at hs
      refine hs.sublist ?_
      refine List.Sublist.map _ ?_
      have : L.take i ++ L.drop (i + 1) = L.eraseIdx i := (List.eraseIdx_eq_take_drop_succ L i).symm
      rw [HL2.out, this]
      exact List.eraseIdx_sublist _ _
  · skip
    have p1 : w.cell? ⟨g, 1, none⟩ = some (.slice A L.length c) := BX.out.cell 1
    go_simp
    refine hK.out _ _ hS (fun hS => ?_)
    clear hK K p1
    try simp only [Act.put, List.getElem_toArray, List.getElem_cons_succ, List.getElem_cons_zero, List.setIfInBounds_toArray, List.set_cons_zero, List.set_cons_succ]
    refine wpAnyH_take (i := 14) (v := ?_) rfl (by kernel_rfl) (by kernel_rfl) (by kernel_rfl) (fun _ _ _ h => h) (Or.inl ⟨by rfl, ?_⟩) hS ?_
    rotate_left
    · intro w hw
      go_simp
      try with_reducible rfl
    try simp only [Act.put, List.getElem_toArray, List.getElem_cons_succ, List.getElem_cons_zero, List.setIfInBounds_toArray, List.set_cons_zero, List.set_cons_succ]
    refine wpAnyH_ready (rs := [4]) (by kernel_rfl) (by simp) ?_
    refine AllReadyH.cons rfl (fun K hK => ?_) AllReadyH.nil
    have p1 : w.cell? ⟨g, 1, none⟩ = some (.slice A L.length c) := BX.out.cell 1
    go_simp
    refine hK.out _ _ hS (fun hS => ?_)
    clear hK K p1
    try simp only [Act.put, List.getElem_toArray, List.getElem_cons_succ, List.getElem_cons_zero, List.setIfInBounds_toArray, List.set_cons_zero, List.set_cons_succ]
    refine wpAnyH_take (i := 6) (v := ?_) rfl (by kernel_rfl) (by kernel_rfl) (by kernel_rfl) (fun _ _ _ h => h) (Or.inl ⟨by rfl, ?_⟩) hS ?_
    rotate_left
    · intro w hw
      go_simp
      try with_reducible rfl
    try simp only [Act.put, List.getElem_toArray, List.getElem_cons_succ, List.getElem_cons_zero, List.setIfInBounds_toArray, List.set_cons_zero, List.set_cons_succ]
    refine wpAnyH_ready (rs := [7]) (by kernel_rfl) (by simp) ?_
    refine AllReadyH.cons rfl (fun K hK => ?_) AllReadyH.nil
    refine held_append rfl _ _ 45 rfl rfl rfl HR1.out ?_
    refine hK.out _ _ (Lib.hid (below_keep (S := fun j => j = g) HB1.out)) (fun hS => ?_)
    clear hK K
    try simp only [Act.put, List.getElem_toArray, List.getElem_cons_succ, List.getElem_cons_zero, List.setIfInBounds_toArray, List.set_cons_zero, List.set_cons_succ]
    refine wpAnyH_ready (rs := [15]) (by kernel_rfl) (by simp) ?_
    refine AllReadyH.cons rfl (fun K hK => ?_) AllReadyH.nil
    refine held_append rfl _ _ 45 rfl rfl rfl HR2.out ?_
    refine hK.out _ _ (Lib.hid (below_keep (S := fun j => j = g) HB2.out)) (fun hS => ?_)
    clear hK K
    try simp only [Act.put, List.getElem_toArray, List.getElem_cons_succ, List.getElem_cons_zero, List.setIfInBounds_toArray, List.set_cons_zero, List.set_cons_succ]
    refine wpAnyH_take (i := 16) (v := ?_) rfl (by kernel_rfl) (by kernel_rfl) (by kernel_rfl) (fun _ _ _ h => h) (Or.inl ⟨by rfl, ?_⟩) hS ?_
    rotate_left
    · intro w hw
      go_simp
      try with_reducible rfl
    try simp only [Act.put, List.getElem_toArray, List.getElem_cons_succ, List.getElem_cons_zero, List.setIfInBounds_toArray, List.set_cons_zero, List.set_cons_succ]
    refine wpAnyH_take (i := 17) (v := ?_) rfl (by kernel_rfl) (by kernel_rfl) (by kernel_rfl) (fun _ _ _ h => h) (Or.inl ⟨by rfl, ?_⟩) hS ?_
    rotate_left
    · intro w hw
      go_simp
      try with_reducible rfl
    try simp only [Act.put, List.getElem_toArray, List.getElem_cons_succ, List.getElem_cons_zero, List.setIfInBounds_toArray, List.set_cons_zero, List.set_cons_succ]
    refine wpAnyH_ready (rs := [18]) (by kernel_rfl) (by simp) ?_
    refine AllReadyH.cons rfl (fun K hK => ?_) AllReadyH.nil
    have p1 := (BX.out.below HB2.out HG.out).cell 1
    have z1 := (BX.out.below HB2.out HG.out).free 1
    simp only [List.getElem?_cons_succ, List.getElem?_cons_zero] at p1
    go_simp
    refine hK.out _ _ (Lib.hid ((below_keep (S := fun j => j = g) HB2.out).setCell (p := ⟨g, 1, none⟩) (.inr rfl) _)) (fun hS => ?_)
    clear hK K p1 z1
    try simp only [Act.put, List.getElem_toArray, List.getElem_cons_succ, List.getElem_cons_zero, List.setIfInBounds_toArray, List.set_cons_zero, List.set_cons_succ]
    refine wpAnyH_done (by kernel_rfl) ?_ _
    go_wp2_with fail
    go_end0
    have hk : Keep (· = g) w (W2.setCell ⟨g, 1, none⟩ (.slice A3 L2.length c3)) := (below_keep (S := fun j => j = g) HB2.out).setCell (p := ⟨g, 1, none⟩) (.inr rfl) _
    refine ⟨A3, c3, rfl, hk, H.out.fresh hk ((BX.out.below HB2.out HG.out).set 1 _) (own_keep HO2.out ((Keep.refl (fun j => j = g) W2).setCell (p := ⟨g, 1, none⟩) (.inr rfl) _) fun k hk1 e => by
        have h1 := (HO2.out.lt k hk1).1
        have h2 := HG.out
        omega) (fun d hd => H.out.ok d (by
        rw [HL2.out] at hd
        rcases List.mem_append.1 hd with h1 | h1
        · exact List.mem_of_mem_take h1
        · exact List.mem_of_mem_drop h1)) (by rw [HL2.out, List.length_append, List.length_take, List.length_drop]; omega) ?_⟩
    have hs := H.out.sorted
    rw [H.out.told] at hs
    refine hs.sublist ?_
    refine List.Sublist.map _ ?_
    have : L.take i ++ L.drop (i + 1) = L.eraseIdx i := (List.eraseIdx_eq_take_drop_succ L i).symm
    rw [HL2.out, this]
    exact List.eraseIdx_sublist _ _
end
end Go.Proofs.Ytnbknihaefkllaa.Rk
