/- What Compare of package ikey, and the document's own Compare, answer: one contract each, for all keys. -/
import Derived.Test.YtobjiamdljjkjaaKcmp
import Derived.Lib.SmallJoins
import Derived.Deep.RegionHeld3
namespace Go.Proofs.Ytobjiamdljjkjaa.Ik
set_option linter.unusedVariables false
set_option linter.unusedSimpArgs false
open Go.RowKit Lift

/-- A key as a value. -/
abbrev key (A : Option Addr) (c : Nat) (a : K) : Value := .agg #[.slice A a.key.length c, .int .u64 (a.seq : Int), .int .i64 a.kind]
/-- A key whose bytes lie in memory. -/
def At (w : World) (B : Nat) (A : Option Addr) (c : Nat) (a : K) : Prop := Lies w B A (a.key.map vb) ∧ a.key.length ≤ c ∧ c ≤ maxLen ∧ a.ok
theorem At.below {w w' : World} {B : Nat} {A : Option Addr} {c : Nat} {a : K} (h : At w B A c a) (hb : Below B w w') : At w' B A c a := ⟨h.1.below hb, h.2⟩
theorem At.up {w : World} {B B' : Nat} {A : Option Addr} {c : Nat} {a : K} (h : At w B A c a) (hB : B ≤ B') : At w B' A c a := ⟨h.1.up hB, h.2⟩
theorem At.next {w w' : World} {A : Option Addr} {c : Nat} {a : K} (h : At w w.heap.size A c a) (hb : Below w.heap.size w w') : At w' w'.heap.size A c a := (h.below hb).up hb.size

theorem first3_eq (a b : K) : first3 (cmpB a.key b.key) (cmp3 b.seq a.seq) (cmp3 b.kind a.kind) = cmpK a b := rfl

/-- Two boxed keys. -/
def Two (W : World) (g h : Nat) (A1 A2 : Option Addr) (c1 c2 : Nat) (a b : K) : Prop :=
  W.cell? ⟨g, 0, none⟩ = some (.slice A1 a.key.length c1) ∧ W.cell? ⟨g, 1, none⟩ = some (.int .u64 (a.seq : Int)) ∧ W.cell? ⟨g, 2, none⟩ = some (.int .i64 a.kind) ∧
  W.cell? ⟨h, 0, none⟩ = some (.slice A2 b.key.length c2) ∧ W.cell? ⟨h, 1, none⟩ = some (.int .u64 (b.seq : Int)) ∧ W.cell? ⟨h, 2, none⟩ = some (.int .i64 b.kind)
theorem Two.later {W W' : World} {g h : Nat} {A1 A2 : Option Addr} {c1 c2 : Nat} {a b : K} (t : Two W g h A1 A2 c1 c2 a b) (hb : Below W.heap.size W W') (hg : g < W.heap.size) (hh : h < W.heap.size) : Two W' g h A1 A2 c1 c2 a b := by
  obtain ⟨h1, h2, h3, h4, h5, h6⟩ := t
  exact ⟨(hb.cell hg).trans h1, (hb.cell hg).trans h2, (hb.cell hg).trans h3, (hb.cell hh).trans h4, (hb.cell hh).trans h5, (hb.cell hh).trans h6⟩

set_option maxRecDepth 100000 in
set_option maxHeartbeats 800000 in
theorem cmp_any (A1 A2 : Option Addr) (c1 c2 : Nat) (a b : K) (w : World) (h1 : At w w.heap.size A1 c1 a) (h2 : At w w.heap.size A2 c2 b) :
    Calls Try.prog 43 #[key A1 c1 a, key A2 c2 b] w fun e w' => e = .returned (.int .i64 (cmpK a b)) ∧ Below w.heap.size w w' := by
  have X8 := Lib.hid h1.2.2.2.1
  have Y8 := Lib.hid h2.2.2.2.1
  have L1 := Lib.hid h1.1
  have L2 := Lib.hid h2.1
  clear h1 h2
  go_enter Try.func43, Try.ntmps43
  go_wp2_with fail
  have hb0 := Joins.below_alloc2 w (.cells #[.slice A1 a.key.length c1, .int .u64 (a.seq : Int), .int .i64 a.kind] 38) (.cells #[.slice A2 b.key.length c2, .int .u64 (b.seq : Int), .int .i64 b.kind] 38)
  have ht : Two ((w.alloc (.cells #[.slice A1 a.key.length c1, .int .u64 (a.seq : Int), .int .i64 a.kind] 38)).alloc (.cells #[.slice A2 b.key.length c2, .int .u64 (b.seq : Int), .int .i64 b.kind] 38)) w.heap.size (w.heap.size + 1) A1 A2 c1 c2 a b := by
    refine ⟨?_, ?_, ?_, ?_, ?_, ?_⟩
    all_goals go_simp
  have hsz : ((w.alloc (.cells #[.slice A1 a.key.length c1, .int .u64 (a.seq : Int), .int .i64 a.kind] 38)).alloc (.cells #[.slice A2 b.key.length c2, .int .u64 (b.seq : Int), .int .i64 b.kind] 38)).heap.size = w.heap.size + 2 := by simp
  generalize ((w.alloc (.cells #[.slice A1 a.key.length c1, .int .u64 (a.seq : Int), .int .i64 a.kind] 38)).alloc (.cells #[.slice A2 b.key.length c2, .int .u64 (b.seq : Int), .int .i64 b.kind] 38)) = W0 at hb0 ht hsz ⊢
  have HB := Lib.hid hb0
  have HT := Lib.hid ht
  have HZ := Lib.hid hsz
  have l1 := Lib.hid (L1.out.below hb0)
  have l2 := Lib.hid (L2.out.below hb0)
  clear hb0 ht hsz
  refine wp_region_held_drew (S := fun w' => Hid (Below W0.heap.size W0 w')) (by kernel_rfl) (Lib.hid (Below.refl _ _).drew) (fun hS => ?_)
  refine wpAnyH_take (i := 0) (v := ?_) rfl (by kernel_rfl) (by kernel_rfl) (by kernel_rfl) (fun _ _ _ h => h) (Or.inl ⟨by rfl, ?_⟩) hS ?_
  rotate_left
  · intro w hw
    go_simp
    try with_reducible rfl
  try simp only [Act.put, List.getElem_toArray, List.getElem_cons_succ, List.getElem_cons_zero, List.setIfInBounds_toArray, List.set_cons_zero, List.set_cons_succ]
  refine wpAnyH_take (i := 1) (v := ?_) rfl (by kernel_rfl) (by kernel_rfl) (by kernel_rfl) (fun _ _ _ h => h) (Or.inl ⟨by rfl, ?_⟩) hS ?_
  rotate_left
  · intro w hw
    obtain ⟨t1, t2, t3, t4, t5, t6⟩ := HT.out.later hw.out (by rw [HZ.out]; omega) (by rw [HZ.out]; omega)
    go_simp
    try with_reducible rfl
  try simp only [Act.put, List.getElem_toArray, List.getElem_cons_succ, List.getElem_cons_zero, List.setIfInBounds_toArray, List.set_cons_zero, List.set_cons_succ]
  refine wpAnyH_take (i := 2) (v := ?_) rfl (by kernel_rfl) (by kernel_rfl) (by kernel_rfl) (fun _ _ _ h => h) (Or.inl ⟨by rfl, ?_⟩) hS ?_
  rotate_left
  · intro w hw
    go_simp
    try with_reducible rfl
  try simp only [Act.put, List.getElem_toArray, List.getElem_cons_succ, List.getElem_cons_zero, List.setIfInBounds_toArray, List.set_cons_zero, List.set_cons_succ]
  refine wpAnyH_take (i := 3) (v := ?_) rfl (by kernel_rfl) (by kernel_rfl) (by kernel_rfl) (fun _ _ _ h => h) (Or.inl ⟨by rfl, ?_⟩) hS ?_
  rotate_left
  · intro w hw
    obtain ⟨t1, t2, t3, t4, t5, t6⟩ := HT.out.later hw.out (by rw [HZ.out]; omega) (by rw [HZ.out]; omega)
    go_simp
    try with_reducible rfl
  try simp only [Act.put, List.getElem_toArray, List.getElem_cons_succ, List.getElem_cons_zero, List.setIfInBounds_toArray, List.set_cons_zero, List.set_cons_succ]
  refine wpAnyH_take (i := 5) (v := ?_) rfl (by kernel_rfl) (by kernel_rfl) (by kernel_rfl) (fun _ _ _ h => h) (Or.inl ⟨by rfl, ?_⟩) hS ?_
  rotate_left
  · intro w hw
    go_simp
    try with_reducible rfl
  try simp only [Act.put, List.getElem_toArray, List.getElem_cons_succ, List.getElem_cons_zero, List.setIfInBounds_toArray, List.set_cons_zero, List.set_cons_succ]
  refine wpAnyH_take (i := 6) (v := ?_) rfl (by kernel_rfl) (by kernel_rfl) (by kernel_rfl) (fun _ _ _ h => h) (Or.inl ⟨by rfl, ?_⟩) hS ?_
  rotate_left
  · intro w hw
    obtain ⟨t1, t2, t3, t4, t5, t6⟩ := HT.out.later hw.out (by rw [HZ.out]; omega) (by rw [HZ.out]; omega)
    go_simp
    try with_reducible rfl
  try simp only [Act.put, List.getElem_toArray, List.getElem_cons_succ, List.getElem_cons_zero, List.setIfInBounds_toArray, List.set_cons_zero, List.set_cons_succ]
  refine wpAnyH_take (i := 7) (v := ?_) rfl (by kernel_rfl) (by kernel_rfl) (by kernel_rfl) (fun _ _ _ h => h) (Or.inl ⟨by rfl, ?_⟩) hS ?_
  rotate_left
  · intro w hw
    go_simp
    try with_reducible rfl
  try simp only [Act.put, List.getElem_toArray, List.getElem_cons_succ, List.getElem_cons_zero, List.setIfInBounds_toArray, List.set_cons_zero, List.set_cons_succ]
  refine wpAnyH_take (i := 8) (v := ?_) rfl (by kernel_rfl) (by kernel_rfl) (by kernel_rfl) (fun _ _ _ h => h) (Or.inl ⟨by rfl, ?_⟩) hS ?_
  rotate_left
  · intro w hw
    obtain ⟨t1, t2, t3, t4, t5, t6⟩ := HT.out.later hw.out (by rw [HZ.out]; omega) (by rw [HZ.out]; omega)
    go_simp
    try with_reducible rfl
  try simp only [Act.put, List.getElem_toArray, List.getElem_cons_succ, List.getElem_cons_zero, List.setIfInBounds_toArray, List.set_cons_zero, List.set_cons_succ]
  refine wpAnyH_take (i := 10) (v := ?_) rfl (by kernel_rfl) (by kernel_rfl) (by kernel_rfl) (fun _ _ _ h => h) (Or.inl ⟨by rfl, ?_⟩) hS ?_
  rotate_left
  · intro w hw
    go_simp
    try with_reducible rfl
  try simp only [Act.put, List.getElem_toArray, List.getElem_cons_succ, List.getElem_cons_zero, List.setIfInBounds_toArray, List.set_cons_zero, List.set_cons_succ]
  refine wpAnyH_take (i := 11) (v := ?_) rfl (by kernel_rfl) (by kernel_rfl) (by kernel_rfl) (fun _ _ _ h => h) (Or.inl ⟨by rfl, ?_⟩) hS ?_
  rotate_left
  · intro w hw
    obtain ⟨t1, t2, t3, t4, t5, t6⟩ := HT.out.later hw.out (by rw [HZ.out]; omega) (by rw [HZ.out]; omega)
    go_simp
    try with_reducible rfl
  try simp only [Act.put, List.getElem_toArray, List.getElem_cons_succ, List.getElem_cons_zero, List.setIfInBounds_toArray, List.set_cons_zero, List.set_cons_succ]
  refine wpAnyH_take (i := 12) (v := ?_) rfl (by kernel_rfl) (by kernel_rfl) (by kernel_rfl) (fun _ _ _ h => h) (Or.inl ⟨by rfl, ?_⟩) hS ?_
  rotate_left
  · intro w hw
    go_simp
    try with_reducible rfl
  try simp only [Act.put, List.getElem_toArray, List.getElem_cons_succ, List.getElem_cons_zero, List.setIfInBounds_toArray, List.set_cons_zero, List.set_cons_succ]
  refine wpAnyH_take (i := 13) (v := ?_) rfl (by kernel_rfl) (by kernel_rfl) (by kernel_rfl) (fun _ _ _ h => h) (Or.inl ⟨by rfl, ?_⟩) hS ?_
  rotate_left
  · intro w hw
    obtain ⟨t1, t2, t3, t4, t5, t6⟩ := HT.out.later hw.out (by rw [HZ.out]; omega) (by rw [HZ.out]; omega)
    go_simp
    try with_reducible rfl
  try simp only [Act.put, List.getElem_toArray, List.getElem_cons_succ, List.getElem_cons_zero, List.setIfInBounds_toArray, List.set_cons_zero, List.set_cons_succ]
  refine wpAnyH_ready (rs := [4]) (by kernel_rfl) (by simp) ?_
  refine AllReadyH.cons rfl (fun K hK => ?_) AllReadyH.nil
  go_simp
  refine (bcmp_any A1 A2 c1 c2 _ _ a.key b.key _ (l1.out.below (hS.out.mono HB.out.size)) (l2.out.below (hS.out.mono HB.out.size)) X8.out Y8.out).mono ?_; rintro e w' ⟨rfl, rfl⟩
  refine hK.out _ _ hS (fun hS => ?_)
  clear hK K
  try simp only [Act.put, List.getElem_toArray, List.getElem_cons_succ, List.getElem_cons_zero, List.setIfInBounds_toArray, List.set_cons_zero, List.set_cons_succ]
  refine wpAnyH_ready (rs := [9]) (by kernel_rfl) (by simp) ?_
  refine AllReadyH.cons rfl (fun K hK => ?_) AllReadyH.nil
  go_simp
  refine (cmpu_any _ _ _).mono ?_; rintro e w' ⟨rfl, rfl⟩
  refine hK.out _ _ hS (fun hS => ?_)
  clear hK K
  try simp only [Act.put, List.getElem_toArray, List.getElem_cons_succ, List.getElem_cons_zero, List.setIfInBounds_toArray, List.set_cons_zero, List.set_cons_succ]
  refine wpAnyH_ready (rs := [14]) (by kernel_rfl) (by simp) ?_
  refine AllReadyH.cons rfl (fun K hK => ?_) AllReadyH.nil
  go_simp
  refine (cmpi_any _ _ _).mono ?_; rintro e w' ⟨rfl, rfl⟩
  refine hK.out _ _ hS (fun hS => ?_)
  clear hK K
  try simp only [Act.put, List.getElem_toArray, List.getElem_cons_succ, List.getElem_cons_zero, List.setIfInBounds_toArray, List.set_cons_zero, List.set_cons_succ]
  refine wpAnyH_ready (rs := [15]) (by kernel_rfl) (by simp) ?_
  refine AllReadyH.cons rfl (fun K hK => ?_) AllReadyH.nil
  go_simp
  have hw4 := (hS.out.mono HB.out.size)
  have hz4 : w.heap.size ≤ W0.drew.heap.size := Nat.le_trans HB.out.size hw4.size
  have hba : Below W0.drew.heap.size W0.drew (W0.drew.alloc (.cells #[.int .i64 (cmpB a.key b.key), .int .i64 (cmp3 b.seq a.seq), .int .i64 (cmp3 b.kind a.kind)] 3)) := (Below.refl _ _).alloc (Nat.le_refl _) _
  refine hK.out _ _ (Lib.hid (hS.out.trans (hba.mono hS.out.size))) (fun hS5 => ?_)
  clear hK K
  have HE := Lib.hid (HB.out.trans (hw4.trans (hba.mono hz4)))
  have ho : ∀ w', w' = (W0.drew.alloc (.cells #[.int .i64 (cmpB a.key b.key), .int .i64 (cmp3 b.seq a.seq), .int .i64 (cmp3 b.kind a.kind)] 3)) → Calls Try.prog 76 #[.slice (some ⟨W0.heap.size, 0, none⟩) 3 3] w' fun e w'' => e = .returned (.int .i64 (cmpK a b)) ∧ w' = w'' := by
    rintro _ rfl
    rw [← first3_eq]
    refine or_any _ _ _ _ _ ?_ ?_ ?_
    all_goals go_simp
  have HO := Lib.hid (ho _ rfl)
  clear ho hba
  try simp only [Act.put, List.getElem_toArray, List.getElem_cons_succ, List.getElem_cons_zero, List.setIfInBounds_toArray, List.set_cons_zero, List.set_cons_succ]
  refine wpAnyH_ready (rs := [16]) (by kernel_rfl) (by simp) ?_
  refine AllReadyH.cons rfl (fun K hK => ?_) AllReadyH.nil
  go_simp
  refine HO.out.mono ?_; rintro e w' ⟨rfl, rfl⟩
  refine hK.out _ _ hS5 (fun hS => ?_)
  clear hK K
  try simp only [Act.put, List.getElem_toArray, List.getElem_cons_succ, List.getElem_cons_zero, List.setIfInBounds_toArray, List.set_cons_zero, List.set_cons_succ]
  refine wpAnyH_take (i := 17) (v := ?_) rfl (by kernel_rfl) (by kernel_rfl) (by kernel_rfl) (fun _ _ _ h => h) (Or.inl ⟨by rfl, ?_⟩) hS ?_
  rotate_left
  · intro w hw
    go_simp
    try with_reducible rfl
  try simp only [Act.put, List.getElem_toArray, List.getElem_cons_succ, List.getElem_cons_zero, List.setIfInBounds_toArray, List.set_cons_zero, List.set_cons_succ]
  refine wpAnyH_done (by kernel_rfl) ?_ _
  go_wp2_with fail
  go_ret
  exact ⟨rfl, HE.out⟩
end Go.Proofs.Ytobjiamdljjkjaa.Ik
