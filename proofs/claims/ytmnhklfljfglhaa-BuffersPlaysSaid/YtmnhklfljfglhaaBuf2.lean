/- Buffers of the project: what the calls that write answer, and the sizes. -/
import Derived.Test.YtmnhklfljfglhaaBuf
namespace Go.Proofs.Ytmnhklfljfglhaa.Bu
set_option linter.unusedVariables false
set_option linter.unusedSimpArgs false
open Go.RowKit Lift Ik
theorem append_clip {w : World} {B g0 : Nat} {A : Option Addr} {xs : List Nat} {a : Nat} (hl : Lies w B A (xs.map vi)) (hA : A = none → xs.length = 0) (hn : xs.length ≤ 1000) (hx : w.cell? ⟨g0, 0, none⟩ = some (vi a)) :
    ∃ v' w', Sem.run Try.prog (Builtin.append_ #[23, 23] 23 #[.slice A xs.length xs.length, .slice (some ⟨g0, 0, none⟩) 1 1]) w = .ok v' w' ∧ w'.ownsRow w.heap.size 3 1 v' (xs.length + 1) ((xs ++ [a]).map vi) ∧ Below w.heap.size w w' := by
  have hc : ∀ j u, [vi a][j]? = some u → w.cell? ((⟨g0, 0, none⟩ : Addr).add j) = some u := fun j u hj => by
    rcases j with _ | j
    · simp at hj; subst hj; exact hx
    · simp at hj
  rw [List.map_append]
  rcases A with _ | ad
  · have h0 := hA rfl
    obtain rfl := List.eq_nil_of_length_eq_zero h0
    obtain ⟨v', w', h1, h2, h3, _⟩ := run_append_lies (P := Try.prog) (w := w) (base := w.heap.size) (m := 1) (c := 1) (A := some ⟨g0, 0, none⟩) (cs := [vi a]) (B := g0 + 1) 23 23 3 (.int .i64 0) 1 8 Try.underlying23 (by kernel_rfl) rfl (by decide)
      (fun u hu => by simp at hu; subst hu; rfl) (World.ownsRow_nil _ _ _ _) (.inr ⟨_, rfl, Nat.lt_succ_self _, hc⟩) rfl (by unfold maxLen; omega) (by omega) (Nat.le_refl _)
    exact ⟨v', w', h1, h2, h3⟩
  · have hcs : ∀ j u, (xs.map vi)[j]? = some u → w.cell? (ad.add j) = some u := fun j u hj => by
      rcases hl with h | ⟨ad', e, _, hcell⟩
      · rw [h] at hj; simp at hj
      · injection e with e
        subst e
        exact hcell j u hj
    obtain ⟨i, hi, hz0, hs, hb⟩ := info_parts (P := Try.prog) (e := 3) (z := .int .i64 0) (size := 1) (bytes := 8) (by kernel_rfl)
    obtain ⟨v', w', h1, h2, h3⟩ := run_append_arg_grows (P := Try.prog) w 23 23 3 i (.int .i64 0) 1 8 Try.underlying23 hi hz0 hs hb rfl (by decide) ad xs.length xs.length (xs.map vi) (by simp) hcs
      ⟨g0, 0, none⟩ 1 1 [vi a] rfl hc (by omega) (by unfold maxLen; omega) (by omega)
    exact ⟨v', w', h1, h2, (Below.refl w.heap.size w).grown h3 (Nat.le_refl _) (fun k hk => by cases hk)⟩
theorem clip_any (A : Option Addr) (n c : Nat) (h : n ≤ c) (hm : c ≤ maxLen) (w : World) : Calls Try.prog 78 #[.slice A n c] w fun e w' => e = .returned (.slice A n n) ∧ w = w' := by
  unfold maxLen at hm
  go_enter Try.func78, Try.ntmps78
  go_wp2_with fail
  go_ret
  exact ⟨rfl, rfl⟩
section
variable {w w' : World} {g bu mo ac c : Nat} {S : Nat → Prop} {fs : List Nat} {A : Option Addr}
/-- What becomes of buffers that a call writes. -/
def Went (w : World) (g : Nat) (S : Nat → Prop) (bu mo : Nat) (fs : List Nat) (ac : Nat) (w' : World) : Prop := ∃ S', BU w' g S' bu mo fs ac ∧ Keep S w w' ∧ ∀ k, S' k → S k ∨ w.heap.size ≤ k
theorem Went.stay (h : BU w g S bu mo fs ac) (hb : Below w.heap.size w w') : Went w g S bu mo fs ac w' := ⟨S, h.below hb, below_keep hb, fun k hk => .inl hk⟩
theorem turned {w w0 W2 : World} {g bu mo ac c c2 : Nat} {S : Nat → Prop} {fs : List Nat} {A A2 : Option Addr} (h : BL w g S bu mo fs ac A c) (hr : fs.length < mo) (hg : g < w.heap.size) (hb : Below w.heap.size w W2)
    (ho : W2.ownsRow (w0.alloc (.cells #[.int .i64 (ac : Int)] 3)).heap.size 3 1 (.slice A2 (fs.length + 1) c2) (fs.length + 1) ((fs ++ [ac]).map vi)) (hw : w.heap.size ≤ w0.heap.size) (hc : fs.length + 1 ≤ c2) (hm : c2 ≤ maxLen) (hv : A2 = none → c2 = 0)
    (hb3 : Lift.Box (W2.setCell ⟨g, 3, none⟩ (.slice A2 (fs.length + 1) c2)) g Ty.bufs ([vi bu, vi mo, vi ac, .slice A fs.length c].set 3 (.slice A2 (fs.length + 1) c2))) :
    Went w g S bu mo (fs ++ [ac]) 0 ((W2.setCell ⟨g, 3, none⟩ (.slice A2 (fs.length + 1) c2)).setCell ⟨g, 2, none⟩ (.int .i64 0)) := by
  have hk : Keep (· = g) w ((W2.setCell ⟨g, 3, none⟩ (.slice A2 (fs.length + 1) c2)).setCell ⟨g, 2, none⟩ (.int .i64 0)) := ((below_keep (S := (· = g)) hb).setCell (p := ⟨g, 3, none⟩) (.inr rfl) _).setCell (p := ⟨g, 2, none⟩) (.inr rfl) _
  have hsz : ((W2.setCell ⟨g, 3, none⟩ (.slice A2 (fs.length + 1) c2)).setCell ⟨g, 2, none⟩ (.int .i64 0)).heap.size = W2.heap.size := by simp [World.setCell]
  have hblk : ∀ k, k ≠ g → ((W2.setCell ⟨g, 3, none⟩ (.slice A2 (fs.length + 1) c2)).setCell ⟨g, 2, none⟩ (.int .i64 0)).heap[k]? = W2.heap[k]? := fun k hk => (Below.heap_setCell _ _ _ _ (fun e => hk e)).trans (Below.heap_setCell _ _ _ _ (fun e => hk e))
  refine ⟨fun k => S k ∨ (w.heap.size ≤ k ∧ k < W2.heap.size), ⟨A2, c2, ?_, ?_, ?_, hm, hv, .inl h.sg, ?_, ?_⟩, hk.mono fun k hk => by rw [hk]; exact h.sg, fun k hk => hk.imp id fun h => h.1⟩
  · have := hb3.set 2 (vi 0)
    rw [List.length_append]
    exact this
  · refine (LiesP.of_own ho).later (fun k hk => ?_) fun k hk => ?_
    · refine hblk k ?_
      have h1 : w0.heap.size + 1 ≤ k := by simpa using hk.1
      omega
    · have h1 : w0.heap.size + 1 ≤ k := by simpa using hk.1
      exact ⟨.inr ⟨by omega, hk.2.1⟩, by omega⟩
  · rw [List.length_append]; exact hc
  · intro k hk
    rw [hsz]
    exact hk.elim (fun h1 => Nat.lt_of_lt_of_le (h.lt k h1) hb.size) fun h1 => h1.2
  · obtain ⟨b1, b2, m1, m2, hl, he, ha⟩ := h.ok
    exact ⟨b1, b2, m1, m2, by rw [List.length_append]; exact hr, fun f hf => (List.mem_append.1 hf).elim (he f) fun h1 => by rw [List.mem_singleton.1 h1]; exact ha, Nat.zero_le _⟩
set_option maxRecDepth 100000 in
set_option maxHeartbeats 800000 in
theorem turn_any (h : BU w g S bu mo fs ac) (hr : fs.length < mo) : Calls Try.prog (63) #[.pointer (some ⟨g, 0, none⟩)] w fun e w' => e = .returned (.tuple #[]) ∧ Went w g S bu mo (fs ++ [ac]) 0 w' := by
  obtain ⟨A, c, h⟩ := h
  have HL := Lib.hid h
  have HR := Lib.hid hr
  have hlen : fs.length ≤ 1000 := by have := h.ok.m2; omega
  have hc := h.hc
  have hm := h.hm
  have HG := Lib.hid (h.lt g h.sg)
  have HC := fun W => Lib.hid (clip_any A fs.length c hc hm W)
  clear h hr
  go_enter (Try.func63), (Try.ntmps63)
  go_wp2_with fail
  refine wp_region_held_drew (S := fun w' => Hid (Keep (· = g) w w' ∧ w'.cell? ⟨g, 2, none⟩ = some (.int .i64 (ac : Int)))) (by kernel_rfl) (Lib.hid ⟨(Keep.refl _ _).drew, HL.out.facts.2.2.1⟩) (fun hS => ?_)
  refine wpAnyH_take (i := 0) (v := ?_) rfl (by kernel_rfl) (by kernel_rfl) (by kernel_rfl) (fun _ _ _ h => h) (Or.inl ⟨by rfl, ?_⟩) hS ?_
  rotate_left
  · intro w hw
    go_simp
    try with_reducible rfl
  try simp only [Act.put, List.getElem_toArray, List.getElem_cons_succ, List.getElem_cons_zero, List.setIfInBounds_toArray, List.set_cons_zero, List.set_cons_succ]
  refine wpAnyH_take (i := 1) (v := ?_) rfl (by kernel_rfl) (by kernel_rfl) (by kernel_rfl) (fun _ _ _ h => h) (Or.inl ⟨by rfl, ?_⟩) hS ?_
  rotate_left
  · intro w hw
    go_simp
    try with_reducible rfl
  try simp only [Act.put, List.getElem_toArray, List.getElem_cons_succ, List.getElem_cons_zero, List.setIfInBounds_toArray, List.set_cons_zero, List.set_cons_succ]
  refine wpAnyH_take (i := 2) (v := ?_) rfl (by kernel_rfl) (by kernel_rfl) (by kernel_rfl) (fun _ _ _ h => h) (Or.inl ⟨by rfl, ?_⟩) hS ?_
  rotate_left
  · intro w hw
    go_simp
    try with_reducible rfl
  try simp only [Act.put, List.getElem_toArray, List.getElem_cons_succ, List.getElem_cons_zero, List.setIfInBounds_toArray, List.set_cons_zero, List.set_cons_succ]
  refine wpAnyH_take (i := 3) (v := ?_) rfl (by kernel_rfl) (by kernel_rfl) (by kernel_rfl) (fun _ _ _ h => h) (Or.inl ⟨by rfl, ?_⟩) hS ?_
  rotate_left
  · intro w hw
    go_simp
    try with_reducible rfl
  try simp only [Act.put, List.getElem_toArray, List.getElem_cons_succ, List.getElem_cons_zero, List.setIfInBounds_toArray, List.set_cons_zero, List.set_cons_succ]
  refine wpAnyH_take (i := 6) (v := ?_) rfl (by kernel_rfl) (by kernel_rfl) (by kernel_rfl) (fun _ _ _ h => h) (Or.inl ⟨by rfl, ?_⟩) hS ?_
  rotate_left
  · intro w hw
    go_simp
    try with_reducible rfl
  try simp only [Act.put, List.getElem_toArray, List.getElem_cons_succ, List.getElem_cons_zero, List.setIfInBounds_toArray, List.set_cons_zero, List.set_cons_succ]
  refine wpAnyH_take (i := 7) (v := ?_) rfl (by kernel_rfl) (by kernel_rfl) (by kernel_rfl) (fun _ _ _ h => h) (Or.inl ⟨by rfl, ?_⟩) hS ?_
  rotate_left
  · intro w hw
    go_simp
    try with_reducible rfl
  try simp only [Act.put, List.getElem_toArray, List.getElem_cons_succ, List.getElem_cons_zero, List.setIfInBounds_toArray, List.set_cons_zero, List.set_cons_succ]
  refine wpAnyH_take (i := 8) (v := ?_) rfl (by kernel_rfl) (by kernel_rfl) (by kernel_rfl) (fun _ _ _ h => h) (Or.inl ⟨by rfl, ?_⟩) hS ?_
  rotate_left
  · intro w hw
    go_simp
    try with_reducible rfl
  try simp only [Act.put, List.getElem_toArray, List.getElem_cons_succ, List.getElem_cons_zero, List.setIfInBounds_toArray, List.set_cons_zero, List.set_cons_succ]
  refine wpAnyH_take (i := 9) (v := ?_) rfl (by kernel_rfl) (by kernel_rfl) (by kernel_rfl) (fun _ _ _ h => h) (Or.inl ⟨by rfl, ?_⟩) hS ?_
  rotate_left
  · intro w hw
    have f2 := hw.out.2
    go_simp
    try with_reducible rfl
  try simp only [Act.put, List.getElem_toArray, List.getElem_cons_succ, List.getElem_cons_zero, List.setIfInBounds_toArray, List.set_cons_zero, List.set_cons_succ]
  have HL0 : Hid (BL w.drew g S bu mo fs ac A c) := Lib.hid (HL.out.same (fun _ _ => rfl) (Nat.le_refl _))
  have HB0 : Hid (Below w.heap.size w w.drew) := Lib.hid (Below.refl _ _).drew
  generalize w.drew = w0 at hS HL0 HB0 ⊢
  have hbx := (HL0.out.box.alloc (.cells #[.int .i64 (ac : Int)] 3))
  obtain ⟨v2, W2, hr2, hown, hb2⟩ := append_clip (w := w0.alloc (.cells #[.int .i64 (ac : Int)] 3)) (g0 := w0.heap.size) (a := ac) ((HL0.out.lies.lies (fun k hk => HL0.out.lt k hk.1)).below (Joins.below_alloc1 w0 _)) (fun e => by have := HL0.out.nil e; omega) hlen (World.cell?_alloc_new w0 #[.int .i64 (ac : Int)] _ 0)
  have hba : Below w0.heap.size w0 (w0.alloc (.cells #[.int .i64 (ac : Int)] 3)) := Joins.below_alloc1 w0 _
  have HB1 : Hid (Keep (· = g) w (w0.alloc (.cells #[.int .i64 (ac : Int)] 3)) ∧ (w0.alloc (.cells #[.int .i64 (ac : Int)] 3)).cell? ⟨g, 2, none⟩ = some (.int .i64 (ac : Int))) := Lib.hid ⟨below_keep (HB0.out.trans (hba.mono HB0.out.size)), hbx.cell 2⟩
  have hb02 : Below w0.heap.size w0 W2 := hba.trans (hb2.mono hba.size)
  have hbx2 : Lift.Box W2 g Ty.bufs [vi bu, vi mo, vi ac, .slice A fs.length c] := HL0.out.box.below hb02 (HL0.out.lt g HL0.out.sg)
  have HB2 : Hid (Keep (· = g) w W2 ∧ W2.cell? ⟨g, 2, none⟩ = some (.int .i64 (ac : Int))) := Lib.hid ⟨below_keep (HB0.out.trans (hb02.mono HB0.out.size)), hbx2.cell 2⟩
  have HBX2 := Lib.hid hbx2
  have HR2 := Lib.hid hr2
  have HOWN := Lib.hid hown
  have HW2 := Lib.hid (HB0.out.trans (hb02.mono HB0.out.size))
  have HSZ := Lib.hid (Nat.le_trans hba.size hb2.size)
  have F3a := Lib.hid HL0.out.facts.2.2.2
  have F3b := Lib.hid (hbx.cell 3)
  obtain ⟨A2, c2, hv2, hc2, hm2, -⟩ := own_parts hown
  subst hv2
  have HV := Lib.hid (show A2 = none → c2 = 0 from fun e => by
    rcases HOWN.out.2 with ⟨e2, _⟩ | ⟨_, _, _, e2, _⟩
    · injection e2 with _ _ e3
    · injection e2 with e3
      rw [e] at e3
      cases e3)
  have HC2 := Lib.hid hc2
  have HM2 := Lib.hid hm2
  clear hr2 hown hb2 hba hb02 hbx hbx2 hc2 hm2
  refine wpAnyH_ready (rs := [4, 10]) (by kernel_rfl) (by simp) ?_
  refine (AllReadyH.cons rfl (fun K hK => ?_) (AllReadyH.cons rfl (fun K hK => ?_) AllReadyH.nil))
  · skip
    have f3 := F3a.out
    try simp only [List.getElem?_cons_succ, List.getElem?_cons_zero] at f3
    go_simp
    refine hK.out _ _ hS (fun hS => ?_)
    clear hK K f3
    try simp only [Act.put, List.getElem_toArray, List.getElem_cons_succ, List.getElem_cons_zero, List.setIfInBounds_toArray, List.set_cons_zero, List.set_cons_succ]
    refine wpAnyH_ready (rs := [5, 10]) (by kernel_rfl) (by simp) ?_
    refine (AllReadyH.cons rfl (fun K hK => ?_) (AllReadyH.cons rfl (fun K hK => ?_) AllReadyH.nil))
    · skip
      go_simp
      refine (HC _).out.mono ?_
      rintro e w' ⟨rfl, rfl⟩
      refine hK.out _ _ hS (fun hS => ?_)
      clear hK K
      try simp only [Act.put, List.getElem_toArray, List.getElem_cons_succ, List.getElem_cons_zero, List.setIfInBounds_toArray, List.set_cons_zero, List.set_cons_succ]
      refine wpAnyH_ready (rs := [10]) (by kernel_rfl) (by simp) ?_
      refine (AllReadyH.cons rfl (fun K hK => ?_) AllReadyH.nil)
      go_simp
      refine hK.out _ _ HB1 (fun hS => ?_)
      clear hK K
      try simp only [Act.put, List.getElem_toArray, List.getElem_cons_succ, List.getElem_cons_zero, List.setIfInBounds_toArray, List.set_cons_zero, List.set_cons_succ]
      refine wpAnyH_ready (rs := [11]) (by kernel_rfl) (by simp) ?_
      refine (AllReadyH.cons rfl (fun K hK => ?_) AllReadyH.nil)
      refine held_append rfl _ _ 23 rfl rfl rfl HR2.out ?_
      refine hK.out _ _ HB2 (fun hS => ?_)
      clear hK K
      try simp only [Act.put, List.getElem_toArray, List.getElem_cons_succ, List.getElem_cons_zero, List.setIfInBounds_toArray, List.set_cons_zero, List.set_cons_succ]
      refine wpAnyH_take (i := 12) (v := ?_) rfl (by kernel_rfl) (by kernel_rfl) (by kernel_rfl) (fun _ _ _ h => h) (Or.inl ⟨by rfl, ?_⟩) hS ?_
      rotate_left
      · intro w hw
        go_simp
        try with_reducible rfl
      try simp only [Act.put, List.getElem_toArray, List.getElem_cons_succ, List.getElem_cons_zero, List.setIfInBounds_toArray, List.set_cons_zero, List.set_cons_succ]
      refine wpAnyH_take (i := 13) (v := ?_) rfl (by kernel_rfl) (by kernel_rfl) (by kernel_rfl) (fun _ _ _ h => h) (Or.inl ⟨by rfl, ?_⟩) hS ?_
      rotate_left
      · intro w hw
        go_simp
        try with_reducible rfl
      try simp only [Act.put, List.getElem_toArray, List.getElem_cons_succ, List.getElem_cons_zero, List.setIfInBounds_toArray, List.set_cons_zero, List.set_cons_succ]
      refine wpAnyH_ready (rs := [14]) (by kernel_rfl) (by simp) ?_
      refine (AllReadyH.cons rfl (fun K hK => ?_) AllReadyH.nil)
      have z3 := HBX2.out.free 3
      have p3 := HBX2.out.cell 3
      simp only [List.getElem?_cons_succ, List.getElem?_cons_zero] at p3
      go_simp
      refine hK.out _ _ (Lib.hid ⟨(HB2.out.1).setCell (p := ⟨g, 3, none⟩) (.inr rfl) _, (HBX2.out.set 3 _).cell 2⟩) (fun hS => ?_)
      clear hK K z3 p3
      try simp only [Act.put, List.getElem_toArray, List.getElem_cons_succ, List.getElem_cons_zero, List.setIfInBounds_toArray, List.set_cons_zero, List.set_cons_succ]
      refine wpAnyH_done (by kernel_rfl) ?_ _
      have b3 := HBX2.out.set 3 (.slice A2 (fs.length + 1) c2)
      have p2 := b3.cell 2
      have z2 := b3.free 2
      simp only [List.set_cons_succ, List.set_cons_zero, List.getElem?_cons_succ, List.getElem?_cons_zero] at p2
      have HB3 := Lib.hid b3
      clear b3
      go_wp2_with fail
      go_end0
      exact ⟨rfl, turned HL.out HR.out HG.out HW2.out HOWN.out HB0.out.size HC2.out HM2.out HV.out HB3.out⟩
    · skip
      go_simp
      refine hK.out _ _ HB1 (fun hS => ?_)
      clear hK K
      try simp only [Act.put, List.getElem_toArray, List.getElem_cons_succ, List.getElem_cons_zero, List.setIfInBounds_toArray, List.set_cons_zero, List.set_cons_succ]
      refine wpAnyH_ready (rs := [5]) (by kernel_rfl) (by simp) ?_
      refine (AllReadyH.cons rfl (fun K hK => ?_) AllReadyH.nil)
      go_simp
      refine (HC _).out.mono ?_
      rintro e w' ⟨rfl, rfl⟩
      refine hK.out _ _ hS (fun hS => ?_)
      clear hK K
      try simp only [Act.put, List.getElem_toArray, List.getElem_cons_succ, List.getElem_cons_zero, List.setIfInBounds_toArray, List.set_cons_zero, List.set_cons_succ]
      refine wpAnyH_ready (rs := [11]) (by kernel_rfl) (by simp) ?_
      refine (AllReadyH.cons rfl (fun K hK => ?_) AllReadyH.nil)
      refine held_append rfl _ _ 23 rfl rfl rfl HR2.out ?_
      refine hK.out _ _ HB2 (fun hS => ?_)
      clear hK K
      try simp only [Act.put, List.getElem_toArray, List.getElem_cons_succ, List.getElem_cons_zero, List.setIfInBounds_toArray, List.set_cons_zero, List.set_cons_succ]
      refine wpAnyH_take (i := 12) (v := ?_) rfl (by kernel_rfl) (by kernel_rfl) (by kernel_rfl) (fun _ _ _ h => h) (Or.inl ⟨by rfl, ?_⟩) hS ?_
      rotate_left
      · intro w hw
        go_simp
        try with_reducible rfl
      try simp only [Act.put, List.getElem_toArray, List.getElem_cons_succ, List.getElem_cons_zero, List.setIfInBounds_toArray, List.set_cons_zero, List.set_cons_succ]
      refine wpAnyH_take (i := 13) (v := ?_) rfl (by kernel_rfl) (by kernel_rfl) (by kernel_rfl) (fun _ _ _ h => h) (Or.inl ⟨by rfl, ?_⟩) hS ?_
      rotate_left
      · intro w hw
        go_simp
        try with_reducible rfl
      try simp only [Act.put, List.getElem_toArray, List.getElem_cons_succ, List.getElem_cons_zero, List.setIfInBounds_toArray, List.set_cons_zero, List.set_cons_succ]
      refine wpAnyH_ready (rs := [14]) (by kernel_rfl) (by simp) ?_
      refine (AllReadyH.cons rfl (fun K hK => ?_) AllReadyH.nil)
      have z3 := HBX2.out.free 3
      have p3 := HBX2.out.cell 3
      simp only [List.getElem?_cons_succ, List.getElem?_cons_zero] at p3
      go_simp
      refine hK.out _ _ (Lib.hid ⟨(HB2.out.1).setCell (p := ⟨g, 3, none⟩) (.inr rfl) _, (HBX2.out.set 3 _).cell 2⟩) (fun hS => ?_)
      clear hK K z3 p3
      try simp only [Act.put, List.getElem_toArray, List.getElem_cons_succ, List.getElem_cons_zero, List.setIfInBounds_toArray, List.set_cons_zero, List.set_cons_succ]
      refine wpAnyH_done (by kernel_rfl) ?_ _
      have b3 := HBX2.out.set 3 (.slice A2 (fs.length + 1) c2)
      have p2 := b3.cell 2
      have z2 := b3.free 2
      simp only [List.set_cons_succ, List.set_cons_zero, List.getElem?_cons_succ, List.getElem?_cons_zero] at p2
      have HB3 := Lib.hid b3
      clear b3
      go_wp2_with fail
      go_end0
      exact ⟨rfl, turned HL.out HR.out HG.out HW2.out HOWN.out HB0.out.size HC2.out HM2.out HV.out HB3.out⟩
  · skip
    go_simp
    refine hK.out _ _ HB1 (fun hS => ?_)
    clear hK K
    try simp only [Act.put, List.getElem_toArray, List.getElem_cons_succ, List.getElem_cons_zero, List.setIfInBounds_toArray, List.set_cons_zero, List.set_cons_succ]
    refine wpAnyH_ready (rs := [4]) (by kernel_rfl) (by simp) ?_
    refine (AllReadyH.cons rfl (fun K hK => ?_) AllReadyH.nil)
    have f3 := F3b.out
    try simp only [List.getElem?_cons_succ, List.getElem?_cons_zero] at f3
    go_simp
    refine hK.out _ _ hS (fun hS => ?_)
    clear hK K f3
    try simp only [Act.put, List.getElem_toArray, List.getElem_cons_succ, List.getElem_cons_zero, List.setIfInBounds_toArray, List.set_cons_zero, List.set_cons_succ]
    refine wpAnyH_ready (rs := [5]) (by kernel_rfl) (by simp) ?_
    refine (AllReadyH.cons rfl (fun K hK => ?_) AllReadyH.nil)
    go_simp
    refine (HC _).out.mono ?_
    rintro e w' ⟨rfl, rfl⟩
    refine hK.out _ _ hS (fun hS => ?_)
    clear hK K
    try simp only [Act.put, List.getElem_toArray, List.getElem_cons_succ, List.getElem_cons_zero, List.setIfInBounds_toArray, List.set_cons_zero, List.set_cons_succ]
    refine wpAnyH_ready (rs := [11]) (by kernel_rfl) (by simp) ?_
    refine (AllReadyH.cons rfl (fun K hK => ?_) AllReadyH.nil)
    refine held_append rfl _ _ 23 rfl rfl rfl HR2.out ?_
    refine hK.out _ _ HB2 (fun hS => ?_)
    clear hK K
    try simp only [Act.put, List.getElem_toArray, List.getElem_cons_succ, List.getElem_cons_zero, List.setIfInBounds_toArray, List.set_cons_zero, List.set_cons_succ]
    refine wpAnyH_take (i := 12) (v := ?_) rfl (by kernel_rfl) (by kernel_rfl) (by kernel_rfl) (fun _ _ _ h => h) (Or.inl ⟨by rfl, ?_⟩) hS ?_
    rotate_left
    · intro w hw
      go_simp
      try with_reducible rfl
    try simp only [Act.put, List.getElem_toArray, List.getElem_cons_succ, List.getElem_cons_zero, List.setIfInBounds_toArray, List.set_cons_zero, List.set_cons_succ]
    refine wpAnyH_take (i := 13) (v := ?_) rfl (by kernel_rfl) (by kernel_rfl) (by kernel_rfl) (fun _ _ _ h => h) (Or.inl ⟨by rfl, ?_⟩) hS ?_
    rotate_left
    · intro w hw
      go_simp
      try with_reducible rfl
    try simp only [Act.put, List.getElem_toArray, List.getElem_cons_succ, List.getElem_cons_zero, List.setIfInBounds_toArray, List.set_cons_zero, List.set_cons_succ]
    refine wpAnyH_ready (rs := [14]) (by kernel_rfl) (by simp) ?_
    refine (AllReadyH.cons rfl (fun K hK => ?_) AllReadyH.nil)
    have z3 := HBX2.out.free 3
    have p3 := HBX2.out.cell 3
    simp only [List.getElem?_cons_succ, List.getElem?_cons_zero] at p3
    go_simp
    refine hK.out _ _ (Lib.hid ⟨(HB2.out.1).setCell (p := ⟨g, 3, none⟩) (.inr rfl) _, (HBX2.out.set 3 _).cell 2⟩) (fun hS => ?_)
    clear hK K z3 p3
    try simp only [Act.put, List.getElem_toArray, List.getElem_cons_succ, List.getElem_cons_zero, List.setIfInBounds_toArray, List.set_cons_zero, List.set_cons_succ]
    refine wpAnyH_done (by kernel_rfl) ?_ _
    have b3 := HBX2.out.set 3 (.slice A2 (fs.length + 1) c2)
    have p2 := b3.cell 2
    have z2 := b3.free 2
    simp only [List.set_cons_succ, List.set_cons_zero, List.getElem?_cons_succ, List.getElem?_cons_zero] at p2
    have HB3 := Lib.hid b3
    clear b3
    go_wp2_with fail
    go_end0
    exact ⟨rfl, turned HL.out HR.out HG.out HW2.out HOWN.out HB0.out.size HC2.out HM2.out HV.out HB3.out⟩
end
end Go.Proofs.Ytmnhklfljfglhaa.Bu
