/- The document's own disk: one file is written; Sync, Size, Read. -/
import Derived.Test.YtnbknihaefkllaaRfind
import Derived.Test.YtnbknihaefkllaaDread
import Derived.Test.YtnbknihaefkllaaDmath
import Derived.Lib.MinMax
namespace Go.Proofs.Ytnbknihaefkllaa.Rk
set_option linter.unusedVariables false
set_option linter.unusedSimpArgs false
open Go.RowKit Go.Maps Lift Ik Dk

theorem own_set {w : World} {gb n c j e size : Nat} {xs : List Value} {u : Value} (h : w.ownsRow 0 e size (.slice (some ⟨gb, 0, none⟩) n c) n xs) (hj : j < xs.length) : (w.setCell ⟨gb, j, none⟩ u).ownsRow 0 e size (.slice (some ⟨gb, 0, none⟩) n c) n (xs.set j u) := by
  refine ⟨by rw [List.length_set]; exact h.1, ?_⟩
  rcases h.2 with ⟨h0, _⟩ | ⟨g, cap, cur, hv, hB, hh, h1, h2, h3, h4⟩
  · cases h0
  · injection hv with e1 e2 e3
    injection e1 with e1
    injection e1 with e1
    subst e1 e3
    refine .inr ⟨gb, c, (cur.toList.set j u).toArray, rfl, hB, ?_, h1, h2, by simpa using h3, ?_⟩
    · rw [heap_setCell_same w gb j _ _ _ hh]
      have e : cur.setIfInBounds j u = (cur.toList.set j u).toArray := Array.toList_inj.1 (by simp)
      rw [e]
    · have hlt : j < n * size := by rw [h.1] at hj; exact hj
      rw [← h4, List.take_set]
theorem set_same {α : Type} {l : List α} {i : Nat} {x : α} (h : l[i]? = some x) : l.set i x = l := by
  have hl := (List.getElem?_eq_some_iff.1 h).1
  apply List.ext_getElem?
  intro j
  by_cases e : i = j
  · subst e; rw [List.getElem?_set_self hl, h]
  · rw [List.getElem?_set_ne e]
theorem cellsL_set (L : List D) : ∀ (i : Nat) (d d' : D), L[i]? = some d → d'.nm = d.nm →
    cellsL (L.set i d') = ((cellsL L).set (i * 3 + 1) (.slice d'.a d'.bs.length d'.c)).set (i * 3 + 2) (.int .i64 (d'.syn : Int)) := by
  induction L with
  | nil => intro i d d' h; simp at h
  | cons x L ih =>
    intro i d d' h hn
    have hc : ∀ (y : D) (M : List D), cellsL (y :: M) = y.cells ++ cellsL M := fun _ _ => rfl
    cases i with
    | zero =>
      simp at h
      subst h
      rw [List.set_cons_zero, hc, hc]
      simp [D.cells, hn]
    | succ i =>
      simp at h
      rw [List.set_cons_succ, hc, hc, ih i d d' h hn]
      have hl : x.cells.length = 3 := rfl
      rw [List.set_append_right _ _ (by rw [hl]; omega), List.set_append_right _ _ (by rw [hl]; omega), hl]
      rw [show (i + 1) * 3 + 1 - 3 = i * 3 + 1 by omega, show (i + 1) * 3 + 2 - 3 = i * 3 + 2 by omega]
theorem set_told {L : List D} {i : Nat} {d d' : D} (hp : (L.map D.m).Pairwise fun a b => a.nm ≠ b.nm) (h : L[i]? = some d) (hn : d'.nm = d.nm) : (L.set i d').map D.m = put1 (L.map D.m) d'.m := by
  induction L generalizing i with
  | nil => simp at h
  | cons x L ih =>
    rw [List.map_cons] at hp
    obtain ⟨h1, h2⟩ := List.pairwise_cons.1 hp
    cases i with
    | zero =>
      simp at h
      subst h
      rw [List.set_cons_zero, List.map_cons, List.map_cons, put_head (show x.m.nm = d'.m.nm from hn.symm)]
      congr 1
      unfold put1
      conv => lhs; rw [← List.map_id (L.map D.m)]
      refine List.map_congr_left fun y hy => ?_
      show y = if y.nm = d'.m.nm then d'.m else y
      rw [if_neg fun e => h1 y hy (show x.nm = y.nm by rw [e]; exact hn.symm)]
    | succ i =>
      simp at h
      rw [List.set_cons_succ, List.map_cons, List.map_cons, put_tail (fun e => h1 d.m (List.mem_map.2 ⟨d, List.mem_of_getElem? h, rfl⟩) (by rw [show x.m.nm = d'.m.nm from e]; exact hn)), ih h2 h]
section
variable {w w' : World} {g : Nat} {S S' T : Nat → Prop} {rm : Int} {m : MS} {L : List D} {A F : Option Addr} {c cf : Nat}
theorem Lay.apart (h : Lay w g S rm m L A F c cf) : m.fs.Pairwise fun a b => a.nm ≠ b.nm := h.sorted.imp before_ne
/-- One file is written. -/
theorem Lay.put {i : Nat} {d d' : D} (h : Lay w g S rm m L A F c cf) (hd : L[i]? = some d) (hn : d'.nm = d.nm) (hk : Keep (fun k => (Value.slice A L.length c).ownBlock = some k) w w')
    (ho : w'.ownsRow 0 Ty.file 3 (.slice A L.length c) L.length (cellsL (L.set i d'))) (hok : d'.Ok w' S') (hS : ∀ k, S k → S' k) (hlt : ∀ k, S' k → k < w'.heap.size) :
    Lay w' g S' rm { m with fs := put1 m.fs d'.m } (L.set i d') A F c cf := by
  have hg : ¬ (Value.slice A L.length c).ownBlock = some g := own_apart h.own h.box (by decide)
  have hty : ∀ k, (Value.slice A L.length c).ownBlock = some k → ∃ cs fr, w.heap[k]? = some (.cells cs Ty.file fr) := fun k hk => by
    rcases h.own.2 with ⟨h0, _⟩ | ⟨b, cap, cur, hv', _, hh, _⟩
    · rw [h0] at hk; simp [Value.ownBlock] at hk
    · rw [hv'] at hk
      simp [Value.ownBlock] at hk
      subst hk
      exact ⟨_, _, hh⟩
  have hl : (L.set i d').length = L.length := List.length_set
  have ht : put1 m.fs d'.m = (L.set i d').map D.m := by rw [h.told, set_told (by rw [← h.told]; exact h.apart) hd hn]
  refine ⟨by rw [hl]; exact h.box.keep hk hg, hS g h.sg, by rw [hl]; exact ho, fun k hk1 => hS k (h.so k (by rw [hl] at hk1; exact hk1)), fun x hx => ?_, ht, h.armed.keep hk (fun k ht _ hh => by
      obtain ⟨cs, fr, hh⟩ := hh
      obtain ⟨cs', fr', h1⟩ := hty k ht
      exact typed h1 hh (by decide)) hS, h.capf, h.capm, h.wf, hlt, h.room, h.rwf, by rw [hl]; exact h.many, ?_⟩
  · rcases List.mem_or_eq_of_mem_set hx with hx | rfl
    · exact (h.ok x hx).keep hk (fun k ht _ hh => by
        obtain ⟨cs, fr, hh⟩ := hh
        obtain ⟨cs', fr', h1⟩ := hty k ht
        exact typed h1 hh (by decide)) hS
    · exact hok
  · show (put1 m.fs d'.m).Pairwise before
    have hf : ∀ x : FM, (if x.nm = d'.m.nm then d'.m else x).nm = x.nm := fun x => by
      split
      · rename_i e; exact e.symm
      · rfl
    unfold put1
    rw [List.pairwise_map]
    exact h.sorted.imp fun {a b} hab => by
      unfold before at hab ⊢
      rw [hf a, hf b]
      exact hab
theorem Lay.ownAt (h : Lay w g S rm m L A F c cf) {gl : Nat} (hA : A = some ⟨gl, 0, none⟩) : (Value.slice A L.length c).ownBlock = some gl := by rw [hA]; rfl

theorem rsize_any (nm : ByteArray) (hn : nm.size ≤ 1000) (h : At w g S rm m) (hf : m.failed ≤ 1000000) : Calls Try.prog (28) #[.pointer (some ⟨g, 0, none⟩), .string nm] w fun e w' =>
    e = .returned (.tuple #[.int .i64 ((sizeM m nm).2 : Int), .int .i64 ((sizeM m nm).1 : Int)]) ∧ At w' g S rm (hit m).2 ∧ Keep (· = g) w w' := by
  obtain ⟨L, A, F, c, cf, h⟩ := h
  have HF := Lib.hid (found_any nm hn h hf)
  obtain ⟨hcap, hcm⟩ := h.cap
  clear h
  go_enter Try.func28, Try.ntmps28
  go_wp2_with fail
  refine HF.out.mono ?_
  rintro e W1 ⟨F1, cf1, hk1, hL1, hc⟩
  have HK := Lib.hid hk1
  have HL := Lib.hid hL1
  rcases hc with ⟨d, hd, _, hE, rfl⟩ | ⟨er, hne, hE, rfl⟩
  · obtain ⟨p0, p1, _⟩ := hL1.facts
    have hlt := (List.getElem?_eq_some_iff.1 hd).1
    obtain ⟨gl, hA, _, q1, _, _, _⟩ := hL1.place hd
    subst hA
    have E : Hid (sizeM m nm = (0, d.bs.length)) := Lib.hid (hE _ _)
    obtain ⟨i, hi⟩ : ∃ i, i = idx m.fs nm := ⟨_, rfl⟩
    rw [← hi] at q1 hlt ⊢
    clear hk1 hL1 HF hd hE hi
    go_wp2_with fail
    go_returns
    exact ⟨by rw [E.out]; rfl, HL.out.toAt, HK.out⟩
  · have E : Hid (sizeM m nm = (er, 0)) := Lib.hid (hE _ _)
    have d1 : ((er : Int) != 0) = true := by rw [bne_iff_ne]; omega
    clear hk1 hL1 HF hne hE
    go_wp2_with fail
    go_returns
    exact ⟨by rw [E.out]; rfl, HL.out.toAt, HK.out⟩

set_option maxRecDepth 100000 in
set_option maxHeartbeats 1000000 in
theorem rsync_any (nm : ByteArray) (hn : nm.size ≤ 1000) (h : At w g S rm m) (hf : m.failed ≤ 1000000) : Calls Try.prog (18) #[.pointer (some ⟨g, 0, none⟩), .string nm] w fun e w' =>
    e = .returned (.int .i64 ((syncM m nm).1 : Int)) ∧ At w' g S rm (syncM m nm).2 ∧ Keep S w w' := by
  obtain ⟨L, A, F, c, cf, h⟩ := h
  have HF := Lib.hid (found_any nm hn h hf)
  obtain ⟨hcap, hcm⟩ := h.cap
  have HSG := Lib.hid h.sg
  clear h
  go_enter Try.func18, Try.ntmps18
  go_wp2_with fail
  refine HF.out.mono ?_
  rintro e W1 ⟨F1, cf1, hk1, hL1, hc⟩
  have HK := Lib.hid hk1
  have HL := Lib.hid hL1
  rcases hc with ⟨d, hd, hdn, hE, rfl⟩ | ⟨er, hne, hE, rfl⟩
  · obtain ⟨p0, p1, _⟩ := hL1.facts
    have hlt := (List.getElem?_eq_some_iff.1 hd).1
    obtain ⟨gl, hA, _, q1, q2, _, z2⟩ := hL1.place hd
    subst hA
    have E : Hid (syncM m nm = (0, { (hit m).2 with fs := put1 m.fs ⟨d.nm, d.bs, d.bs.length⟩ })) := Lib.hid (hE _ _)
    obtain ⟨i, hi⟩ : ∃ i, i = idx m.fs nm := ⟨_, rfl⟩
    rw [← hi] at q1 q2 z2 hlt hd ⊢
    have HD := Lib.hid hd
    have HP := Lib.hid p1
    have Q1 := Lib.hid q1
    have Q2 := Lib.hid q2
    have Z2 := Lib.hid z2
    have HGL : Hid (¬ gl = g) := Lib.hid fun e => by
      subst e
      exact own_apart hL1.own hL1.box (by decide) rfl
    obtain ⟨nb, hnb⟩ : ∃ nb, nb = d.bs.length := ⟨_, rfl⟩
    rw [← hnb] at Q1 q1
    have HNB := Lib.hid hnb
    clear hk1 hL1 HF hd hE hi p0 p1 q1 q2 z2 hnb
    go_wp2_with fail
    refine wp_region_held_drew (S := fun w' => Hid (Keep (fun j => j = gl) W1 w')) (by kernel_rfl) (Lib.hid (Keep.refl _ _).drew) (fun hS => ?_)
    refine wpAnyH_take (i := 0) (v := ?_) rfl (by kernel_rfl) (by kernel_rfl) (by kernel_rfl) (fun _ _ _ h => h) (Or.inl ⟨by rfl, ?_⟩) hS ?_
    rotate_left
    · intro w hw
      go_simp
      try with_reducible rfl
    try simp only [Act.put, List.getElem_toArray, List.getElem_cons_succ, List.getElem_cons_zero, List.setIfInBounds_toArray, List.set_cons_zero, List.set_cons_succ]
    refine wpAnyH_take (i := 1) (v := ?_) rfl (by kernel_rfl) (by kernel_rfl) (by kernel_rfl) (fun _ _ _ h => h) (Or.inl ⟨by rfl, ?_⟩) hS ?_
    rotate_left
    · intro w hw
      go_simp
      try with_reducible rfl
    try simp only [Act.put, List.getElem_toArray, List.getElem_cons_succ, List.getElem_cons_zero, List.setIfInBounds_toArray, List.set_cons_zero, List.set_cons_succ]
    refine wpAnyH_take (i := 2) (v := ?_) rfl (by kernel_rfl) (by kernel_rfl) (by kernel_rfl) (fun _ _ _ h => h) (Or.inl ⟨by rfl, ?_⟩) hS ?_
    rotate_left
    · intro w hw
      go_simp
      try with_reducible rfl
    try simp only [Act.put, List.getElem_toArray, List.getElem_cons_succ, List.getElem_cons_zero, List.setIfInBounds_toArray, List.set_cons_zero, List.set_cons_succ]
    refine wpAnyH_take (i := 3) (v := ?_) rfl (by kernel_rfl) (by kernel_rfl) (by kernel_rfl) (fun _ _ _ h => h) (Or.inl ⟨by rfl, ?_⟩) hS ?_
    rotate_left
    · intro w hw
      have p1 : w.cell? ⟨g, 1, none⟩ = some (.slice (some ⟨gl, 0, none⟩) L.length c) := (World.cell?_of_block (w := W1) (hw.out.block g (HL.out.lt g HL.out.sg) (fun e => HGL.out e.symm))).trans HP.out
      go_simp
      try with_reducible rfl
    try simp only [Act.put, List.getElem_toArray, List.getElem_cons_succ, List.getElem_cons_zero, List.setIfInBounds_toArray, List.set_cons_zero, List.set_cons_succ]
    refine wpAnyH_take (i := 4) (v := ?_) rfl (by kernel_rfl) (by kernel_rfl) (by kernel_rfl) (fun _ _ _ h => h) (Or.inl ⟨by rfl, ?_⟩) hS ?_
    rotate_left
    · intro w hw
      go_simp
      try with_reducible rfl
    try simp only [Act.put, List.getElem_toArray, List.getElem_cons_succ, List.getElem_cons_zero, List.setIfInBounds_toArray, List.set_cons_zero, List.set_cons_succ]
    refine wpAnyH_take (i := 5) (v := ?_) rfl (by kernel_rfl) (by kernel_rfl) (by kernel_rfl) (fun _ _ _ h => h) (Or.inl ⟨by rfl, ?_⟩) hS ?_
    rotate_left
    · intro w hw
      go_simp
      try with_reducible rfl
    try simp only [Act.put, List.getElem_toArray, List.getElem_cons_succ, List.getElem_cons_zero, List.setIfInBounds_toArray, List.set_cons_zero, List.set_cons_succ]
    refine wpAnyH_take (i := 6) (v := ?_) rfl (by kernel_rfl) (by kernel_rfl) (by kernel_rfl) (fun _ _ _ h => h) (Or.inl ⟨by rfl, ?_⟩) hS ?_
    rotate_left
    · intro w hw
      go_simp
      try with_reducible rfl
    try simp only [Act.put, List.getElem_toArray, List.getElem_cons_succ, List.getElem_cons_zero, List.setIfInBounds_toArray, List.set_cons_zero, List.set_cons_succ]
    refine wpAnyH_take (i := 7) (v := ?_) rfl (by kernel_rfl) (by kernel_rfl) (by kernel_rfl) (fun _ _ _ h => h) (Or.inl ⟨by rfl, ?_⟩) hS ?_
    rotate_left
    · intro w hw
      go_simp
      try with_reducible rfl
    try simp only [Act.put, List.getElem_toArray, List.getElem_cons_succ, List.getElem_cons_zero, List.setIfInBounds_toArray, List.set_cons_zero, List.set_cons_succ]
    refine wpAnyH_take (i := 8) (v := ?_) rfl (by kernel_rfl) (by kernel_rfl) (by kernel_rfl) (fun _ _ _ h => h) (Or.inl ⟨by rfl, ?_⟩) hS ?_
    rotate_left
    · intro w hw
      have p1 : w.cell? ⟨g, 1, none⟩ = some (.slice (some ⟨gl, 0, none⟩) L.length c) := (World.cell?_of_block (w := W1) (hw.out.block g (HL.out.lt g HL.out.sg) (fun e => HGL.out e.symm))).trans HP.out
      go_simp
      try with_reducible rfl
    try simp only [Act.put, List.getElem_toArray, List.getElem_cons_succ, List.getElem_cons_zero, List.setIfInBounds_toArray, List.set_cons_zero, List.set_cons_succ]
    refine wpAnyH_take (i := 9) (v := ?_) rfl (by kernel_rfl) (by kernel_rfl) (by kernel_rfl) (fun _ _ _ h => h) (Or.inl ⟨by rfl, ?_⟩) hS ?_
    rotate_left
    · intro w hw
      go_simp
      try with_reducible rfl
    try simp only [Act.put, List.getElem_toArray, List.getElem_cons_succ, List.getElem_cons_zero, List.setIfInBounds_toArray, List.set_cons_zero, List.set_cons_succ]
    refine wpAnyH_take (i := 10) (v := ?_) rfl (by kernel_rfl) (by kernel_rfl) (by kernel_rfl) (fun _ _ _ h => h) (Or.inl ⟨by rfl, ?_⟩) hS ?_
    rotate_left
    · intro w hw
      go_simp
      try with_reducible rfl
    try simp only [Act.put, List.getElem_toArray, List.getElem_cons_succ, List.getElem_cons_zero, List.setIfInBounds_toArray, List.set_cons_zero, List.set_cons_succ]
    refine wpAnyH_take (i := 11) (v := ?_) rfl (by kernel_rfl) (by kernel_rfl) (by kernel_rfl) (fun _ _ _ h => h) (Or.inl ⟨by rfl, ?_⟩) hS ?_
    rotate_left
    · intro w hw
      go_simp
      try with_reducible rfl
    try simp only [Act.put, List.getElem_toArray, List.getElem_cons_succ, List.getElem_cons_zero, List.setIfInBounds_toArray, List.set_cons_zero, List.set_cons_succ]
    refine wpAnyH_ready (rs := [12]) (by kernel_rfl) (by simp) ?_
    refine AllReadyH.cons rfl (fun K hK => ?_) AllReadyH.nil
    have q1 : W1.cell? ⟨gl, i * 3 + 1, none⟩ = some (.slice d.a nb d.c) := Q1.out
    go_simp
    refine hK.out _ _ hS (fun hS => ?_)
    clear hK K
    try simp only [Act.put, List.getElem_toArray, List.getElem_cons_succ, List.getElem_cons_zero, List.setIfInBounds_toArray, List.set_cons_zero, List.set_cons_succ]
    refine wpAnyH_take (i := 13) (v := ?_) rfl (by kernel_rfl) (by kernel_rfl) (by kernel_rfl) (fun _ _ _ h => h) (Or.inl ⟨by rfl, ?_⟩) hS ?_
    rotate_left
    · intro w hw
      go_simp
      try with_reducible rfl
    try simp only [Act.put, List.getElem_toArray, List.getElem_cons_succ, List.getElem_cons_zero, List.setIfInBounds_toArray, List.set_cons_zero, List.set_cons_succ]
    refine wpAnyH_take (i := 14) (v := ?_) rfl (by kernel_rfl) (by kernel_rfl) (by kernel_rfl) (fun _ _ _ h => h) (Or.inl ⟨by rfl, ?_⟩) hS ?_
    rotate_left
    · intro w hw
      go_simp
      try with_reducible rfl
    try simp only [Act.put, List.getElem_toArray, List.getElem_cons_succ, List.getElem_cons_zero, List.setIfInBounds_toArray, List.set_cons_zero, List.set_cons_succ]
    refine wpAnyH_take (i := 15) (v := ?_) rfl (by kernel_rfl) (by kernel_rfl) (by kernel_rfl) (fun _ _ _ h => h) (Or.inl ⟨by rfl, ?_⟩) hS ?_
    rotate_left
    · intro w hw
      go_simp
      try with_reducible rfl
    try simp only [Act.put, List.getElem_toArray, List.getElem_cons_succ, List.getElem_cons_zero, List.setIfInBounds_toArray, List.set_cons_zero, List.set_cons_succ]
    refine wpAnyH_ready (rs := [16]) (by kernel_rfl) (by simp) ?_
    refine AllReadyH.cons rfl (fun K hK => ?_) AllReadyH.nil
    have q2 := Q2.out
    have z2 := Z2.out
    go_simp
    refine hK.out _ _ (Lib.hid ((Keep.refl (fun j => j = gl) W1).drew.setCell (p := ⟨gl, i * 3 + 2, none⟩) (.inr rfl) _)) (fun hS => ?_)
    clear hK K q2 z2
    try simp only [Act.put, List.getElem_toArray, List.getElem_cons_succ, List.getElem_cons_zero, List.setIfInBounds_toArray, List.set_cons_zero, List.set_cons_succ]
    refine wpAnyH_done (by kernel_rfl) ?_ _
    go_wp2_with fail
    go_ret
    have hd := HD.out
    have hnb := HNB.out
    have hcl := cellsL_set L i d ⟨d.nm, d.a, d.c, d.bs, d.bs.length⟩ hd rfl
    have hlen := cellsL_length L
    have hkk : Keep (fun k => (Value.slice (some (⟨gl, 0, none⟩ : Addr)) L.length c).ownBlock = some k) W1 (W1.setCell ⟨gl, i * 3 + 2, none⟩ (.int .i64 (nb : Int))) := (Keep.refl (fun k => (Value.slice (some (⟨gl, 0, none⟩ : Addr)) L.length c).ownBlock = some k) W1).setCell (p := ⟨gl, i * 3 + 2, none⟩) (.inr rfl) _
    have hown := own_set (u := .int .i64 (nb : Int)) HL.out.own (show i * 3 + 2 < (cellsL L).length by rw [hlen]; omega)
    have hset : (cellsL L).set (i * 3 + 1) (.slice d.a d.bs.length d.c) = cellsL L := by
      have h1 := cellsL_at hd 1 (by omega)
      exact set_same h1
    have hown2 : (W1.setCell ⟨gl, i * 3 + 2, none⟩ (.int .i64 (nb : Int))).ownsRow 0 Ty.file 3 (.slice (some ⟨gl, 0, none⟩) L.length c) L.length (cellsL (L.set i ⟨d.nm, d.a, d.c, d.bs, d.bs.length⟩)) := by
      rw [hcl]
      simp only
      rw [hset, ← hnb]
      exact hown
    have ok := HL.out.ok d (List.mem_of_getElem? hd)
    have hL2 := HL.out.put (S' := S) (d' := ⟨d.nm, d.a, d.c, d.bs, d.bs.length⟩) hd rfl hkk hown2
      (show D.Ok _ S ⟨d.nm, d.a, d.c, d.bs, d.bs.length⟩ from by
        have o2 := ok.keep hkk (fun k hk _ hh => by
          obtain ⟨cs, fr, hh⟩ := hh
          rcases HL.out.own.2 with ⟨h0, _⟩ | ⟨b, cap, cur, hv', _, hh', _⟩
          · cases h0
          · injection hv' with e1
            injection e1 with e1
            injection e1 with e1
            subst e1
            have e2 : gl = k := by simpa [Value.ownBlock] using hk
            subst e2
            exact typed hh' hh (by decide)) (S' := S) fun _ => id
        exact ⟨o2.lies, o2.cap, o2.max, o2.byte, o2.len, Nat.le_refl _, o2.nm⟩) (fun _ => id) (fun k hk => by have := HL.out.lt k hk; simpa [World.setCell] using this)
    refine ⟨by rw [E.out]; rfl, ?_, ?_⟩
    · rw [E.out]
      have hA := (hL2.keep (T := fun _ => False) (Keep.refl _ _).drew fun _ _ => id).toAt
      have hfs := (hit_fs m).1
      rw [hfs] at hA
      exact hA
    · have hs : S gl := HL.out.so gl rfl
      exact ((HK.out.mono (T := S) fun k hk => by rw [hk]; exact HSG.out).setCell (p := ⟨gl, i * 3 + 2, none⟩) (.inr hs) _).drew
  · have E : Hid (syncM m nm = (er, (hit m).2)) := Lib.hid (hE _ _)
    have d1 : ((er : Int) != 0) = true := by rw [bne_iff_ne]; omega
    clear hk1 hL1 HF hne hE
    go_wp2_with fail
    go_ret
    exact ⟨by rw [E.out]; rfl, by rw [E.out]; exact HL.out.toAt, HK.out.mono fun k hk => by rw [hk]; exact HSG.out⟩
end
end Go.Proofs.Ytnbknihaefkllaa.Rk
