/- What Crash of the document's own disk does. -/
import Derived.Test.YtnbknihaefkllaaRcr
import Derived.Deep.DeepCutAuto
import Derived.Deep.QuietTactic
import Derived.BigQuiet
namespace Go.Proofs.Ytnbknihaefkllaa.Rk
set_option linter.unusedVariables false
set_option linter.unusedSimpArgs false
open Go.RowKit Go.Maps Lift Ik Dk

theorem crm_cut {f : FM} {k s : Nat} (hs : f.syn ≤ f.bs.length) (h : s = min (f.syn + k) f.bs.length) : crm k f = ⟨f.nm, f.bs.take s, s⟩ := by
  have e : f.bs.take (f.syn + k) = f.bs.take s := by rw [List.take_eq_take_iff]; omega
  have hl : (f.bs.take s).length = s := by rw [List.length_take]; omega
  unfold crm
  rw [e, hl]
section
variable {w w' : World} {g : Nat} {S S' T : Nat → Prop} {rm : Int} {m : MS} {L : List D} {A F : Option Addr} {c cf : Nat}
/-- Behind a call that tells nothing. -/
def RDone (w : World) (g : Nat) (S : Nat → Prop) (rm : Int) (m : MS) (e : Ending) (w' : World) : Prop :=
  ∃ S', e = .returned (.tuple #[]) ∧ At w' g S' rm m ∧ Keep S w w' ∧ ∀ k, S' k → S k ∨ w.heap.size ≤ k
def half (m : MS) (k j : Nat) : MS := { m with fs := (m.fs.take j).map (crm k) ++ m.fs.drop j }
theorem half_at {m : MS} {k j : Nat} {f : FM} (h : m.fs[j]? = some f) : (half m k j).fs[j]? = some f := by
  have hlt := (List.getElem?_eq_some_iff.1 h).1
  have hl : ((m.fs.take j).map (crm k)).length = j := by rw [List.length_map, List.length_take]; omega
  show ((m.fs.take j).map (crm k) ++ m.fs.drop j)[j]? = some f
  rw [List.getElem?_append_right (by omega), hl, Nat.sub_self, List.getElem?_drop, Nat.add_zero]
  exact h
set_option maxRecDepth 100000 in
set_option maxHeartbeats 6400000 in
theorem rcrash_any (keep : Int) (hwf : (Lit.int .i64 keep).wf = true) (h : At w g S rm m) : Calls Try.prog (24) #[.pointer (some ⟨g, 0, none⟩), .int .i64 keep] w (RDone w g S rm (crashM m keep)) := by
  obtain ⟨L, A, F, c, cf, h⟩ := h
  have hk := i64_of hwf
  have H0 := Lib.hid h
  have HML : Hid (m.fs.length = L.length) := Lib.hid (by rw [h.told, List.length_map])
  have hmany := h.many
  obtain ⟨hcap, hcm⟩ := h.cap
  obtain ⟨p0, p1, _⟩ := h.facts
  obtain ⟨K, hKe⟩ : ∃ K, K = keep.toNat := ⟨_, rfl⟩
  have HKE := Lib.hid hKe
  obtain ⟨nn, hnn⟩ : ∃ nn, nn = L.length := ⟨_, rfl⟩
  have HNN := Lib.hid hnn
  rw [← hnn] at hmany hcap p1
  clear h hwf hnn
  go_enter Try.func24, Try.ntmps24
  go_wp2_with fail
  go_loopw [4] (fun i wr => ∃ (j : Nat) (S1 : Nat → Prop) (L1 : List D), i = .int .i64 (j : Int) ∧ j ≤ nn ∧ Hid (Lay wr g S1 rm (half m K j) L1 A F c cf) ∧ Hid (L1.length = nn) ∧ Hid (Keep S w wr) ∧ Hid (∀ k, S1 k → S k ∨ w.heap.size ≤ k)) (fun i _ => nn + 1 - (intOf i).toNat)
  case atStart => exact ⟨0, S, L, rfl, Nat.zero_le _, H0, Lib.hid HNN.out.symm, Lib.hid (Keep.refl _ _), Lib.hid fun k hk => .inl hk⟩
  case round =>
    clear p0 p1
    obtain ⟨j, S1, L1, rfl, hj, HL, HLN, HK, HS1⟩ := hrel
    obtain ⟨p0, p1, _⟩ := HL.out.facts
    rw [HLN.out] at p1
    by_cases hlt : j < nn
    · have dl : decide (j < nn) = true := decide_eq_true hlt
      obtain ⟨d, hd⟩ : ∃ d, L1[j]? = some d := ⟨_, List.getElem?_eq_getElem (by rw [HLN.out]; exact hlt)⟩
      have hf : m.fs[j]? = some d.m := by
        obtain ⟨f, hf⟩ : ∃ f, m.fs[j]? = some f := ⟨_, List.getElem?_eq_getElem (by rw [HML.out, ← HNN.out]; exact hlt)⟩
        have h1 := half_at (k := K) hf
        rw [HL.out.told, List.getElem?_map, hd] at h1
        rw [hf, ← h1]
        rfl
      have HF := Lib.hid hf
      have HD := Lib.hid hd
      obtain ⟨gl, hA, _, q1, q2, z1, z2⟩ := HL.out.place hd
      have hok := HL.out.ok d (List.mem_of_getElem? hd)
      have hdl := hok.len
      have hds := hok.syn
      have HGL : Hid (¬ gl = g) := Lib.hid fun e => by
        subst e
        exact own_apart HL.out.own HL.out.box (by decide) (by rw [hA]; rfl)
      subst hA
      have hgl := HL.out.lt gl (HL.out.so gl rfl)
      have HGS := Lib.hid (HL.out.so gl rfl)
      obtain ⟨nb, hnb⟩ : ∃ nb, nb = d.bs.length := ⟨_, rfl⟩
      obtain ⟨sy, hsy⟩ : ∃ sy, sy = d.syn := ⟨_, rfl⟩
      rw [← hnb, ← hsy] at hds
      rw [← hnb] at q1 hdl
      rw [← hsy] at q2
      have HNB := Lib.hid hnb
      have HSY := Lib.hid hsy
      have Q2 := Lib.hid q2
      have Z2 := Lib.hid z2
      have HP := Lib.hid p1
      clear hd hf hok hnb hsy z1 z2
      go_wp2_with fail
      go_quiet (fail)
      generalize hWq : wr.drewN _ = W2
      have hb2 : Below wr.heap.size wr W2 := by rw [← hWq]; exact Joins.below_draws _ _ _
      have HL2 := Lib.hid (HL.out.keep (T := fun _ => False) (below_keep hb2) fun _ _ => id)
      have HK2 := Lib.hid (HK.out.trans (T := fun _ => False) (below_keep hb2) fun _ _ h => h.elim)
      have HGW := Lib.hid (HL2.out.lt g HL2.out.sg)
      have q2' : W2.cell? ⟨gl, j * 3 + 2, none⟩ = some (.int .i64 (sy : Int)) := (hb2.cell (p := ⟨gl, j * 3 + 2, none⟩) hgl).trans q2
      have z2' : W2.frozen? ⟨gl, j * 3 + 2, none⟩ = false := by rw [← hWq]; exact Z2.out
      have p1' : W2.cell? ⟨g, 1, none⟩ = some (.slice (some ⟨gl, 0, none⟩) nn c) := (hb2.cell (p := ⟨g, 1, none⟩) (HL.out.lt g HL.out.sg)).trans p1
      clear Q2 Z2 HP
      have Q2 := Lib.hid q2'
      have Z2 := Lib.hid z2'
      have HP := Lib.hid p1'
      clear hWq hb2 q1 q2 q2' z2' p1' p0 p1
      go_upto_if 36 with fail
      go_cut [6] (fun v wx => v = .int .i64 (K : Int) ∧ wx = W2)
      case first =>
        by_cases kr : keep < 0
        · have d3 : decide (keep < 0) = true := decide_eq_true kr
          have hm0 : (K : Int) = 0 := by have := HKE.out; omega
          go_wp2_with fail
          go_meet
          exact ⟨by rw [hm0], rfl⟩
        · have d3 : decide (keep < 0) = false := decide_eq_false kr
          have hm0 : (K : Int) = keep := by have := HKE.out; omega
          go_wp2_with fail
          go_meet
          exact ⟨by rw [hm0], rfl⟩
      case rest =>
      obtain ⟨rfl, h0⟩ := hcut
      have h1 := h0.symm
      clear h0
      subst h1
      have hK9 : K ≤ 9223372036854775807 := by have := HKE.out; omega
      obtain ⟨kk, hkk⟩ : ∃ kk, kk = min K (nb - sy) := ⟨_, rfl⟩
      have HKK := Lib.hid hkk
      have hkk2 : kk ≤ nb - sy := by omega
      go_upto_if 39 with fail
      go_cut [6] (fun v wx => v = .int .i64 (kk : Int) ∧ wx = W2)
      case first =>
        by_cases kr : nb - sy < K
        · have d3 : decide ((nb : Int) - (sy : Int) < (K : Int)) = true := decide_eq_true (by omega)
          have hm0 : (kk : Int) = (nb : Int) - (sy : Int) := by omega
          go_wp2_with fail
          go_meet
          exact ⟨by rw [hm0], rfl⟩
        · have d3 : decide ((nb : Int) - (sy : Int) < (K : Int)) = false := decide_eq_false (by omega)
          have hm0 : (kk : Int) = (K : Int) := by omega
          go_wp2_with fail
          go_meet
          exact ⟨by rw [hm0], rfl⟩
      case rest =>
      obtain ⟨rfl, h0⟩ := hcut
      have h1 := h0.symm
      clear h0
      subst h1
      clear hkk
      have hsw : IntKind.i64.wrap ((sy : Int) + (kk : Int)) = (sy : Int) + (kk : Int) := by rw [IntKind.wrap_i64]; omega
      have FIN9 : Hid (Lay (W2.setCell ⟨gl, j * 3 + 2, none⟩ (.int .i64 ((sy : Int) + (kk : Int)))).drew g S1 rm { half m K j with fs := put1 (half m K j).fs ⟨d.nm, d.bs, sy + kk⟩ } (L1.set j ⟨d.nm, d.a, d.c, d.bs, sy + kk⟩) (some ⟨gl, 0, none⟩) F c cf ∧ Keep S w (W2.setCell ⟨gl, j * 3 + 2, none⟩ (.int .i64 ((sy : Int) + (kk : Int)))).drew) := Lib.hid (by
        have h1 := HL2.out.syn (s := sy + kk) HD.out (by rw [← HNB.out]; omega)
        rw [Int.natCast_add] at h1
        exact ⟨h1.keep (T := fun _ => False) (below_keep ((Below.refl _ _).drew)) fun _ _ => id, (HK2.out.setCell (p := ⟨gl, j * 3 + 2, none⟩) ((HS1.out gl HGS.out).elim .inr .inl) _).drew⟩)
      go_upto_region 9 with fail
      go_cut [] (fun wx => Lay wx g S1 rm { half m K j with fs := put1 (half m K j).fs ⟨d.nm, d.bs, sy + kk⟩ } (L1.set j ⟨d.nm, d.a, d.c, d.bs, sy + kk⟩) (some ⟨gl, 0, none⟩) F c cf ∧ Keep S w wx)
      case first =>
        refine wp_region_held_drew (S := fun w' => Hid (Keep (fun j => j = gl) W2 w')) (by kernel_rfl) (Lib.hid (Keep.refl _ _).drew) (fun hS => ?_)
        refine wpAnyH_take (i := 0) (v := ?_) rfl (by kernel_rfl) (by kernel_rfl) (by kernel_rfl) (fun _ _ _ h => h) (Or.inl ⟨by rfl, ?_⟩) hS ?_
        rotate_left
        · intro w hw
          go_simp
          try with_reducible rfl
        try simp only [Act.put, List.getElem_toArray, List.getElem_cons_succ, List.getElem_cons_zero, List.setIfInBounds_toArray, List.set_cons_zero, List.set_cons_succ]
        refine wpAnyH_take (i := 1) (v := ?_) rfl (by kernel_rfl) (by kernel_rfl) (by kernel_rfl) (fun _ _ _ h => h) (Or.inl ⟨by rfl, ?_⟩) hS ?_
        rotate_left
        · intro w hw
          go_simp
          try with_reducible rfl
        try simp only [Act.put, List.getElem_toArray, List.getElem_cons_succ, List.getElem_cons_zero, List.setIfInBounds_toArray, List.set_cons_zero, List.set_cons_succ]
        refine wpAnyH_take (i := 2) (v := ?_) rfl (by kernel_rfl) (by kernel_rfl) (by kernel_rfl) (fun _ _ _ h => h) (Or.inl ⟨by rfl, ?_⟩) hS ?_
        rotate_left
        · intro w hw
          go_simp
          try with_reducible rfl
        try simp only [Act.put, List.getElem_toArray, List.getElem_cons_succ, List.getElem_cons_zero, List.setIfInBounds_toArray, List.set_cons_zero, List.set_cons_succ]
        refine wpAnyH_take (i := 3) (v := ?_) rfl (by kernel_rfl) (by kernel_rfl) (by kernel_rfl) (fun _ _ _ h => h) (Or.inl ⟨by rfl, ?_⟩) hS ?_
        rotate_left
        · intro w hw
          have p1 : w.cell? ⟨g, 1, none⟩ = some (.slice (some ⟨gl, 0, none⟩) nn c) := (World.cell?_of_block (w := W2) (hw.out.block g HGW.out (fun e => HGL.out e.symm))).trans HP.out
          go_simp
          try with_reducible rfl
        try simp only [Act.put, List.getElem_toArray, List.getElem_cons_succ, List.getElem_cons_zero, List.setIfInBounds_toArray, List.set_cons_zero, List.set_cons_succ]
        refine wpAnyH_take (i := 4) (v := ?_) rfl (by kernel_rfl) (by kernel_rfl) (by kernel_rfl) (fun _ _ _ h => h) (Or.inl ⟨by rfl, ?_⟩) hS ?_
        rotate_left
        · intro w hw
          go_simp
          try with_reducible rfl
        try simp only [Act.put, List.getElem_toArray, List.getElem_cons_succ, List.getElem_cons_zero, List.setIfInBounds_toArray, List.set_cons_zero, List.set_cons_succ]
        refine wpAnyH_take (i := 5) (v := ?_) rfl (by kernel_rfl) (by kernel_rfl) (by kernel_rfl) (fun _ _ _ h => h) (Or.inl ⟨by rfl, ?_⟩) hS ?_
        rotate_left
        · intro w hw
          go_simp
          try with_reducible rfl
        try simp only [Act.put, List.getElem_toArray, List.getElem_cons_succ, List.getElem_cons_zero, List.setIfInBounds_toArray, List.set_cons_zero, List.set_cons_succ]
        refine wpAnyH_take (i := 6) (v := ?_) rfl (by kernel_rfl) (by kernel_rfl) (by kernel_rfl) (fun _ _ _ h => h) (Or.inl ⟨by rfl, ?_⟩) hS ?_
        rotate_left
        · intro w hw
          go_simp
          try with_reducible rfl
        try simp only [Act.put, List.getElem_toArray, List.getElem_cons_succ, List.getElem_cons_zero, List.setIfInBounds_toArray, List.set_cons_zero, List.set_cons_succ]
        refine wpAnyH_take (i := 7) (v := ?_) rfl (by kernel_rfl) (by kernel_rfl) (by kernel_rfl) (fun _ _ _ h => h) (Or.inl ⟨by rfl, ?_⟩) hS ?_
        rotate_left
        · intro w hw
          go_simp
          try with_reducible rfl
        try simp only [Act.put, List.getElem_toArray, List.getElem_cons_succ, List.getElem_cons_zero, List.setIfInBounds_toArray, List.set_cons_zero, List.set_cons_succ]
        refine wpAnyH_take (i := 8) (v := ?_) rfl (by kernel_rfl) (by kernel_rfl) (by kernel_rfl) (fun _ _ _ h => h) (Or.inl ⟨by rfl, ?_⟩) hS ?_
        rotate_left
        · intro w hw
          have p1 : w.cell? ⟨g, 1, none⟩ = some (.slice (some ⟨gl, 0, none⟩) nn c) := (World.cell?_of_block (w := W2) (hw.out.block g HGW.out (fun e => HGL.out e.symm))).trans HP.out
          go_simp
          try with_reducible rfl
        try simp only [Act.put, List.getElem_toArray, List.getElem_cons_succ, List.getElem_cons_zero, List.setIfInBounds_toArray, List.set_cons_zero, List.set_cons_succ]
        refine wpAnyH_take (i := 9) (v := ?_) rfl (by kernel_rfl) (by kernel_rfl) (by kernel_rfl) (fun _ _ _ h => h) (Or.inl ⟨by rfl, ?_⟩) hS ?_
        rotate_left
        · intro w hw
          go_simp
          try with_reducible rfl
        try simp only [Act.put, List.getElem_toArray, List.getElem_cons_succ, List.getElem_cons_zero, List.setIfInBounds_toArray, List.set_cons_zero, List.set_cons_succ]
        refine wpAnyH_take (i := 10) (v := ?_) rfl (by kernel_rfl) (by kernel_rfl) (by kernel_rfl) (fun _ _ _ h => h) (Or.inl ⟨by rfl, ?_⟩) hS ?_
        rotate_left
        · intro w hw
          go_simp
          try with_reducible rfl
        try simp only [Act.put, List.getElem_toArray, List.getElem_cons_succ, List.getElem_cons_zero, List.setIfInBounds_toArray, List.set_cons_zero, List.set_cons_succ]
        refine wpAnyH_take (i := 11) (v := ?_) rfl (by kernel_rfl) (by kernel_rfl) (by kernel_rfl) (fun _ _ _ h => h) (Or.inl ⟨by rfl, ?_⟩) hS ?_
        rotate_left
        · intro w hw
          go_simp
          try with_reducible rfl
        try simp only [Act.put, List.getElem_toArray, List.getElem_cons_succ, List.getElem_cons_zero, List.setIfInBounds_toArray, List.set_cons_zero, List.set_cons_succ]
        refine wpAnyH_take (i := 13) (v := ?_) rfl (by kernel_rfl) (by kernel_rfl) (by kernel_rfl) (fun _ _ _ h => h) (Or.inl ⟨by rfl, ?_⟩) hS ?_
        rotate_left
        · intro w hw
          go_simp
          try with_reducible rfl
        try simp only [Act.put, List.getElem_toArray, List.getElem_cons_succ, List.getElem_cons_zero, List.setIfInBounds_toArray, List.set_cons_zero, List.set_cons_succ]
        refine wpAnyH_ready (rs := [12]) (by kernel_rfl) (by simp) ?_
        refine AllReadyH.cons rfl (fun K hK => ?_) AllReadyH.nil
        have q1 : W2.cell? ⟨gl, j * 3 + 2, none⟩ = some (.int .i64 (sy : Int)) := Q2.out
        go_simp
        refine hK.out _ _ hS (fun hS => ?_)
        clear hK K q1
        try simp only [Act.put, List.getElem_toArray, List.getElem_cons_succ, List.getElem_cons_zero, List.setIfInBounds_toArray, List.set_cons_zero, List.set_cons_succ]
        refine wpAnyH_take (i := 14) (v := ?_) rfl (by kernel_rfl) (by kernel_rfl) (by kernel_rfl) (fun _ _ _ h => h) (Or.inl ⟨by rfl, ?_⟩) hS ?_
        rotate_left
        · intro w hw
          go_simp
          try with_reducible rfl
        try simp only [Act.put, List.getElem_toArray, List.getElem_cons_succ, List.getElem_cons_zero, List.setIfInBounds_toArray, List.set_cons_zero, List.set_cons_succ]
        refine wpAnyH_take (i := 15) (v := ?_) rfl (by kernel_rfl) (by kernel_rfl) (by kernel_rfl) (fun _ _ _ h => h) (Or.inl ⟨by rfl, ?_⟩) hS ?_
        rotate_left
        · intro w hw
          go_simp
          try with_reducible rfl
        try simp only [Act.put, List.getElem_toArray, List.getElem_cons_succ, List.getElem_cons_zero, List.setIfInBounds_toArray, List.set_cons_zero, List.set_cons_succ]
        refine wpAnyH_take (i := 16) (v := ?_) rfl (by kernel_rfl) (by kernel_rfl) (by kernel_rfl) (fun _ _ _ h => h) (Or.inl ⟨by rfl, ?_⟩) hS ?_
        rotate_left
        · intro w hw
          go_simp
          try with_reducible rfl
        try simp only [Act.put, List.getElem_toArray, List.getElem_cons_succ, List.getElem_cons_zero, List.setIfInBounds_toArray, List.set_cons_zero, List.set_cons_succ]
        refine wpAnyH_ready (rs := [17]) (by kernel_rfl) (by simp) ?_
        refine AllReadyH.cons rfl (fun K hK => ?_) AllReadyH.nil
        have q2 : W2.cell? ⟨gl, j * 3 + 2, none⟩ = some (.int .i64 (sy : Int)) := Q2.out
        have z2 := Z2.out
        go_simp
        refine hK.out _ _ (Lib.hid ((Keep.refl (fun j => j = gl) W2).setCell (p := ⟨gl, j * 3 + 2, none⟩) (.inr rfl) _).drew) (fun hS => ?_)
        clear hK K q2 z2
        try simp only [Act.put, List.getElem_toArray, List.getElem_cons_succ, List.getElem_cons_zero, List.setIfInBounds_toArray, List.set_cons_zero, List.set_cons_succ]
        refine wpAnyH_done (by kernel_rfl) ?_ _
        go_wp2_with fail
        go_meet
        exact FIN9.out
      case rest =>
      obtain ⟨hL3, hK3⟩ := hcut
      have hj1 : j < L1.length := by rw [HLN.out]; exact hlt
      have hd3 : (L1.set j ⟨d.nm, d.a, d.c, d.bs, sy + kk⟩)[j]? = some ⟨d.nm, d.a, d.c, d.bs, sy + kk⟩ := List.getElem?_set_self hj1
      have hln3 : (L1.set j (⟨d.nm, d.a, d.c, d.bs, sy + kk⟩ : D)).length = nn := by rw [List.length_set]; exact HLN.out
      obtain ⟨_, p1, _⟩ := hL3.facts
      rw [hln3] at p1
      obtain ⟨gl2, hA2, _, q1, q2, z1, _⟩ := hL3.place hd3
      cases hA2
      have hok := hL3.ok _ (List.mem_of_getElem? hd3)
      have hdc : d.bs.length ≤ d.c := hok.cap
      have hdm : d.c ≤ maxLen := hok.max
      have hlies : Lies wc wc.heap.size d.a (d.bs.map vb) := hok.lies.lies fun k hk => hL3.lt k hk.1
      have hxl : (d.bs.take (sy + kk)).length = sy + kk := by rw [List.length_take, ← HNB.out]; omega
      obtain ⟨A5, c5, W5, hr5, hown5, hb5⟩ := fresh_bytes d.a d.c _ (d.bs.take (sy + kk)) wc.drew ((hlies.front (by rw [List.map_take]; exact List.take_prefix _ _)).below ((Below.refl _ _).drew)) (by rw [hxl]; omega)
      have hb5' : Below wc.heap.size wc W5 := (Below.refl wc.heap.size wc).drew.trans hb5
      have hfin := hL3.wrote (xs := d.bs.take (sy + kk)) hd3 hb5' hown5 (fun x hx => hok.byte x (List.mem_of_mem_take hx)) (by rw [hxl]; omega) (by rw [hxl]; exact Nat.le_refl _)
      have hcu := fun W => Dk.upto_at d.a nb d.c (sy + kk) (by rw [← HNB.out] at hdc; omega) (by rw [← HNB.out] at hdc; exact hdc) hdm W
      have hcast : ((sy + kk : Nat) : Int) = (sy : Int) + (kk : Int) := by omega
      rw [hxl] at hr5 hfin
      have FIN10 : Hid (∃ (S' : Nat → Prop) (L' : List D), Lay (W5.setCell ⟨gl, j * 3 + 1, none⟩ (.slice A5 (sy + kk) c5)) g S' rm (half m K (j + 1)) L' (some ⟨gl, 0, none⟩) F c cf ∧ L'.length = nn ∧ Keep S w (W5.setCell ⟨gl, j * 3 + 1, none⟩ (.slice A5 (sy + kk) c5)) ∧ ∀ k, S' k → S k ∨ w.heap.size ≤ k) := Lib.hid (by
        refine ⟨Gr S1 wc W5, (L1.set j ⟨d.nm, d.a, d.c, d.bs, sy + kk⟩).set j ⟨d.nm, A5, c5, d.bs.take (sy + kk), sy + kk⟩, ?_, ?_, (hK3.trans (T := fun _ => False) (below_keep hb5') fun _ _ h => h.elim).setCell (p := ⟨gl, j * 3 + 1, none⟩) ((HS1.out gl HGS.out).elim .inr .inl) _, fun k hk => hk.elim (HS1.out k) fun h => .inr (Nat.le_trans hK3.size h.1)⟩
        rotate_left
        · rw [List.length_set]
          exact hln3
        · have ht := hfin.told
          have e1 : half m K (j + 1) = { half m K j with fs := put1 (put1 (half m K j).fs ⟨d.nm, d.bs, sy + kk⟩) ⟨d.nm, d.bs.take (sy + kk), sy + kk⟩ } := by
            show _ = ({ room := (half m K j).room, fs := _, armed := (half m K j).armed, failed := (half m K j).failed } : MS)
            dsimp only at ht
            rw [ht, List.set_set, set_map]
            have h1 := HL.out.told
            rw [← h1]
            have h2 := crash_step K HF.out
            have h3 : crm K d.m = (⟨d.nm, A5, c5, d.bs.take (sy + kk), sy + kk⟩ : D).m := crm_cut (f := d.m) (s := sy + kk) (by show d.syn ≤ d.bs.length; rw [← HNB.out, ← HSY.out]; exact hds) (by show sy + kk = min (d.syn + K) d.bs.length; rw [← HNB.out, ← HSY.out, HKK.out]; omega)
            rw [h3] at h2
            show _ = ({ room := m.room, fs := ((m.fs.take j).map (crm K) ++ m.fs.drop j).set j (⟨d.nm, A5, c5, d.bs.take (sy + kk), sy + kk⟩ : D).m, armed := m.armed, failed := m.failed } : MS)
            rw [h2]
            rfl
          rw [e1]
          exact hfin)
      have hL5 := hL3.keep (T := fun _ => False) (below_keep hb5') fun _ _ => id
      obtain ⟨gl5, hA5, _, q5, q5b, z5, _⟩ := hL5.place hd3
      clear q5b
      cases hA5
      obtain ⟨sn, hsn⟩ : ∃ sn, sn = sy + kk := ⟨_, rfl⟩
      rw [← hsn] at q2 hr5 FIN10 hcu
      simp only at q1 q5
      rw [← HNB.out] at q1 q5 hdc
      have hsn2 : sn ≤ nb := by omega
      have hdm' := hdm
      unfold maxLen at hdm'
      have HP3 := Lib.hid p1
      have Q3 := Lib.hid q2
      have Q4 := Lib.hid q1
      have Q5 := Lib.hid q5
      have Z5 := Lib.hid z5
      have HR5 := Lib.hid hr5
      have HB5 := Lib.hid hb5'
      have HGW3 := Lib.hid (hL3.lt g hL3.sg)
      have HGLW := Lib.hid (hL3.lt gl (hL3.so gl rfl))
      clear hL3 hK3 hd3 hln3 hok hlies hxl hown5 hb5 hb5' hfin hL5 q5 z5 hsn hr5 FIN9 Q2 Z2 HP q1 q2 z1 p1 hdm hj1 hsw hcast
      go_upto_region 10 with fail
      refine wp_region_held_drew (S := fun w' => Hid (Keep (fun j => j = gl) wc w' ∧ w'.cell? ⟨gl, j * 3 + 2, none⟩ = some (.int .i64 (sn : Int)))) (by kernel_rfl) (Lib.hid ⟨(Keep.refl _ _).drew, Q3.out⟩) (fun hS => ?_)
      refine wpAnyH_take (i := 0) (v := ?_) rfl (by kernel_rfl) (by kernel_rfl) (by kernel_rfl) (fun _ _ _ h => h) (Or.inl ⟨by rfl, ?_⟩) hS ?_
      rotate_left
      · intro w hw
        go_simp
        try with_reducible rfl
      try simp only [Act.put, List.getElem_toArray, List.getElem_cons_succ, List.getElem_cons_zero, List.setIfInBounds_toArray, List.set_cons_zero, List.set_cons_succ]
      refine wpAnyH_take (i := 1) (v := ?_) rfl (by kernel_rfl) (by kernel_rfl) (by kernel_rfl) (fun _ _ _ h => h) (Or.inl ⟨by rfl, ?_⟩) hS ?_
      rotate_left
      · intro w hw
        go_simp
        try with_reducible rfl
      try simp only [Act.put, List.getElem_toArray, List.getElem_cons_succ, List.getElem_cons_zero, List.setIfInBounds_toArray, List.set_cons_zero, List.set_cons_succ]
      refine wpAnyH_take (i := 2) (v := ?_) rfl (by kernel_rfl) (by kernel_rfl) (by kernel_rfl) (fun _ _ _ h => h) (Or.inl ⟨by rfl, ?_⟩) hS ?_
      rotate_left
      · intro w hw
        go_simp
        try with_reducible rfl
      try simp only [Act.put, List.getElem_toArray, List.getElem_cons_succ, List.getElem_cons_zero, List.setIfInBounds_toArray, List.set_cons_zero, List.set_cons_succ]
      refine wpAnyH_take (i := 3) (v := ?_) rfl (by kernel_rfl) (by kernel_rfl) (by kernel_rfl) (fun _ _ _ h => h) (Or.inl ⟨by rfl, ?_⟩) hS ?_
      rotate_left
      · intro w hw
        have p1 : w.cell? ⟨g, 1, none⟩ = some (.slice (some ⟨gl, 0, none⟩) nn c) := (World.cell?_of_block (w := wc) (hw.out.1.block g HGW3.out (fun e => HGL.out e.symm))).trans HP3.out
        go_simp
        try with_reducible rfl
      try simp only [Act.put, List.getElem_toArray, List.getElem_cons_succ, List.getElem_cons_zero, List.setIfInBounds_toArray, List.set_cons_zero, List.set_cons_succ]
      refine wpAnyH_take (i := 4) (v := ?_) rfl (by kernel_rfl) (by kernel_rfl) (by kernel_rfl) (fun _ _ _ h => h) (Or.inl ⟨by rfl, ?_⟩) hS ?_
      rotate_left
      · intro w hw
        go_simp
        try with_reducible rfl
      try simp only [Act.put, List.getElem_toArray, List.getElem_cons_succ, List.getElem_cons_zero, List.setIfInBounds_toArray, List.set_cons_zero, List.set_cons_succ]
      refine wpAnyH_take (i := 5) (v := ?_) rfl (by kernel_rfl) (by kernel_rfl) (by kernel_rfl) (fun _ _ _ h => h) (Or.inl ⟨by rfl, ?_⟩) hS ?_
      rotate_left
      · intro w hw
        go_simp
        try with_reducible rfl
      try simp only [Act.put, List.getElem_toArray, List.getElem_cons_succ, List.getElem_cons_zero, List.setIfInBounds_toArray, List.set_cons_zero, List.set_cons_succ]
      refine wpAnyH_take (i := 6) (v := ?_) rfl (by kernel_rfl) (by kernel_rfl) (by kernel_rfl) (fun _ _ _ h => h) (Or.inl ⟨by rfl, ?_⟩) hS ?_
      rotate_left
      · intro w hw
        go_simp
        try with_reducible rfl
      try simp only [Act.put, List.getElem_toArray, List.getElem_cons_succ, List.getElem_cons_zero, List.setIfInBounds_toArray, List.set_cons_zero, List.set_cons_succ]
      refine wpAnyH_take (i := 7) (v := ?_) rfl (by kernel_rfl) (by kernel_rfl) (by kernel_rfl) (fun _ _ _ h => h) (Or.inl ⟨by rfl, ?_⟩) hS ?_
      rotate_left
      · intro w hw
        go_simp
        try with_reducible rfl
      try simp only [Act.put, List.getElem_toArray, List.getElem_cons_succ, List.getElem_cons_zero, List.setIfInBounds_toArray, List.set_cons_zero, List.set_cons_succ]
      refine wpAnyH_take (i := 8) (v := ?_) rfl (by kernel_rfl) (by kernel_rfl) (by kernel_rfl) (fun _ _ _ h => h) (Or.inl ⟨by rfl, ?_⟩) hS ?_
      rotate_left
      · intro w hw
        have p1 : w.cell? ⟨g, 1, none⟩ = some (.slice (some ⟨gl, 0, none⟩) nn c) := (World.cell?_of_block (w := wc) (hw.out.1.block g HGW3.out (fun e => HGL.out e.symm))).trans HP3.out
        go_simp
        try with_reducible rfl
      try simp only [Act.put, List.getElem_toArray, List.getElem_cons_succ, List.getElem_cons_zero, List.setIfInBounds_toArray, List.set_cons_zero, List.set_cons_succ]
      refine wpAnyH_take (i := 9) (v := ?_) rfl (by kernel_rfl) (by kernel_rfl) (by kernel_rfl) (fun _ _ _ h => h) (Or.inl ⟨by rfl, ?_⟩) hS ?_
      rotate_left
      · intro w hw
        go_simp
        try with_reducible rfl
      try simp only [Act.put, List.getElem_toArray, List.getElem_cons_succ, List.getElem_cons_zero, List.setIfInBounds_toArray, List.set_cons_zero, List.set_cons_succ]
      refine wpAnyH_take (i := 10) (v := ?_) rfl (by kernel_rfl) (by kernel_rfl) (by kernel_rfl) (fun _ _ _ h => h) (Or.inl ⟨by rfl, ?_⟩) hS ?_
      rotate_left
      · intro w hw
        go_simp
        try with_reducible rfl
      try simp only [Act.put, List.getElem_toArray, List.getElem_cons_succ, List.getElem_cons_zero, List.setIfInBounds_toArray, List.set_cons_zero, List.set_cons_succ]
      refine wpAnyH_take (i := 11) (v := ?_) rfl (by kernel_rfl) (by kernel_rfl) (by kernel_rfl) (fun _ _ _ h => h) (Or.inl ⟨by rfl, ?_⟩) hS ?_
      rotate_left
      · intro w hw
        go_simp
        try with_reducible rfl
      try simp only [Act.put, List.getElem_toArray, List.getElem_cons_succ, List.getElem_cons_zero, List.setIfInBounds_toArray, List.set_cons_zero, List.set_cons_succ]
      refine wpAnyH_take (i := 13) (v := ?_) rfl (by kernel_rfl) (by kernel_rfl) (by kernel_rfl) (fun _ _ _ h => h) (Or.inl ⟨by rfl, ?_⟩) hS ?_
      rotate_left
      · intro w hw
        go_simp
        try with_reducible rfl
      try simp only [Act.put, List.getElem_toArray, List.getElem_cons_succ, List.getElem_cons_zero, List.setIfInBounds_toArray, List.set_cons_zero, List.set_cons_succ]
      refine wpAnyH_take (i := 14) (v := ?_) rfl (by kernel_rfl) (by kernel_rfl) (by kernel_rfl) (fun _ _ _ h => h) (Or.inl ⟨by rfl, ?_⟩) hS ?_
      rotate_left
      · intro w hw
        go_simp
        try with_reducible rfl
      try simp only [Act.put, List.getElem_toArray, List.getElem_cons_succ, List.getElem_cons_zero, List.setIfInBounds_toArray, List.set_cons_zero, List.set_cons_succ]
      refine wpAnyH_take (i := 15) (v := ?_) rfl (by kernel_rfl) (by kernel_rfl) (by kernel_rfl) (fun _ _ _ h => h) (Or.inl ⟨by rfl, ?_⟩) hS ?_
      rotate_left
      · intro w hw
        go_simp
        try with_reducible rfl
      try simp only [Act.put, List.getElem_toArray, List.getElem_cons_succ, List.getElem_cons_zero, List.setIfInBounds_toArray, List.set_cons_zero, List.set_cons_succ]
      refine wpAnyH_take (i := 16) (v := ?_) rfl (by kernel_rfl) (by kernel_rfl) (by kernel_rfl) (fun _ _ _ h => h) (Or.inl ⟨by rfl, ?_⟩) hS ?_
      rotate_left
      · intro w hw
        have p1 : w.cell? ⟨g, 1, none⟩ = some (.slice (some ⟨gl, 0, none⟩) nn c) := (World.cell?_of_block (w := wc) (hw.out.1.block g HGW3.out (fun e => HGL.out e.symm))).trans HP3.out
        go_simp
        try with_reducible rfl
      try simp only [Act.put, List.getElem_toArray, List.getElem_cons_succ, List.getElem_cons_zero, List.setIfInBounds_toArray, List.set_cons_zero, List.set_cons_succ]
      refine wpAnyH_take (i := 17) (v := ?_) rfl (by kernel_rfl) (by kernel_rfl) (by kernel_rfl) (fun _ _ _ h => h) (Or.inl ⟨by rfl, ?_⟩) hS ?_
      rotate_left
      · intro w hw
        go_simp
        try with_reducible rfl
      try simp only [Act.put, List.getElem_toArray, List.getElem_cons_succ, List.getElem_cons_zero, List.setIfInBounds_toArray, List.set_cons_zero, List.set_cons_succ]
      refine wpAnyH_take (i := 18) (v := ?_) rfl (by kernel_rfl) (by kernel_rfl) (by kernel_rfl) (fun _ _ _ h => h) (Or.inl ⟨by rfl, ?_⟩) hS ?_
      rotate_left
      · intro w hw
        go_simp
        try with_reducible rfl
      try simp only [Act.put, List.getElem_toArray, List.getElem_cons_succ, List.getElem_cons_zero, List.setIfInBounds_toArray, List.set_cons_zero, List.set_cons_succ]
      refine wpAnyH_take (i := 19) (v := ?_) rfl (by kernel_rfl) (by kernel_rfl) (by kernel_rfl) (fun _ _ _ h => h) (Or.inl ⟨by rfl, ?_⟩) hS ?_
      rotate_left
      · intro w hw
        go_simp
        try with_reducible rfl
      try simp only [Act.put, List.getElem_toArray, List.getElem_cons_succ, List.getElem_cons_zero, List.setIfInBounds_toArray, List.set_cons_zero, List.set_cons_succ]
      refine wpAnyH_take (i := 20) (v := ?_) rfl (by kernel_rfl) (by kernel_rfl) (by kernel_rfl) (fun _ _ _ h => h) (Or.inl ⟨by rfl, ?_⟩) hS ?_
      rotate_left
      · intro w hw
        have q3 := hw.out.2
        go_simp
        try with_reducible rfl
      try simp only [Act.put, List.getElem_toArray, List.getElem_cons_succ, List.getElem_cons_zero, List.setIfInBounds_toArray, List.set_cons_zero, List.set_cons_succ]
      refine wpAnyH_ready (rs := [12]) (by kernel_rfl) (by simp) ?_
      refine AllReadyH.cons rfl (fun K hK => ?_) AllReadyH.nil
      have q1 : wc.cell? ⟨gl, j * 3 + 1, none⟩ = some (.slice d.a nb d.c) := Q4.out
      go_simp
      refine hK.out _ _ hS (fun hS => ?_)
      clear hK K q1
      try simp only [Act.put, List.getElem_toArray, List.getElem_cons_succ, List.getElem_cons_zero, List.setIfInBounds_toArray, List.set_cons_zero, List.set_cons_succ]
      refine wpAnyH_take (i := 21) (v := ?_) rfl (by kernel_rfl) (by kernel_rfl) (by kernel_rfl) (fun _ _ _ h => h) (Or.inl ⟨by rfl, ?_⟩) hS ?_
      rotate_left
      · intro w hw
        go_simp
        try with_reducible rfl
      try simp only [Act.put, List.getElem_toArray, List.getElem_cons_succ, List.getElem_cons_zero, List.setIfInBounds_toArray, List.set_cons_zero, List.set_cons_succ]
      refine wpAnyH_ready (rs := [22]) (by kernel_rfl) (by simp) ?_
      refine AllReadyH.cons rfl (fun K hK => ?_) AllReadyH.nil
      refine held_append rfl _ _ 31 rfl rfl rfl HR5.out ?_
      refine hK.out _ _ (Lib.hid ⟨below_keep (S := fun j => j = gl) HB5.out, (HB5.out.cell (show gl < wc.heap.size from HGLW.out)).trans Q3.out⟩) (fun hS => ?_)
      clear hK K
      try simp only [Act.put, List.getElem_toArray, List.getElem_cons_succ, List.getElem_cons_zero, List.setIfInBounds_toArray, List.set_cons_zero, List.set_cons_succ]
      refine wpAnyH_take (i := 23) (v := ?_) rfl (by kernel_rfl) (by kernel_rfl) (by kernel_rfl) (fun _ _ _ h => h) (Or.inl ⟨by rfl, ?_⟩) hS ?_
      rotate_left
      · intro w hw
        go_simp
        try with_reducible rfl
      try simp only [Act.put, List.getElem_toArray, List.getElem_cons_succ, List.getElem_cons_zero, List.setIfInBounds_toArray, List.set_cons_zero, List.set_cons_succ]
      refine wpAnyH_take (i := 24) (v := ?_) rfl (by kernel_rfl) (by kernel_rfl) (by kernel_rfl) (fun _ _ _ h => h) (Or.inl ⟨by rfl, ?_⟩) hS ?_
      rotate_left
      · intro w hw
        go_simp
        try with_reducible rfl
      try simp only [Act.put, List.getElem_toArray, List.getElem_cons_succ, List.getElem_cons_zero, List.setIfInBounds_toArray, List.set_cons_zero, List.set_cons_succ]
      refine wpAnyH_ready (rs := [25]) (by kernel_rfl) (by simp) ?_
      refine AllReadyH.cons rfl (fun K hK => ?_) AllReadyH.nil
      have q2 := Q5.out
      have z2 := Z5.out
      go_simp
      refine hK.out _ _ (Lib.hid ⟨(below_keep (S := fun j => j = gl) HB5.out).setCell (p := ⟨gl, j * 3 + 1, none⟩) (.inr rfl) _, ?_⟩) (fun hS => ?_)
      · have h := (HB5.out.cell (p := ⟨gl, j * 3 + 2, none⟩) (show gl < wc.heap.size from HGLW.out)).trans Q3.out
        go_simp
      clear hK K q2 z2
      try simp only [Act.put, List.getElem_toArray, List.getElem_cons_succ, List.getElem_cons_zero, List.setIfInBounds_toArray, List.set_cons_zero, List.set_cons_succ]
      refine wpAnyH_done (by kernel_rfl) ?_ _
      obtain ⟨S', L', hL4, hn4, hK4, hS4⟩ := FIN10.out
      have HL4 := Lib.hid hL4
      have HN4 := Lib.hid hn4
      have HK4 := Lib.hid hK4
      have HS4 := Lib.hid hS4
      clear hL4 hn4 hK4 hS4 FIN10
      go_wp2_with fail
      go_roundw
      case rel => exact ⟨j + 1, S', L', by go_num, by omega, HL4, HN4, HK4, HS4⟩
      case measure => simp [intOf]; omega
    · obtain rfl : j = nn := by omega
      have dl : decide (j < j) = false := decide_eq_false (by omega)
      go_wp2_with fail
      go_end0
      refine ⟨S1, rfl, ?_, HK.out, HS1.out⟩
      have h1 := HL.out.toAt
      have e : half m K j = crashM m keep := by
        unfold half crashM
        rw [HNN.out, ← HML.out, List.take_length, List.drop_length, List.append_nil, HKE.out]
      rw [e] at h1
      exact h1
end
end Go.Proofs.Ytnbknihaefkllaa.Rk
