/- The document's own disk: Read, List; two lists of names. -/
import Derived.Test.YtnbknihaefkllaaRmisc
namespace Go.Proofs.Ytnbknihaefkllaa.Rk
set_option linter.unusedVariables false
set_option linter.unusedSimpArgs false
open Go.RowKit Go.Maps Lift Ik Dk

theorem cut_at (A : Option Addr) (n c p k : Nat) (h : p + k ≤ n) (hc : n ≤ c) (hm : c ≤ maxLen) :
    ∃ A' : Option Addr, (0 < k → A' = A.map (·.add p)) ∧ ∀ W : World, Sem.run Try.prog (Instr.slice 31 (.slice A n c) (some (.int .i64 (p : Int))) (some (.int .i64 ((p : Int) + (k : Int)))) none) W = .ok (.slice A' k (c - p)) W := by
  unfold maxLen at hm
  by_cases hcp : c = p
  · refine ⟨A, fun h0 => by omega, fun W => ?_⟩
    obtain rfl : k = 0 := by omega
    obtain rfl : n = p := by omega
    subst hcp
    go_simp
  · refine ⟨A.map (·.add p), fun _ => rfl, fun W => ?_⟩
    go_simp
    rw [if_pos ⟨by omega, by omega⟩, if_pos (by omega), show ((p : Int) + (k : Int)).toNat - p = k by omega]
section
variable {w w' : World} {g : Nat} {S S' T : Nat → Prop} {rm : Int} {m : MS} {L : List D} {A F : Option Addr} {c cf : Nat}
def RGave (w : World) (g : Nat) (S : Nat → Prop) (rm : Int) (m' : MS) (r : Nat × List Nat) (e : Ending) (w' : World) : Prop :=
  ∃ (A : Option Addr) (c : Nat), e = .returned (.tuple #[.slice A r.2.length c, .int .i64 (r.1 : Int)]) ∧ LiesP w' (fun k => w.heap.size ≤ k ∧ k < w'.heap.size) A (r.2.map vb) ∧ r.2.length ≤ c ∧ c ≤ maxLen ∧ At w' g S rm m' ∧ Keep (· = g) w w'
theorem rgave_no {n : Nat} (hL : Lay w' g S rm m L A F c cf) (hK : Keep (· = g) w w') : RGave w g S rm m (n, []) (.returned (.tuple #[.slice none 0 0, .int .i64 (n : Int)])) w' :=
  ⟨none, 0, rfl, .inl rfl, Nat.le_refl _, by decide, hL.toAt, hK⟩
set_option maxRecDepth 100000 in
set_option maxHeartbeats 1000000 in
theorem rread_any (nm : ByteArray) (at' n : Int) (hnm : nm.size ≤ 1000) (ha : (Lit.int .i64 at').wf = true) (hn : (Lit.int .i64 n).wf = true) (h : At w g S rm m) (hf : m.failed ≤ 1000000) :
    Calls Try.prog (23) #[.pointer (some ⟨g, 0, none⟩), .string nm, .int .i64 at', .int .i64 n] w (RGave w g S rm (hit m).2 (readM m nm at' n)) := by
  obtain ⟨L, A, F, c, cf, h⟩ := h
  have b1 := i64_of ha
  have b2 := i64_of hn
  have HF := Lib.hid (found_any nm hnm h hf)
  obtain ⟨hcap, hcm⟩ := h.cap
  clear h ha hn
  go_enter Try.func23, Try.ntmps23
  go_wp2_with fail
  refine HF.out.mono ?_
  rintro e W1 ⟨F1, cf1, hk1, hL1, hc⟩
  have HK := Lib.hid hk1
  have HL := Lib.hid hL1
  rcases hc with ⟨d, hd, hdn, hE, rfl⟩ | ⟨er, hne, hE, rfl⟩
  · obtain ⟨p0, p1, _⟩ := hL1.facts
    have hlt := (List.getElem?_eq_some_iff.1 hd).1
    obtain ⟨gl, hA, _, q1, _, _, _⟩ := hL1.place hd
    subst hA
    have hok := hL1.ok d (List.mem_of_getElem? hd)
    have hdc := hok.cap
    have hdm := hok.max
    have hdl := hok.len
    have E : Hid (readM m nm at' n = if at' < 0 ∨ n < 0 ∨ (d.bs.length : Int) < at' then (1, []) else (0, (d.bs.drop at'.toNat).take n.toNat)) := Lib.hid (hE _ _)
    have HLS : Hid (Lies W1 W1.heap.size d.a (d.bs.map vb)) := Lib.hid (hok.lies.lies fun k hk => hL1.lt k hk.1)
    obtain ⟨i, hi⟩ : ∃ i, i = idx m.fs nm := ⟨_, rfl⟩
    rw [← hi] at q1 hlt ⊢
    obtain ⟨nb, hnb⟩ : ∃ nb, nb = d.bs.length := ⟨_, rfl⟩
    rw [← hnb] at q1 hdc hdl
    have HNB := Lib.hid hnb
    clear hk1 hL1 HF hd hE hi hok hnb
    by_cases k1 : at' < 0
    · have d1 : decide (at' < 0) = true := decide_eq_true k1
      have E1 : Hid (readM m nm at' n = (1, [])) := Lib.hid (by rw [E.out, if_pos (.inl k1)])
      clear k1
      go_wp2_with fail
      go_returns
      rw [E1.out]
      exact rgave_no HL.out HK.out
    · by_cases k2 : n < 0
      · have d1 : decide (at' < 0) = false := decide_eq_false k1
        have d2 : decide (n < 0) = true := decide_eq_true k2
        have E1 : Hid (readM m nm at' n = (1, [])) := Lib.hid (by rw [E.out, if_pos (.inr (.inl k2))])
        clear k1 k2
        go_wp2_with fail
        go_returns
        rw [E1.out]
        exact rgave_no HL.out HK.out
      · obtain ⟨p, rfl⟩ : ∃ p : Nat, at' = (p : Int) := ⟨at'.toNat, by omega⟩
        obtain ⟨q, rfl⟩ : ∃ q : Nat, n = (q : Int) := ⟨n.toNat, by omega⟩
        have d1 : decide ((p : Int) < 0) = false := decide_eq_false k1
        have d2 : decide ((q : Int) < 0) = false := decide_eq_false k2
        by_cases k3 : nb < p
        · have d3 : decide (nb < p) = true := decide_eq_true k3
          have E1 : Hid (readM m nm (p : Int) (q : Int) = (1, [])) := Lib.hid (by rw [E.out, if_pos (.inr (.inr (by rw [← HNB.out]; omega)))])
          clear k1 k2 k3
          go_wp2_with fail
          go_returns
          rw [E1.out]
          exact rgave_no HL.out HK.out
        · have d3 : decide (nb < p) = false := decide_eq_false k3
          have E1 : Hid (readM m nm (p : Int) (q : Int) = (0, (d.bs.drop p).take q)) := Lib.hid (by
            rw [E.out, if_neg (by rw [← HNB.out]; omega), Int.toNat_natCast, Int.toNat_natCast])
          obtain ⟨k, hk⟩ : ∃ k, k = min q (nb - p) := ⟨_, rfl⟩
          obtain ⟨A', hA1, hA3⟩ := cut_at d.a nb d.c p k (by omega) hdc hdm
          have hxl : ((d.bs.drop p).take q).length = k := by rw [List.length_take, List.length_drop, ← HNB.out]; omega
          have hl2 : Lies W1 W1.heap.size A' (((d.bs.drop p).take q).map vb) := by
            by_cases h0 : k = 0
            · left
              rw [List.map_eq_nil_iff]
              exact List.eq_nil_of_length_eq_zero (by omega)
            · rw [hA1 (by omega)]
              obtain ⟨ad, hada, hadb, hcell⟩ := HLS.out.place (by rw [List.length_map, ← HNB.out]; omega)
              rw [hada]
              refine .inr ⟨ad.add p, rfl, by rw [add_block]; exact hadb, fun j u hj => ?_⟩
              rw [Lift.add_add]
              refine hcell _ _ ?_
              rw [← hj, List.getElem?_map, List.getElem?_map, List.getElem?_take_of_lt, List.getElem?_drop]
              have := (List.getElem?_eq_some_iff.1 hj).1
              rw [List.length_map, hxl] at this
              omega
          obtain ⟨A2, c2, W2, hr2, hown2, hb2⟩ := fresh_bytes A' (d.c - p) _ ((d.bs.drop p).take q) W1 hl2 (by rw [hxl]; omega)
          rw [hxl] at hr2
          have hp2 := hown2
          rw [hxl] at hp2
          have HCM : Hid (k ≤ c2 ∧ c2 ≤ maxLen) := Lib.hid (by
            obtain ⟨_, _, hv, h1, h2, _⟩ := own_parts hp2
            cases hv
            exact ⟨h1, h2⟩)
          have HLP := Lib.hid (LiesP.of_own hp2)
          have HR2 := Lib.hid hr2
          have HXL := Lib.hid hxl
          have HB2 := Lib.hid hb2
          have fin : ∀ W', W' = W2 → RGave w g S rm (hit m).2 (readM m nm (p : Int) (q : Int)) (.returned (.tuple #[.slice A2 k c2, .int .i64 0])) W' := by
            rintro W' rfl
            rw [E1.out]
            exact ⟨A2, c2, by rw [HXL.out]; rfl, HLP.out.later (fun _ _ => rfl) fun k hk => ⟨Nat.le_trans HK.out.size hk.1, hk.2.1⟩, by rw [HXL.out]; exact HCM.out.1, HCM.out.2, HL.out.toAt.below HB2.out, HK.out.trans (T := fun _ => False) (below_keep HB2.out) fun _ _ h => h.elim⟩
          have FIN := Lib.hid fin
          clear fin hl2 hxl hA1 hr2 hown2 hb2 hp2
          by_cases k4 : nb - p < q
          · obtain rfl : nb = p + k := by omega
            have e0 : ((p + k : Nat) : Int) - (p : Int) = (k : Int) := by omega
            have e1 : (p : Int) + (k : Int) - (p : Int) = (k : Int) := by omega
            have d4 : decide (k < q) = true := by simp; omega
            have d5 : decide ((k : Int) < (q : Int)) = true := by simp; omega
            have d6 : decide (p + k < p) = false := by simp
            clear k1 k2 k3 hk k4 d3
            go_wp2_with (at_builtin; refine wpList_append_run rfl _ _ 31 rfl rfl rfl HR2.out ?_)
            go_returns
            exact FIN.out _ rfl
          · have d4 : decide ((nb : Int) - (p : Int) < (q : Int)) = false := by simp; omega
            obtain rfl : q = k := by omega
            have hpq : p + q ≤ 16777216 := by omega
            clear k1 k2 k3 hk k4
            go_wp2_with (at_builtin; refine wpList_append_run rfl _ _ 31 rfl rfl rfl HR2.out ?_)
            go_returns
            exact FIN.out _ rfl
  · have E : Hid (readM m nm at' n = (er, [])) := Lib.hid (hE _ _)
    have d1 : ((er : Int) != 0) = true := by rw [bne_iff_ne]; omega
    clear hk1 hL1 HF hne hE
    go_wp2_with fail
    go_returns
    rw [E.out]
    exact rgave_no HL.out HK.out
end
end Go.Proofs.Ytnbknihaefkllaa.Rk
