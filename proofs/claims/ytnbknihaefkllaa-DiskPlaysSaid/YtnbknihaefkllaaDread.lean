/- What Read of package disk answers. -/
import Derived.Test.YtnbknihaefkllaaDsync
namespace Go.Proofs.Ytnbknihaefkllaa.Dk
set_option linter.unusedVariables false
set_option linter.unusedSimpArgs false
open Go.RowKit Go.Maps Lift Ik

theorem drop_at (A : Option Addr) (n c p : Nat) (h : p ≤ n) (hc : n ≤ c) (hm : c ≤ maxLen) :
    ∃ A' : Option Addr, (0 < n - p → A' = A.map (·.add p)) ∧ (A'.isSome = A.isSome) ∧ ∀ W : World, Sem.run Try.prog (Instr.slice 31 (.slice A n c) (some (.int .i64 (p : Int))) none none) W = .ok (.slice A' (n - p) (c - p)) W := by
  unfold maxLen at hm
  by_cases hcp : c = p
  · refine ⟨A, fun h0 => by omega, rfl, fun W => ?_⟩
    obtain rfl : n = p := by omega
    subst hcp
    go_simp
  · refine ⟨A.map (·.add p), fun _ => rfl, by simp, fun W => ?_⟩
    go_simp
theorem upto_at (A : Option Addr) (n c k : Nat) (h : k ≤ c) (hc : n ≤ c) (hm : c ≤ maxLen) (W : World) : Sem.run Try.prog (Instr.slice 31 (.slice A n c) none (some (.int .i64 (k : Int))) none) W = .ok (.slice A k c) W := by
  unfold maxLen at hm
  go_simp
/-- What bytes.Clone answers, whatever the slice. -/
theorem clone_at (A : Option Addr) (c : Nat) (xs : List Nat) (w : World) (hl : Lies w w.heap.size A (xs.map vb)) (hm : xs.length ≤ 140737488354000) (h0 : A = none → xs.length = 0 ∧ c = 0) :
    Calls Try.prog 38 #[.slice A xs.length c] w (Made w.heap.size w xs) := by
  rcases A with _ | ad
  · obtain ⟨h1, rfl⟩ := h0 rfl
    rw [List.eq_nil_of_length_eq_zero h1]
    refine (clone_nil w).mono ?_
    rintro e w' ⟨rfl, rfl⟩
    exact ⟨_, rfl, World.ownsRow_nil _ _ _ _, Below.refl _ _⟩
  · exact clone_any ad c xs w hl hm
theorem own_none {w : World} {base size n c : Nat} {e : TypeId} {xs : List Value} (h : w.ownsRow base e size (.slice none n c) n xs) : n = 0 ∧ c = 0 := by
  rcases h.2 with ⟨h0, h1⟩ | ⟨g, cap, cur, hv, _⟩
  · injection h0 with _ h2 h3
    exact ⟨h1, h3⟩
  · injection hv with h2
    cases h2

section
variable {w w' : World} {g : Nat} {S S' T : Nat → Prop} {m : MS} {fs : List Fi} {M : Option Nat} {A : Option Addr} {c : Nat}
/-- A number and bytes are told, the bytes in new memory; the disk is then m'. -/
def Gave (w : World) (g : Nat) (S : Nat → Prop) (m' : MS) (r : Nat × List Nat) (e : Ending) (w' : World) : Prop :=
  ∃ (A : Option Addr) (c : Nat), e = .returned (.tuple #[.slice A r.2.length c, .int .i64 (r.1 : Int)]) ∧ LiesP w' (fun k => w.heap.size ≤ k ∧ k < w'.heap.size) A (r.2.map vb) ∧ r.2.length ≤ c ∧ c ≤ maxLen ∧ At w' g S m' ∧ Keep S w w'
theorem gave_no {n : Nat} (hL : Lay w' g S m fs M A c) (hK : Keep (· = g) w w') : Gave w g S m (n, []) (.returned (.tuple #[.slice none 0 0, .int .i64 (n : Int)])) w' :=
  ⟨none, 0, rfl, .inl rfl, Nat.le_refl _, by decide, hL.toAt, hK.mono fun k hk => by rw [hk]; exact hL.sg⟩
set_option maxRecDepth 100000 in
set_option maxHeartbeats 1000000 in
theorem read_any (nm : ByteArray) (at' n : Int) (ha : (Lit.int .i64 at').wf = true) (hn : (Lit.int .i64 n).wf = true) (h : At w g S m) (hf : m.failed ≤ 1000000) :
    Calls Try.prog (12) #[.pointer (some ⟨g, 0, none⟩), .string nm, .int .i64 at', .int .i64 n] w (Gave w g S (hit m).2 (readM m nm at' n)) := by
  obtain ⟨fs, M, A, c, h⟩ := h
  have b1 := i64_of ha
  have b2 := i64_of hn
  have HF := Lib.hid (find1 nm h hf)
  have HT := Lib.hid h.told
  clear h ha hn
  go_enter Try.func12, Try.ntmps12
  go_wp2_with fail
  refine HF.out.mono ?_
  rintro e W1 ⟨A1, c1, hk1, hL1, hc⟩
  have HK := Lib.hid hk1
  have HL := Lib.hid hL1
  rcases hc with ⟨f, hlk, hb0, rfl⟩ | ⟨hne, rfl⟩
  · have hok := hL1.files.ok f (look_mem hlk).1
    have E : Hid (readM m nm at' n = if at' < 0 ∨ n < 0 ∨ (f.bs.length : Int) < at' then (1, []) else (0, (f.bs.drop at'.toNat).take n.toNat)) := Lib.hid (onFile_yes HT.out hb0 hlk)
    obtain ⟨f0, f1, z0, z1⟩ := hok.box.facts2
    obtain ⟨Av, cv, hv, hcv, hcvm, hlies⟩ := own_parts hok.own
    have hown := hok.own
    have hlen := hok.len
    rw [hv] at f0 hown
    have hnone : Hid (Av = none → f.bs.length = 0 ∧ cv = 0) := Lib.hid fun e => by subst e; exact own_none hown
    have HLS := Lib.hid hlies
    obtain ⟨L, hL⟩ : ∃ L, L = f.bs.length := ⟨_, rfl⟩
    rw [← hL] at f0 hcv hlen
    have HLL := Lib.hid hL
    clear hk1 hL1 HF hlk hb0 hok hv hown hlies hL
    by_cases k1 : at' < 0
    · have d1 : decide (at' < 0) = true := decide_eq_true k1
      have E1 : Hid (readM m nm at' n = (1, [])) := Lib.hid (by rw [E.out, if_pos (.inl k1)])
      clear k1
      go_wp2_with fail
      go_returns
      rw [E1.out]
      exact gave_no HL.out HK.out
    · by_cases k2 : n < 0
      · have d1 : decide (at' < 0) = false := decide_eq_false k1
        have d2 : decide (n < 0) = true := decide_eq_true k2
        have E1 : Hid (readM m nm at' n = (1, [])) := Lib.hid (by rw [E.out, if_pos (.inr (.inl k2))])
        clear k1 k2
        go_wp2_with fail
        go_returns
        rw [E1.out]
        exact gave_no HL.out HK.out
      · obtain ⟨p, rfl⟩ : ∃ p : Nat, at' = (p : Int) := ⟨at'.toNat, by omega⟩
        obtain ⟨q, rfl⟩ : ∃ q : Nat, n = (q : Int) := ⟨n.toNat, by omega⟩
        have d1 : decide ((p : Int) < 0) = false := decide_eq_false k1
        have d2 : decide ((q : Int) < 0) = false := decide_eq_false k2
        by_cases k3 : L < p
        · have d3 : decide (L < p) = true := decide_eq_true k3
          have E1 : Hid (readM m nm (p : Int) (q : Int) = (1, [])) := Lib.hid (by rw [E.out, if_pos (.inr (.inr (by rw [← HLL.out]; omega)))])
          clear k1 k2 k3
          go_wp2_with fail
          go_returns
          rw [E1.out]
          exact gave_no HL.out HK.out
        · have d3 : decide (L < p) = false := decide_eq_false k3
          have E1 : Hid (readM m nm (p : Int) (q : Int) = (0, (f.bs.drop p).take q)) := Lib.hid (by
            rw [E.out, if_neg (by rw [← HLL.out]; omega), Int.toNat_natCast, Int.toNat_natCast])
          obtain ⟨A', hA1, hA2, hA3⟩ := drop_at Av L cv p (by omega) hcv hcvm
          obtain ⟨r, hr⟩ : ∃ r, r = L - p := ⟨_, rfl⟩
          obtain ⟨cr, hcr⟩ : ∃ cr, cr = cv - p := ⟨_, rfl⟩
          rw [← hr, ← hcr] at hA3
          rw [← hr] at hA1
          obtain ⟨k, hk⟩ : ∃ k, k = min q r := ⟨_, rfl⟩
          have hmin : min (q : Int) (r : Int) = (k : Int) := by omega
          have hA4 := upto_at A' r cr k (by omega) (by omega) (by unfold maxLen at hcvm ⊢; omega)
          have hxl : ((f.bs.drop p).take q).length = k := by rw [List.length_take, List.length_drop, ← HLL.out]; omega
          have hl2 : Lies W1 W1.heap.size A' (((f.bs.drop p).take q).map vb) := by
            by_cases h0 : k = 0
            · left
              rw [List.map_eq_nil_iff]
              exact List.eq_nil_of_length_eq_zero (by omega)
            · rw [hA1 (by omega)]
              obtain ⟨ad, hada, hadb, hcell⟩ := HLS.out.place (by rw [List.length_map, ← HLL.out]; omega)
              subst hada
              refine .inr ⟨ad.add p, rfl, by rw [add_block]; exact hadb, fun j u hj => ?_⟩
              rw [add_add]
              refine hcell _ _ ?_
              rw [← hj, List.getElem?_map, List.getElem?_map, List.getElem?_take_of_lt, List.getElem?_drop]
              have := (List.getElem?_eq_some_iff.1 hj).1
              rw [List.length_map, hxl] at this
              omega
          have hcl := clone_at A' cr ((f.bs.drop p).take q) W1 hl2 (by rw [hxl]; omega) (fun e => by
            have h1 : Av = none := by rw [e] at hA2; cases Av <;> simp at hA2 ⊢
            obtain ⟨h2, h3⟩ := hnone.out h1
            rw [hxl]
            have := HLL.out
            omega)
          rw [hxl] at hcl
          have HCL := Lib.hid hcl
          have HXL := Lib.hid hxl
          clear k1 k2 k3 hl2 hcl hxl hA1 hA2 hr hcr hk
          go_wp2_with fail
          refine HCL.out.mono ?_
          intro e W2 hm2
          obtain ⟨v2, rfl, hown2, hb2⟩ := hm2
          have hp2 := hown2
          rw [HXL.out] at hp2
          obtain ⟨A2, c2, rfl, hc2, hcm2, _⟩ := own_parts hp2
          have HLP := Lib.hid (LiesP.of_own hp2)
          have HL2 := Lib.hid (HL.out.toAt.below hb2)
          have HK2 := Lib.hid ((HK.out.mono (T := S) fun k hk => by rw [hk]; exact HL.out.sg).trans (T := fun _ => False) (below_keep hb2) fun _ _ h => h.elim)
          have HC2 := Lib.hid hc2
          have HM2 := Lib.hid hcm2
          clear hown2 hb2 hp2 hc2 hcm2 HCL
          go_wp2_with fail
          go_returns
          rw [E1.out]
          refine ⟨A2, c2, by rw [HXL.out]; rfl, HLP.out.later (fun _ _ => rfl) fun k hk => ⟨Nat.le_trans HK.out.size hk.1, hk.2.1⟩, by rw [HXL.out]; exact HC2.out, HM2.out, HL2.out, HK2.out⟩
  · have E : Hid (readM m nm at' n = (gone m [nm] (look fs nm), [])) := Lib.hid (onFile_no HT.out hne)
    have d1 : ((gone m [nm] (look fs nm) : Int) != 0) = true := by rw [bne_iff_ne]; omega
    clear hk1 hL1 HF hne
    go_wp2_with fail
    go_returns
    rw [E.out]
    exact gave_no HL.out HK.out
end
end Go.Proofs.Ytnbknihaefkllaa.Dk
