/- Buffers of the project: New, Ask, Add, Seal, Done, Sizes, Bytes. -/
import Derived.Test.YtmnhklfljfglhaaBuf2
namespace Go.Proofs.Ytmnhklfljfglhaa.Bu
set_option linter.unusedVariables false
set_option linter.unusedSimpArgs false
open Go.RowKit Lift Ik
/-- A limit, brought into its range. -/
def lim (n : Int) (m : Nat) : Nat := (min (max n 1) (m : Int)).toNat
theorem lim_le (n : Int) (m : Nat) (hm : 1 ≤ m) : 1 ≤ lim n m ∧ lim n m ≤ m := by unfold lim; omega
theorem new_any (b m : Int) (hb : -9223372036854775808 ≤ b ∧ b ≤ 9223372036854775807) (hm : -9223372036854775808 ≤ m ∧ m ≤ 9223372036854775807) (w : World) :
    Calls Try.prog 22 #[.int .i64 b, .int .i64 m] w fun e w' => e = .returned (.pointer (some ⟨w.heap.size, 0, none⟩)) ∧ BU w' w.heap.size (· = w.heap.size) (lim b 1073741824) (lim m 100) [] 0 ∧ Below w.heap.size w w' := by
  have H1 := Lib.hid (limited_any b 1073741824 hb (by decide))
  have H2 := Lib.hid (limited_any m 100 hm (by decide))
  have l1 := lim_le b 1073741824 (by decide)
  have l2 := lim_le m 100 (by decide)
  have HB := Lib.hid l1
  have HM := Lib.hid l2
  unfold lim at HB HM l1 l2 ⊢
  obtain ⟨x, hx⟩ : ∃ x, x = (min (max b 1) ((1073741824 : Nat) : Int)).toNat := ⟨_, rfl⟩
  obtain ⟨y, hy⟩ : ∃ y, y = (min (max m 1) ((100 : Nat) : Int)).toNat := ⟨_, rfl⟩
  rw [← hx] at HB l1 H1 ⊢
  rw [← hy] at HM l2 H2 ⊢
  clear hx hy l1 l2 hb hm
  go_enter Try.func22, Try.ntmps22
  go_wp2_with fail
  refine (show Calls Try.prog 60 #[.int .i64 b, .int .i64 1073741824] w _ from H1.out w).mono ?_
  rintro e w' ⟨rfl, rfl⟩
  go_wp2_with fail
  refine (show Calls Try.prog 60 #[.int .i64 m, .int .i64 100] w _ from H2.out w).mono ?_
  rintro e w' ⟨rfl, rfl⟩
  go_wp2_with fail
  go_ret
  exact ⟨rfl, ⟨none, 0, Lift.Box.new w Ty.bufs [vi x, vi y, vi 0, .slice none 0 0], .inl rfl, Nat.le_refl _, by decide, fun _ => rfl, rfl, fun k hk => by rw [hk]; simp, HB.out.1, HB.out.2, HM.out.1, HM.out.2, Nat.zero_le _, by simp, Nat.zero_le _⟩, Joins.below_alloc1 _ _⟩
section
variable {w w' : World} {g bu mo ac c : Nat} {S : Nat → Prop} {fs : List Nat} {A : Option Addr}
theorem ask_two {bu mo k ac n : Nat} (h : bu < n) : ask bu mo k ac n = 2 := by unfold ask; rw [if_pos h]
theorem ask_one {bu mo k ac n : Nat} (h : ¬ bu < n) (ho : over bu ac n = true) (hk : mo ≤ k) : ask bu mo k ac n = 1 := by unfold ask; rw [if_neg h, if_pos ⟨ho, hk⟩]
theorem ask_zero {bu mo k ac n : Nat} (h : ¬ bu < n) (ho : over bu ac n = false ∨ ¬ mo ≤ k) : ask bu mo k ac n = 0 := by
  unfold ask
  rw [if_neg h, if_neg]
  rintro ⟨h1, h2⟩
  rcases ho with h3 | h3
  · rw [h3] at h1; cases h1
  · exact h3 h2
set_option maxHeartbeats 400000 in
theorem ask_any (n : Int) (hn : -9223372036854775808 ≤ n ∧ n ≤ 9223372036854775807) (h : BU w g S bu mo fs ac) :
    Calls Try.prog (25) #[.pointer (some ⟨g, 0, none⟩), .int .i64 n] w fun e w' => e = .returned (vi (ask bu mo fs.length ac n.toNat)) ∧ ∃ m, w' = w.drewN m := by
  obtain ⟨k, hk⟩ : ∃ k : Nat, max n 0 = (k : Int) := ⟨(max n 0).toNat, by omega⟩
  have E : Hid (n.toNat = k) := Lib.hid (by omega)
  obtain ⟨A, c, hl⟩ := id h
  obtain ⟨-, hb2, -, hm2, hlen, -, hact⟩ := hl.ok
  obtain ⟨f0, f1, f2, f3⟩ := hl.facts
  have H := Lib.hid h
  clear h hl
  go_enter (Try.func25), (Try.ntmps25)
  by_cases hk2 : bu < k
  · have d1 : decide (bu < k) = true := decide_eq_true hk2
    have d2 : (bu : Int) < (k : Int) := by omega
    have F := Lib.hid (ask_two (mo := mo) (k := fs.length) (ac := ac) hk2)
    clear hk2
    go_wp2_with fail
    go_ret
    exact ⟨by rw [E.out, F.out]; rfl, 0, rfl⟩
  · have d1 : decide (bu < k) = false := decide_eq_false hk2
    have HO := Lib.hid (over_any k H.out (by omega))
    have HK := Lib.hid hk2
    clear hk2
    rcases ho : over bu ac k
    · have F := Lib.hid (ask_zero (mo := mo) (k := fs.length) (ac := ac) HK.out (.inl ho))
      rw [ho] at HO
      clear ho
      go_wp2_with fail
      refine HO.out.mono ?_
      rintro e W1 ⟨rfl, m, rfl⟩
      go_wp2_with fail
      go_ret
      exact ⟨by rw [E.out, F.out]; rfl, _, rfl⟩
    · rw [ho] at HO
      by_cases hc : mo ≤ fs.length
      · have F := Lib.hid (ask_one HK.out ho hc)
        have d3 : decide (mo ≤ fs.length) = true := decide_eq_true hc
        clear ho hc
        go_wp2_with fail
        refine HO.out.mono ?_
        rintro e W1 ⟨rfl, m, rfl⟩
        go_wp2_with fail
        refine (crowded_any (H.out.below (Joins.below_draws _ _ m))).mono ?_
        rintro e W1 ⟨rfl, m', rfl⟩
        rw [d3]
        go_wp2_with fail
        go_ret
        exact ⟨by rw [E.out, F.out]; rfl, _, rfl⟩
      · have F := Lib.hid (ask_zero (ac := ac) HK.out (.inr hc))
        have d3 : decide (mo ≤ fs.length) = false := decide_eq_false hc
        clear ho hc
        go_wp2_with fail
        refine HO.out.mono ?_
        rintro e W1 ⟨rfl, m, rfl⟩
        go_wp2_with fail
        refine (crowded_any (H.out.below (Joins.below_draws _ _ m))).mono ?_
        rintro e W1 ⟨rfl, m', rfl⟩
        rw [d3]
        go_wp2_with fail
        go_ret
        exact ⟨by rw [E.out, F.out]; rfl, _, rfl⟩
/-- What a write makes of the full buffers and of the active one. -/
def addF (bu mo : Nat) (fs : List Nat) (ac n : Nat) : List Nat := if ask bu mo fs.length ac n = 0 ∧ over bu ac n = true then fs ++ [ac] else fs
def addA (bu mo : Nat) (fs : List Nat) (ac n : Nat) : Nat := if ask bu mo fs.length ac n = 0 then (if over bu ac n = true then n else ac + n) else ac
theorem ask_go {bu mo k ac n : Nat} (h : ask bu mo k ac n = 0) : n ≤ bu ∧ (over bu ac n = true → k < mo) := by
  unfold ask at h
  split at h
  · cases h
  · rename_i h1
    split at h
    · cases h
    · rename_i h2
      exact ⟨by omega, fun ho => by
        rcases Nat.lt_or_ge k mo with h3 | h3
        · exact h3
        · exact absurd ⟨ho, h3⟩ h2⟩
theorem Went.put {w1 : World} {bu mo : Nat} {fs : List Nat} {ac a : Nat} (h : Went w g S bu mo fs ac w1) (ha : a ≤ bu) : Went w g S bu mo fs a (w1.setCell ⟨g, 2, none⟩ (vi a)) := by
  obtain ⟨S', ⟨A, c, h1⟩, h2, h3⟩ := h
  have hk : Keep (· = g) w1 (w1.setCell ⟨g, 2, none⟩ (vi a)) := (Keep.refl (fun k => k = g) _).setCell (p := ⟨g, 2, none⟩) (.inr rfl) _
  have hsz : (w1.setCell ⟨g, 2, none⟩ (vi a)).heap.size = w1.heap.size := by simp [World.setCell]
  refine ⟨S', ⟨A, c, h1.box.set 2 _, ?_, h1.hc, h1.hm, h1.nil, h1.sg, fun k hk => by rw [hsz]; exact h1.lt k hk, ?_⟩, ?_, h3⟩
  · refine h1.lies.later (fun k hk1 => ?_) fun _ h => h
    exact Below.heap_setCell _ _ _ _ (fun e => hk1.2 e)
  · obtain ⟨b1, b2, m1, m2, hl, he, _⟩ := h1.ok
    exact ⟨b1, b2, m1, m2, hl, he, ha⟩
  · refine ⟨hk.os.trans h2.os, hk.tape.trans h2.tape, hk.output.trans h2.output, Nat.le_trans h2.size hk.size, fun k h4 h5 => ?_⟩
    refine (hk.block k (Nat.lt_of_lt_of_le h4 h2.size) fun e => ?_).trans (h2.block k h4 h5)
    subst e
    exact (h3 k h1.sg).elim h5 (by omega)
set_option maxHeartbeats 800000 in
theorem add_any (n : Int) (hn : -9223372036854775808 ≤ n ∧ n ≤ 9223372036854775807) (h : BU w g S bu mo fs ac) :
    Calls Try.prog (24) #[.pointer (some ⟨g, 0, none⟩), .int .i64 n] w fun e w' => e = .returned (vi (ask bu mo fs.length ac n.toNat)) ∧ Went w g S bu mo (addF bu mo fs ac n.toNat) (addA bu mo fs ac n.toNat) w' := by
  obtain ⟨k, hk⟩ : ∃ k : Nat, max n 0 = (k : Int) := ⟨(max n 0).toNat, by omega⟩
  have E : n.toNat = k := by omega
  rw [E]
  have hk63 : (k : Int) ≤ 9223372036854775807 := by omega
  have HA := Lib.hid (ask_any (k : Int) ⟨by omega, hk63⟩ h)
  rw [Int.toNat_natCast] at HA
  obtain ⟨-, hb2, -, hm2, hlen, -, hact⟩ := h.ok
  have H := Lib.hid h
  clear h E
  go_enter (Try.func24), (Try.ntmps24)
  by_cases h0 : ask bu mo fs.length ac k = 0
  · obtain ⟨hkb, hov⟩ := ask_go h0
    rw [h0] at HA ⊢
    have HOV := Lib.hid hov
    rcases ho : over bu ac k
    · have hf : addF bu mo fs ac k = fs := by unfold addF; rw [if_neg]; rw [ho]; rintro ⟨_, h⟩; cases h
      have ha : addA bu mo fs ac k = ac + k := by unfold addA; rw [if_pos h0, ho]; rfl
      have hle : ac + k ≤ bu ∨ ac = 0 := by
        by_cases hac : ac = 0
        · exact .inr hac
        · unfold over at ho
          have := of_decide_eq_false ho
          left; omega
      have hle2 : ac + k ≤ bu := by omega
      rw [hf, ha]
      have HLE := Lib.hid hle2
      have HO := Lib.hid (fun m => over_any k (H.out.below (Joins.below_draws _ _ m)) hkb)
      rw [ho] at HO
      clear h0 hov ho hf ha hle
      go_wp2_with fail
      refine HA.out.mono ?_
      rintro e W1 ⟨rfl, m, rfl⟩
      go_wp2_with fail
      refine (HO.out m).mono ?_
      rintro e W1 ⟨rfl, m', rfl⟩
      have HW := Lib.hid (Went.stay H.out (Joins.below_draws w.heap.size w (m + m')))
      obtain ⟨A, c, hl⟩ := H.out.below (Joins.below_draws w.heap.size w (m + m'))
      obtain ⟨f0, f1, f2, f3⟩ := hl.facts
      have z2 := hl.box.free 2
      clear hl
      go_wp2_with fail
      go_ret
      exact ⟨rfl, HW.out.put HLE.out⟩
    · have hf : addF bu mo fs ac k = fs ++ [ac] := by unfold addF; rw [if_pos ⟨h0, ho⟩]
      have ha : addA bu mo fs ac k = k := by unfold addA; rw [if_pos h0, if_pos ho]
      rw [hf, ha]
      have HR := Lib.hid (hov ho)
      have HKB := Lib.hid hkb
      have HO := Lib.hid (fun m => over_any k (H.out.below (Joins.below_draws _ _ m)) hkb)
      rw [ho] at HO
      clear h0 hov ho hf ha
      go_wp2_with fail
      refine HA.out.mono ?_
      rintro e W1 ⟨rfl, m, rfl⟩
      go_wp2_with fail
      refine (HO.out m).mono ?_
      rintro e W1 ⟨rfl, m', rfl⟩
      go_wp2_with fail
      refine (turn_any (H.out.below (Joins.below_draws w.heap.size w (m + m'))) HR.out).mono ?_
      rintro e W1 ⟨rfl, hw⟩
      have HW : Hid (Went w g S bu mo (fs ++ [ac]) 0 W1) := Lib.hid (by
        obtain ⟨S', h1, h2, h3⟩ := hw
        exact ⟨S', h1, ⟨h2.os, h2.tape, h2.output, h2.size, h2.block⟩, h3⟩)
      clear hw
      obtain ⟨S1, ⟨A, c, hl⟩, -, -⟩ := HW.out
      obtain ⟨f0, f1, f2, f3⟩ := hl.facts
      have z2 := hl.box.free 2
      clear hl
      have e0 : (0 : Int) + (k : Int) = (k : Int) := by omega
      go_wp2_with fail
      go_ret
      exact ⟨rfl, HW.out.put HKB.out⟩
  · have hf : addF bu mo fs ac k = fs := by unfold addF; rw [if_neg]; rintro ⟨h, _⟩; exact h0 h
    have ha : addA bu mo fs ac k = ac := by unfold addA; rw [if_neg h0]
    rw [hf, ha]
    obtain ⟨v, hv⟩ : ∃ v, v = ask bu mo fs.length ac k := ⟨_, rfl⟩
    rw [← hv] at HA h0 ⊢
    have d0 : ((v : Int) != 0) = true := by rw [bne_iff_ne]; omega
    clear hf ha hv h0
    go_wp2_with fail
    refine HA.out.mono ?_
    rintro e W1 ⟨rfl, m, rfl⟩
    go_wp2_with fail
    go_ret
    exact ⟨rfl, Went.stay H.out (Joins.below_draws _ _ _)⟩
/-- Does a seal do something? -/
def sealB (mo : Nat) (fs : List Nat) (ac : Nat) : Bool := decide (0 < ac ∧ fs.length < mo)
set_option maxHeartbeats 400000 in
theorem seal_any (h : BU w g S bu mo fs ac) :
    Calls Try.prog (28) #[.pointer (some ⟨g, 0, none⟩)] w fun e w' => e = .returned (.bool (sealB mo fs ac)) ∧ Went w g S bu mo (if sealB mo fs ac = true then fs ++ [ac] else fs) (if sealB mo fs ac = true then 0 else ac) w' := by
  obtain ⟨A, c, hl⟩ := id h
  obtain ⟨-, hb2, -, hm2, hlen, -, hact⟩ := hl.ok
  obtain ⟨f0, f1, f2, f3⟩ := hl.facts
  have H := Lib.hid h
  clear h hl
  go_enter (Try.func28), (Try.ntmps28)
  by_cases h0 : ac = 0
  · have hs : sealB mo fs ac = false := by unfold sealB; exact decide_eq_false (by omega)
    rw [hs]
    clear hs
    subst h0
    go_wp2_with fail
    go_ret
    exact ⟨rfl, Went.stay H.out (Below.refl _ _)⟩
  · have d0 : decide (ac = 0) = false := decide_eq_false h0
    have d1 : ((ac : Int) == 0) = false := by rw [beq_eq_false_iff_ne]; omega
    have d2 : decide ((ac : Int) = 0) = false := decide_eq_false (by omega)
    by_cases hr : fs.length < mo
    · have hs : sealB mo fs ac = true := by unfold sealB; exact decide_eq_true ⟨by omega, hr⟩
      have HC := Lib.hid (crowded_any H.out)
      have HR := Lib.hid hr
      rw [show decide (mo ≤ fs.length) = false from decide_eq_false (by omega)] at HC
      rw [hs]
      clear hs hr h0
      go_wp2_with fail
      refine HC.out.mono ?_
      rintro e W1 ⟨rfl, m, rfl⟩
      go_wp2_with fail
      refine (turn_any (H.out.below (Joins.below_draws w.heap.size w m)) HR.out).mono ?_
      rintro e W1 ⟨rfl, hw⟩
      have HW : Hid (Went w g S bu mo (fs ++ [ac]) 0 W1) := Lib.hid (by
        obtain ⟨S', h1, h2, h3⟩ := hw
        exact ⟨S', h1, ⟨h2.os, h2.tape, h2.output, h2.size, h2.block⟩, h3⟩)
      clear hw
      go_wp2_with fail
      go_ret
      exact ⟨rfl, HW.out⟩
    · have hs : sealB mo fs ac = false := by unfold sealB; exact decide_eq_false (by omega)
      have HC := Lib.hid (crowded_any H.out)
      rw [show decide (mo ≤ fs.length) = true from decide_eq_true (by omega)] at HC
      rw [hs]
      clear hs hr h0
      go_wp2_with fail
      refine HC.out.mono ?_
      rintro e W1 ⟨rfl, m, rfl⟩
      go_wp2_with fail
      go_ret
      exact ⟨rfl, Went.stay H.out (Joins.below_draws _ _ _)⟩
theorem cut_one (A : Option Addr) (n c : Nat) (h : 1 ≤ n) (hc : n ≤ c) (hm : c ≤ maxLen) :
    ∃ A' : Option Addr, (0 < n - 1 → A' = A.map (·.add 1)) ∧ (A'.isSome = A.isSome) ∧ ∀ W : World, Sem.run Try.prog (Instr.slice 23 (.slice A n c) (some (.int .i64 1)) none none) W = .ok (.slice A' (n - 1) (c - 1)) W := by
  unfold maxLen at hm
  have h' : ¬ (n : Int) < 1 := by omega
  have h'' : (1 : Int) ≤ (n : Int) := by omega
  by_cases hcp : c = 1
  · refine ⟨A, fun h0 => by omega, rfl, fun W => ?_⟩
    obtain rfl : n = 1 := by omega
    subst hcp
    go_simp
  · refine ⟨A.map (·.add 1), fun _ => rfl, by simp, fun W => ?_⟩
    go_simp
set_option maxHeartbeats 400000 in
theorem done_any (h : BU w g S bu mo fs ac) :
    Calls Try.prog (30) #[.pointer (some ⟨g, 0, none⟩)] w fun e w' => e = .returned (.bool (decide (0 < fs.length))) ∧ Went w g S bu mo fs.tail ac w' := by
  obtain ⟨A, c, hl⟩ := id h
  obtain ⟨-, hb2, -, hm2, hlen, -, hact⟩ := hl.ok
  obtain ⟨f0, f1, f2, f3⟩ := hl.facts
  have z3 := hl.box.free 3
  have H := Lib.hid h
  have HL := Lib.hid hl
  clear h hl
  rcases fs with _ | ⟨f, fs⟩
  · go_enter (Try.func30), (Try.ntmps30)
    go_wp2_with fail
    go_ret
    exact ⟨rfl, Went.stay H.out (Below.refl _ _)⟩
  · obtain ⟨A', hA, hA2, hcut⟩ := cut_one A (fs.length + 1) c (by omega) HL.out.hc HL.out.hm
    rw [Nat.add_sub_cancel] at hA hcut
    simp only [List.length_cons, List.tail_cons] at f3 hlen ⊢
    have d0 : (((fs.length + 1 : Nat) : Int) == 0) = false := by rw [beq_eq_false_iff_ne]; omega
    have d1 : decide (((fs.length + 1 : Nat) : Int) = 0) = false := decide_eq_false (by omega)
    have HA := Lib.hid hA
    have HA2 := Lib.hid hA2
    clear hA hA2
    go_enter (Try.func30), (Try.ntmps30)
    go_wp2_with fail
    go_ret
    refine ⟨by rw [decide_eq_true (by omega)]; rfl, ?_⟩
    have hk : Keep (· = g) w (w.setCell ⟨g, 3, none⟩ (.slice A' fs.length (c - 1))) := (Keep.refl (fun k => k = g) _).setCell (p := ⟨g, 3, none⟩) (.inr rfl) _
    have hsz : (w.setCell ⟨g, 3, none⟩ (.slice A' fs.length (c - 1))).heap.size = w.heap.size := by simp [World.setCell]
    have hc := HL.out.hc
    have hm := HL.out.hm
    rw [List.length_cons] at hc
    refine ⟨S, ⟨A', c - 1, HL.out.box.set 3 _, ?_, by omega, by omega, fun e => ?_, HL.out.sg, fun k hk => by rw [hsz]; exact HL.out.lt k hk, ?_⟩, hk.mono fun k hk => by rw [hk]; exact HL.out.sg, fun k hk => .inl hk⟩
    · by_cases h0 : fs.length = 0
      · left; rw [List.eq_nil_of_length_eq_zero h0]; rfl
      · rcases HL.out.lies with h1 | ⟨ad, rfl, hb, hcell⟩
        · simp at h1
        · refine .inr ⟨ad.add 1, HA.out (by omega), by rw [add_block]; exact hb, fun j u hj => ?_⟩
          rw [Lift.add_add, Nat.add_comm]
          refine (World.cell?_of_block (w := w) ?_).trans (hcell (j + 1) u (by simpa using hj))
          rw [add_block]
          exact Below.heap_setCell _ _ _ _ (fun e => hb.2 e)
    · have := HA2.out
      rw [e] at this
      have h2 : A = none := by simpa using this.symm
      have := HL.out.nil h2
      omega
    · obtain ⟨b1, b2, m1, m2, hl, he, ha⟩ := H.out.ok
      rw [List.length_cons] at hl
      exact ⟨b1, b2, m1, m2, by omega, fun x hx => he x (List.mem_cons_of_mem _ hx), ha⟩
theorem iclone_some (ad : Addr) (c : Nat) (xs : List Nat) (w : World) (hl : Lies w w.heap.size (some ad) (xs.map vi)) (hm : xs.length ≤ 1000000000) :
    Calls Try.prog 66 #[.slice (some ad) xs.length c] w fun e w' => ∃ v, e = .returned v ∧ w'.ownsRow w.heap.size 3 1 v xs.length (xs.map vi) ∧ Below w.heap.size w w' := by
  have HL := Lib.hid hl
  have q22 : ∀ W : World, Sem.run Try.prog (binOp .eql 23 (.slice (some ad) xs.length c) (.slice none 0 0)) W = .ok (.bool false) W := fun W => Lib.run_eql_slice_nil W _ _ (some ad) xs.length c 0 0 Try.underlying23
  clear hl
  have hb0 := Joins.below_alloc1 w (.cells #[] 3)
  have hown : (w.alloc (.cells #[] 3)).ownsRow w.heap.size 3 1 (.slice (some ⟨w.heap.size, 0, none⟩) 0 0) 0 [] :=
    ⟨rfl, .inr ⟨w.heap.size, 0, #[], rfl, Nat.le_refl _, heap_alloc_new w _, Nat.le_refl _, by decide, rfl, rfl⟩⟩
  obtain ⟨v2, W2, hr2, hown2, hb2, hs2⟩ := run_append_lies (P := Try.prog) (m := xs.length) (c := c) 23 23 3 (.int .i64 0) 1 8 Try.underlying23 (by kernel_rfl) rfl (by decide)
      (fun u hu => by simp at hu; obtain ⟨_, _, rfl⟩ := hu; rfl) hown (HL.out.below hb0) (by simp) (by unfold maxLen; omega) (by omega) hb0.size
  rw [Nat.zero_add, List.nil_append] at hown2
  have HO := Lib.hid hown2
  have HB := Lib.hid (hb0.trans hb2)
  have HR := Lib.hid hr2
  clear hown hown2 hb0 hb2 hr2
  go_enter Try.func66, Try.ntmps66
  go_wp2_with (at_builtin; refine wpList_append_run rfl _ _ 23 rfl rfl rfl HR.out ?_)
  go_ret
  exact ⟨_, rfl, HO.out, HB.out⟩
theorem iclone_nil (w : World) : Calls Try.prog 66 #[.slice none 0 0] w fun e w' => e = .returned (.slice none 0 0) ∧ w = w' := by
  have q22 : ∀ W : World, Sem.run Try.prog (binOp .eql 23 (.slice none 0 0) (.slice none 0 0)) W = .ok (.bool true) W := fun W => Lib.run_eql_slice_nil W _ _ none 0 0 0 0 Try.underlying23
  go_enter Try.func66, Try.ntmps66
  go_wp2_with fail
  go_ret
  exact ⟨rfl, rfl⟩
theorem iclone_at (A : Option Addr) (c : Nat) (xs : List Nat) (w : World) (hl : Lies w w.heap.size A (xs.map vi)) (hm : xs.length ≤ 1000000000) (h0 : A = none → xs.length = 0 ∧ c = 0) :
    Calls Try.prog 66 #[.slice A xs.length c] w fun e w' => ∃ v, e = .returned v ∧ w'.ownsRow w.heap.size 3 1 v xs.length (xs.map vi) ∧ Below w.heap.size w w' := by
  rcases A with _ | ad
  · obtain ⟨h1, rfl⟩ := h0 rfl
    rw [List.eq_nil_of_length_eq_zero h1]
    refine (iclone_nil w).mono ?_
    rintro e w' ⟨rfl, rfl⟩
    exact ⟨_, rfl, World.ownsRow_nil _ _ _ _, Below.refl _ _⟩
  · exact iclone_some ad c xs w hl hm
/-- Whole numbers in a slice of the call's own. -/
def Ints (B : Nat) (w : World) (xs : List Nat) (e : Ending) (w' : World) : Prop := ∃ v, e = .returned v ∧ w'.ownsRow B 3 1 v xs.length (xs.map vi) ∧ Below B w w'
set_option maxRecDepth 100000 in
set_option maxHeartbeats 800000 in
theorem sizes_any (h : BU w g S bu mo fs ac) : Calls Try.prog (33) #[.pointer (some ⟨g, 0, none⟩)] w (Ints w.heap.size w (fs ++ [ac])) := by
  obtain ⟨A, c, h⟩ := h
  have HL := Lib.hid h
  have hlen : fs.length ≤ 1000 := by have := h.ok.m2; have := h.ok.len; omega
  clear h
  go_enter (Try.func33), (Try.ntmps33)
  go_wp2_with fail
  refine wp_region_held_drew (S := fun w' => Hid (Below w.heap.size w w')) (by kernel_rfl) (Lib.hid (Below.refl _ _).drew) (fun hS => ?_)
  refine wpAnyH_take (i := 0) (v := ?_) rfl (by kernel_rfl) (by kernel_rfl) (by kernel_rfl) (fun _ _ _ h => h) (Or.inl ⟨by rfl, ?_⟩) hS ?_
  rotate_left
  · intro w hw
    go_simp
    try with_reducible rfl
  try simp only [Act.put, List.getElem_toArray, List.getElem_cons_succ, List.getElem_cons_zero, List.setIfInBounds_toArray, List.set_cons_zero, List.set_cons_succ]
  refine wpAnyH_take (i := 1) (v := ?_) rfl (by kernel_rfl) (by kernel_rfl) (by kernel_rfl) (fun _ _ _ h => h) (Or.inl ⟨by rfl, ?_⟩) hS ?_
  rotate_left
  · intro w hw
    go_simp
    try with_reducible rfl
  try simp only [Act.put, List.getElem_toArray, List.getElem_cons_succ, List.getElem_cons_zero, List.setIfInBounds_toArray, List.set_cons_zero, List.set_cons_succ]
  refine wpAnyH_take (i := 2) (v := ?_) rfl (by kernel_rfl) (by kernel_rfl) (by kernel_rfl) (fun _ _ _ h => h) (Or.inl ⟨by rfl, ?_⟩) hS ?_
  rotate_left
  · intro w hw
    go_simp
    try with_reducible rfl
  try simp only [Act.put, List.getElem_toArray, List.getElem_cons_succ, List.getElem_cons_zero, List.setIfInBounds_toArray, List.set_cons_zero, List.set_cons_succ]
  refine wpAnyH_take (i := 3) (v := ?_) rfl (by kernel_rfl) (by kernel_rfl) (by kernel_rfl) (fun _ _ _ h => h) (Or.inl ⟨by rfl, ?_⟩) hS ?_
  rotate_left
  · intro w hw
    obtain ⟨f0, f1, f2, f3⟩ := (HL.out.same (fun k hk => hw.out.block k (HL.out.lt k hk)) hw.out.size).facts
    go_simp
    try with_reducible rfl
  try simp only [Act.put, List.getElem_toArray, List.getElem_cons_succ, List.getElem_cons_zero, List.setIfInBounds_toArray, List.set_cons_zero, List.set_cons_succ]
  refine wpAnyH_take (i := 5) (v := ?_) rfl (by kernel_rfl) (by kernel_rfl) (by kernel_rfl) (fun _ _ _ h => h) (Or.inl ⟨by rfl, ?_⟩) hS ?_
  rotate_left
  · intro w hw
    go_simp
    try with_reducible rfl
  try simp only [Act.put, List.getElem_toArray, List.getElem_cons_succ, List.getElem_cons_zero, List.setIfInBounds_toArray, List.set_cons_zero, List.set_cons_succ]
  refine wpAnyH_take (i := 6) (v := ?_) rfl (by kernel_rfl) (by kernel_rfl) (by kernel_rfl) (fun _ _ _ h => h) (Or.inl ⟨by rfl, ?_⟩) hS ?_
  rotate_left
  · intro w hw
    go_simp
    try with_reducible rfl
  try simp only [Act.put, List.getElem_toArray, List.getElem_cons_succ, List.getElem_cons_zero, List.setIfInBounds_toArray, List.set_cons_zero, List.set_cons_succ]
  refine wpAnyH_take (i := 7) (v := ?_) rfl (by kernel_rfl) (by kernel_rfl) (by kernel_rfl) (fun _ _ _ h => h) (Or.inl ⟨by rfl, ?_⟩) hS ?_
  rotate_left
  · intro w hw
    go_simp
    try with_reducible rfl
  try simp only [Act.put, List.getElem_toArray, List.getElem_cons_succ, List.getElem_cons_zero, List.setIfInBounds_toArray, List.set_cons_zero, List.set_cons_succ]
  refine wpAnyH_take (i := 8) (v := ?_) rfl (by kernel_rfl) (by kernel_rfl) (by kernel_rfl) (fun _ _ _ h => h) (Or.inl ⟨by rfl, ?_⟩) hS ?_
  rotate_left
  · intro w hw
    obtain ⟨f0, f1, f2, f3⟩ := (HL.out.same (fun k hk => hw.out.block k (HL.out.lt k hk)) hw.out.size).facts
    go_simp
    try with_reducible rfl
  try simp only [Act.put, List.getElem_toArray, List.getElem_cons_succ, List.getElem_cons_zero, List.setIfInBounds_toArray, List.set_cons_zero, List.set_cons_succ]
  have HL0 : Hid (BL w.drew g S bu mo fs ac A c) := Lib.hid (HL.out.same (fun _ _ => rfl) (Nat.le_refl _))
  have HB0 : Hid (Below w.heap.size w w.drew) := Lib.hid (Below.refl _ _).drew
  generalize w.drew = w0 at hS HL0 HB0 ⊢
  have HL1 : Hid (Lies w0 w0.heap.size A (fs.map vi)) := Lib.hid (HL0.out.lies.lies (fun k hk => HL0.out.lt k hk.1))
  have HN : Hid (A = none → fs.length = 0 ∧ c = 0) := Lib.hid (fun e => by have := HL0.out.nil e; have := HL0.out.hc; omega)
  have hba : Below w0.heap.size w0 (w0.alloc (.cells #[.int .i64 (ac : Int)] 3)) := Joins.below_alloc1 w0 _
  have HBA := Lib.hid hba
  clear hba
  refine wpAnyH_ready (rs := [4, 9]) (by kernel_rfl) (by simp) ?_
  refine (AllReadyH.cons rfl (fun K hK => ?_) (AllReadyH.cons rfl (fun K hK => ?_) AllReadyH.nil))
  · skip
    go_simp
    refine (iclone_at A c fs w0 HL1.out (by omega) HN.out).mono ?_
    rintro e W1 ⟨v1, rfl, hown1, hb1⟩
    refine hK.out _ _ (Lib.hid (HB0.out.trans (hb1.mono HB0.out.size))) (fun hS => ?_)
    clear hK K
    try simp only [Act.put, List.getElem_toArray, List.getElem_cons_succ, List.getElem_cons_zero, List.setIfInBounds_toArray, List.set_cons_zero, List.set_cons_succ]
    refine wpAnyH_ready (rs := [9]) (by kernel_rfl) (by simp) ?_
    refine (AllReadyH.cons rfl (fun K hK => ?_) AllReadyH.nil)
    go_simp
    refine hK.out _ _ (Lib.hid (HB0.out.trans ((hb1.trans ((Joins.below_alloc1 W1 _).mono hb1.size)).mono HB0.out.size))) (fun hS => ?_)
    clear hK K
    try simp only [Act.put, List.getElem_toArray, List.getElem_cons_succ, List.getElem_cons_zero, List.setIfInBounds_toArray, List.set_cons_zero, List.set_cons_succ]
    obtain ⟨v6, W6, hr6, hown6, hb6, hs6⟩ := run_append_one (P := Try.prog) (w := W1) (u := .int .i64 (ac : Int)) 23 23 3 (.int .i64 0) 8 Try.underlying23 (by kernel_rfl) rfl rfl hown1 (by unfold maxLen; omega) (by omega) hb1.size
    refine wpAnyH_ready (rs := [10]) (by kernel_rfl) (by simp) ?_
    refine (AllReadyH.cons rfl (fun K hK => ?_) AllReadyH.nil)
    refine held_append rfl _ _ 23 rfl rfl rfl hr6 ?_
    refine hK.out _ _ (Lib.hid (HB0.out.trans ((hb1.trans hb6).mono HB0.out.size))) (fun hS => ?_)
    have HF := Lib.hid (HB0.out.trans ((hb1.trans hb6).mono HB0.out.size))
    have HO := Lib.hid hown6
    clear hr6 hown6 hK K hb6
    try simp only [Act.put, List.getElem_toArray, List.getElem_cons_succ, List.getElem_cons_zero, List.setIfInBounds_toArray, List.set_cons_zero, List.set_cons_succ]
    refine wpAnyH_take (i := 11) (v := ?_) rfl (by kernel_rfl) (by kernel_rfl) (by kernel_rfl) (fun _ _ _ h => h) (Or.inl ⟨by rfl, ?_⟩) hS ?_
    rotate_left
    · intro w hw
      go_simp
      try with_reducible rfl
    try simp only [Act.put, List.getElem_toArray, List.getElem_cons_succ, List.getElem_cons_zero, List.setIfInBounds_toArray, List.set_cons_zero, List.set_cons_succ]
    refine wpAnyH_done (by kernel_rfl) ?_ _
    go_wp2_with fail
    go_ret
    refine ⟨_, rfl, ?_, HF.out⟩
    rw [List.length_append, List.map_append]
    exact own_lower HO.out HB0.out.size
  · skip
    go_simp
    refine hK.out _ _ (Lib.hid (HB0.out.trans (HBA.out.mono HB0.out.size))) (fun hS => ?_)
    clear hK K
    have HC5 := Lib.hid (lies_block (cs := #[.int .i64 (ac : Int)]) (heap_alloc_new w0 (.cells #[.int .i64 (ac : Int)] 3)) (Nat.lt_succ_self _))
    try simp only [Act.put, List.getElem_toArray, List.getElem_cons_succ, List.getElem_cons_zero, List.setIfInBounds_toArray, List.set_cons_zero, List.set_cons_succ]
    refine wpAnyH_ready (rs := [4]) (by kernel_rfl) (by simp) ?_
    refine (AllReadyH.cons rfl (fun K hK => ?_) AllReadyH.nil)
    go_simp
    refine (iclone_at A c fs (w0.alloc (.cells #[.int .i64 (ac : Int)] 3)) ((HL1.out.below HBA.out).up HBA.out.size) (by omega) HN.out).mono ?_
    rintro e W1 ⟨v1, rfl, hown1, hb1⟩
    have hc1 := HC5.out.below (hb1.mono (by simp))
    have hb01 : Below w0.heap.size w0 W1 := HBA.out.trans (hb1.mono HBA.out.size)
    refine hK.out _ _ (Lib.hid (HB0.out.trans (hb01.mono HB0.out.size))) (fun hS => ?_)
    clear hK K
    try simp only [Act.put, List.getElem_toArray, List.getElem_cons_succ, List.getElem_cons_zero, List.setIfInBounds_toArray, List.set_cons_zero, List.set_cons_succ]
    obtain ⟨v6, W6, hr6, hown6, hb6, hs6⟩ := run_append_lies (P := Try.prog) (w := W1) (m := 1) (c := 1) 23 23 3 (.int .i64 0) 1 8 Try.underlying23 (by kernel_rfl) rfl (by decide) (fun u hu => by simp at hu; subst hu; rfl) (own_lower hown1 HBA.out.size) hc1 rfl (by unfold maxLen; omega) (by omega) hb01.size
    refine wpAnyH_ready (rs := [10]) (by kernel_rfl) (by simp) ?_
    refine (AllReadyH.cons rfl (fun K hK => ?_) AllReadyH.nil)
    refine held_append rfl _ _ 23 rfl rfl rfl hr6 ?_
    refine hK.out _ _ (Lib.hid (HB0.out.trans ((hb01.trans hb6).mono HB0.out.size))) (fun hS => ?_)
    have HF := Lib.hid (HB0.out.trans ((hb01.trans hb6).mono HB0.out.size))
    have HO := Lib.hid hown6
    clear hr6 hown6 hK K hb6
    try simp only [Act.put, List.getElem_toArray, List.getElem_cons_succ, List.getElem_cons_zero, List.setIfInBounds_toArray, List.set_cons_zero, List.set_cons_succ]
    refine wpAnyH_take (i := 11) (v := ?_) rfl (by kernel_rfl) (by kernel_rfl) (by kernel_rfl) (fun _ _ _ h => h) (Or.inl ⟨by rfl, ?_⟩) hS ?_
    rotate_left
    · intro w hw
      go_simp
      try with_reducible rfl
    try simp only [Act.put, List.getElem_toArray, List.getElem_cons_succ, List.getElem_cons_zero, List.setIfInBounds_toArray, List.set_cons_zero, List.set_cons_succ]
    refine wpAnyH_done (by kernel_rfl) ?_ _
    go_wp2_with fail
    go_ret
    refine ⟨_, rfl, ?_, HF.out⟩
    rw [List.length_append, List.map_append]
    exact own_lower HO.out HB0.out.size
theorem sum_take {l : List Nat} {i x : Nat} (h : l[i]? = some x) : (l.take (i + 1)).sum = (l.take i).sum + x := by rw [List.take_add_one, h]; simp
theorem sum_bound {l : List Nat} {b : Nat} (h : ∀ x, x ∈ l → x ≤ b) : l.sum ≤ l.length * b := by
  induction l with
  | nil => simp
  | cons x l ih =>
    have h1 := h x (by simp)
    have h2 := ih fun y hy => h y (by simp [hy])
    rw [List.sum_cons, List.length_cons, Nat.succ_mul]
    omega
theorem sum_part {l : List Nat} {b : Nat} (h : ∀ x, x ∈ l → x ≤ b) (i : Nat) (hi : i ≤ l.length) : (l.take i).sum ≤ l.length * b := by
  refine Nat.le_trans (sum_bound (b := b) fun x hx => h x (List.mem_of_mem_take hx)) (Nat.mul_le_mul_right _ ?_)
  rw [List.length_take]; omega
set_option maxHeartbeats 400000 in
theorem bytes_any (h : BU w g S bu mo fs ac) : Calls Try.prog (35) #[.pointer (some ⟨g, 0, none⟩)] w fun e w' => e = .returned (vi (fs ++ [ac]).sum) ∧ w = w' := by
  obtain ⟨A, c, hl⟩ := h
  obtain ⟨-, hb2, -, hm2, hlen, heach, hact⟩ := hl.ok
  obtain ⟨f0, f1, f2, f3⟩ := hl.facts
  have HS : Hid (∀ i, i ≤ fs.length → (fs.take i).sum ≤ 107374182400) := Lib.hid fun i hi => Nat.le_trans (sum_part heach i hi) (Nat.le_trans (Nat.mul_le_mul (show fs.length ≤ 100 by omega) hb2) (by decide))
  have HE := Lib.hid heach
  have HL := Lib.hid hl.lies
  have HT : Hid ((fs ++ [ac]).sum = ac + (fs.take fs.length).sum) := Lib.hid (by rw [List.take_length, List.sum_append]; simp; omega)
  have hc := hl.hc
  have hm := hl.hm
  unfold maxLen at hm
  clear hl heach
  go_enter (Try.func35), (Try.ntmps35)
  go_wp2_with fail
  go_loopw [3, 15] (fun s i wr => ∃ j t : Nat, j ≤ fs.length ∧ s = .int .i64 (t : Int) ∧ i = .int .i64 (j : Int) ∧ Hid (t = ac + (fs.take j).sum) ∧ wr = w) (fun _ i _ => fs.length + 1 - (intOf i).toNat)
  case atStart => exact ⟨0, ac, Nat.zero_le _, rfl, rfl, Lib.hid (by simp), rfl⟩
  case round =>
    obtain ⟨j, t, hj, rfl, rfl, ht, rfl⟩ := hrel
    have hs := HS.out j hj
    have ht2 := ht.out
    have hs2 : t ≤ 108447924224 := by omega
    clear hs ht2
    by_cases hlt : j < fs.length
    · obtain ⟨x, hx⟩ : ∃ x, fs[j]? = some x := ⟨_, List.getElem?_eq_getElem hlt⟩
      obtain ⟨ad, rfl, -, hcell⟩ : ∃ ad, A = some ad ∧ (S ad.block ∧ ad.block ≠ g) ∧ ∀ j u, (fs.map vi)[j]? = some u → wr.cell? (ad.add j) = some u := by
        rcases HL.out with h | h
        · have : fs = [] := by simpa using h
          rw [this] at hlt
          simp at hlt
        · exact h
      have hce : wr.cell? (ad.add j) = some (.int .i64 (x : Int)) := hcell j _ (by rw [List.getElem?_map, hx]; rfl)
      have hxb := HE.out x (List.mem_of_getElem? hx)
      have HX := Lib.hid hx
      clear hx hcell
      go_wp2_with fail
      go_roundw
      case rel => exact ⟨j + 1, t + x, by omega, by go_num, by go_num, Lib.hid (by rw [sum_take HX.out, ht.out]; omega), trivial⟩
      case measure => simp [intOf]; omega
    · obtain rfl : j = fs.length := by omega
      go_wp2_with fail
      go_ret
      exact ⟨by rw [HT.out, ← ht.out]; rfl, rfl⟩
end
end Go.Proofs.Ytmnhklfljfglhaa.Bu
