/- What next of package frame answers. -/
import Derived.Test.YtkmelhgpngochaaDoorFskip
import Derived.Test.YtkmelhgpngochaaDoorFfrag
namespace Go.Proofs.YtkmelhgpngochaaDoor.Fr
set_option linter.unusedVariables false
set_option linter.unusedSimpArgs false
open Go.RowKit Lift Ik
theorem Rr.drewn {w : World} {g c a cs : Nat} {A As : Option Addr} {b : List Nat} (h : Rr w g A c b a As cs) (m : Nat) : Rr (w.drewN m) g A c b a As cs :=
  h.below (Joins.below_draws w.heap.size w m) h.box.lt
/-- What next tells: the log's end, or a piece. -/
def Nx (w : World) (g : Nat) (A : Option Addr) (c : Nat) (b : List Nat) (a : Nat) (As : Option Addr) (cs : Nat) (e : Ending) (w' : World) : Prop :=
  Keep (· = g) w w' ∧ ((∃ cl a', nxt b a = .stop cl ∧ cl ≤ 2 ∧ e = .returned (.tuple #[.int .u8 0, .slice none 0 0, .int .i64 (cl : Int)]) ∧ Rr w' g A c b a' As cs) ∨
    (∃ k d a' ad cd, nxt b a = .frag k d a' ∧ e = .returned (.tuple #[.int .u8 (k : Int), .slice (some ad) d.length cd, .int .i64 0]) ∧ Lies w' g (some ad) (d.map vb) ∧ d.length ≤ cd ∧ cd ≤ maxLen ∧ (∀ x, x ∈ d → x < 256) ∧ Rr w' g A c b a' As cs))
theorem frg_stop {b : List Nat} {a : Nat} {r : List Nat} (hr : r = b.drop a) (ha : a ≤ b.length) :
    (r.length = 0 → frg b a = .stop 0) ∧ (0 < r.length → r.length < 7 → frg b a = .stop 1) ∧ (7 ≤ r.length → left a < 7 + num2 r → frg b a = .stop 2) ∧ (7 ≤ r.length → 7 + num2 r ≤ left a → r.length < 7 + num2 r → frg b a = .stop 1) ∧
    (7 ≤ r.length → 7 + num2 r ≤ left a → 7 + num2 r ≤ r.length → ¬ good r → frg b a = .stop 2) ∧ (7 ≤ r.length → 7 + num2 r ≤ left a → 7 + num2 r ≤ r.length → good r → frg b a = .frag (kindOf r) (dataOf r) (a + (7 + num2 r))) := by
  subst hr
  rw [List.length_drop]
  unfold frg
  refine ⟨fun h => ?_, fun h h1 => ?_, fun h h1 => ?_, fun h h1 h2 => ?_, fun h h1 h2 h3 => ?_, fun h h1 h2 h3 => ?_⟩
  · rw [if_pos (by omega)]
  · rw [if_neg (by omega), if_pos (by omega)]
  · rw [if_neg (by omega), if_neg (by omega), if_pos (by omega)]
  · rw [if_neg (by omega), if_neg (by omega), if_neg (by omega), if_pos (by omega)]
  · rw [if_neg (by omega), if_neg (by omega), if_neg (by omega), if_neg (by omega), if_neg h3]
  · rw [if_neg (by omega), if_neg (by omega), if_neg (by omega), if_neg (by omega), if_pos h3]
theorem split6 {r : List Nat} (h : 7 + num2 r ≤ r.length) : (r.drop 6).take (1 + num2 r) = kindOf r :: dataOf r ∧ (dataOf r).length = num2 r ∧ r[6]? = some (kindOf r) := by
  obtain ⟨k, hk⟩ : ∃ k, r[6]? = some k := ⟨_, List.getElem?_eq_getElem (by omega)⟩
  have e : kindOf r = k := by unfold kindOf; rw [hk]; rfl
  refine ⟨?_, ?_, by rw [e]; exact hk⟩
  · rw [drop_cons hk, Nat.add_comm 1, List.take_succ_cons, e]
    rfl
  · unfold dataOf
    rw [List.length_take, List.length_drop]
    omega
set_option maxRecDepth 100000 in
set_option maxHeartbeats 3200000 in
theorem next_any (g c a cs : Nat) (A As : Option Addr) (b : List Nat) (w : World) (h : Rr w g A c b a As cs) :
    Calls Tryd.prog (21) #[.pointer (some ⟨g, 0, none⟩)] w (Nx w g A c b a As cs) := by
  have HSK := Lib.hid (skip_any g c a cs A As b w h)
  clear h
  go_enter (Tryd.func21), (Tryd.ntmps21)
  go_wp2_with fail
  refine HSK.out.mono ?_; rintro e W1 ⟨rfl, hk1, hr1⟩
  have HK1 := Lib.hid hk1
  have HR1 := Lib.hid hr1
  clear hk1 hr1 HSK
  by_cases hcl : clean b a
  · have HX : Hid (nxt b a = frg b (skip b a)) := Lib.hid (by unfold nxt; rw [if_pos hcl])
    rw [decide_eq_true hcl]
    clear hcl
    generalize skip b a = a1 at *
    have hpl := HR1.out.place
    have hsm := HR1.out.small
    have hcap := HR1.out.cap
    have hlen := HR1.out.len
    obtain ⟨p0, p1, p2, f0, f1, f2⟩ := HR1.out.box.facts3
    obtain ⟨A1, hA1, hsome, hcut⟩ := cut_from A b.length c a1 (by omega) hlen hcap
    obtain ⟨r, hr⟩ : ∃ r, r = b.drop a1 := ⟨_, rfl⟩
    have hrl : b.length - a1 = r.length := by rw [hr, List.length_drop]
    rw [hrl] at hcut
    obtain ⟨F0, F1, F2, F3, F4, F5⟩ := frg_stop hr hpl
    have G0 := Lib.hid F0
    have G1 := Lib.hid F1
    have G2 := Lib.hid F2
    have G3 := Lib.hid F3
    have G4 := Lib.hid F4
    have G5 := Lib.hid F5
    have HLr : Hid (∀ m, Lies (W1.drewN m) g A1 (r.map vb)) := Lib.hid fun m => (HR1.out.drewn m).log.cut (p := a1) (fun h0 => hA1 (by omega)) (by rw [hr]; exact List.prefix_refl _)
    have H8r : Hid (∀ x, x ∈ r → x < 256) := Lib.hid (by rw [hr]; exact fun x hx => HR1.out.byte x (List.mem_of_mem_drop hx))
    have hrc : r.length ≤ c - a1 := by omega
    have hcm : c - a1 ≤ maxLen := by unfold maxLen at hcap ⊢; omega
    have HRI := Lib.hid hr
    have hrs : r.length ≤ 1000000 := by omega
    clear F0 F1 F2 F3 F4 F5 hr hrl hA1
    go_wp2_with fail
    go_quiet (fail)
    have HK2 := Lib.hid (HK1.out.trans (below_keep (S := (· = g)) (Joins.below_draws _ W1 nq)) fun _ _ h => h)
    have HR2 := Lib.hid (HR1.out.drewn nq)
    have HLr2 := Lib.hid (HLr.out nq)
    clear HK1 HR1 HLr p0 p1 p2 f0 f1 f2
    generalize W1.drewN nq = W2 at *
    obtain ⟨p0, p1, p2, f0, f1, f2⟩ := HR2.out.box.facts3
    have HLr : Hid (∀ m, Lies (W2.drewN m) g A1 (r.map vb)) := Lib.hid fun m => HLr2.out.later fun p hp => (Joins.below_draws W2.heap.size W2 m).cell (Nat.lt_trans hp HR2.out.box.lt)
    by_cases h0 : r.length = 0
    · have E := Lib.hid (HX.out.trans (G0.out h0))
      clear hcut
      go_wp2_with fail
      go_returns
      exact ⟨HK2.out, .inl ⟨0, a1, E.out, by decide, rfl, HR2.out⟩⟩
    · by_cases h7 : r.length < 7
      · have E := Lib.hid (HX.out.trans (G1.out (by omega) h7))
        clear hcut
        go_wp2_with fail
        go_returns
        exact ⟨HK2.out, .inl ⟨1, a1, E.out, by decide, rfl, HR2.out⟩⟩
      · obtain ⟨ad1, rfl, hb1, hcell⟩ := HLr2.out.place (by rw [List.length_map]; omega)
        obtain ⟨A2, hA2, _, hmid⟩ := cut_mid (some ad1) r.length (c - a1) 4 2 (by omega) hrc hcm
        have hc46 : ∀ W : World, Sem.run Tryd.prog (Instr.slice 22 (.slice (some ad1) r.length (c - a1)) (some (.int .i64 4)) (some (.int .i64 6)) none) W = .ok (.slice A2 2 (c - a1 - 4)) W := fun W => hmid W 6 (by decide)
        have l2 : ((r.drop 4).take 2).length = 2 := by rw [List.length_take, List.length_drop]; omega
        have HN : Hid (Calls Tryd.prog 32 #[.slice A2 2 (c - a1 - 4)] W2 fun e w' => e = .returned (.int .u32 (num2 r : Nat)) ∧ W2 = w') := Lib.hid <| by
          have hh := number_any A2 (c - a1 - 4) g ((r.drop 4).take 2) W2 (HLr2.out.cut (p := 4) (fun h0 => hA2 (by omega)) (List.take_prefix _ _)) (by omega) (by rw [l2]; omega) (by unfold maxLen at hcm ⊢; omega) (byte_front H8r.out fun x hx => List.mem_of_mem_drop (List.mem_of_mem_take hx))
          rw [l2] at hh
          exact hh
        have hn2 : num2 r < 65536 := by
          have := num_lt ((r.drop 4).take 2) (byte_front H8r.out fun x hx => List.mem_of_mem_drop (List.mem_of_mem_take hx))
          rw [l2] at this
          exact this
        have HRM := Lib.hid (room_any a1 W2 (by omega))
        have HSP := Lib.hid (split6 (r := r))
        have hlp := left_pos a1
        have HGD : Hid (good r ↔ num (r.take 4) = sumB (kindOf r) (dataOf r) ∧ 1 ≤ kindOf r ∧ kindOf r ≤ 4) := Lib.hid (by unfold good; exact Iff.rfl)
        have HD8 : Hid (∀ x, x ∈ dataOf r → x < 256) := Lib.hid (byte_front H8r.out fun x hx => List.mem_of_mem_drop (List.mem_of_mem_take hx))
        have HDT : Hid (dataOf r = (r.drop 7).take (num2 r)) := Lib.hid rfl
        clear hmid l2 hA2
        generalize num2 r = n at *
        generalize left a1 = L at *
        go_wp2_with fail
        refine HN.out.mono ?_; rintro e w' ⟨rfl, rfl⟩
        go_wp2_with fail
        refine HRM.out.mono ?_; rintro e w' ⟨rfl, rfl⟩
        by_cases hL : L < 7 + n
        · have E := Lib.hid (HX.out.trans (G2.out (by omega) hL))
          have d1 : decide ((L : Int) < 7 + (n : Int)) = true := by simp; omega
          clear hcut hc46
          go_wp2_with fail
          go_returns
          exact ⟨HK2.out, .inl ⟨2, a1, E.out, by decide, rfl, HR2.out⟩⟩
        · have d1 : decide ((L : Int) < 7 + (n : Int)) = false := by simp; omega
          by_cases hR : r.length < 7 + n
          · have E := Lib.hid (HX.out.trans (G3.out (by omega) (by omega) hR))
            have d2 : decide ((r.length : Int) < 7 + (n : Int)) = true := by simp; omega
            clear hcut hc46
            go_wp2_with fail
            go_returns
            exact ⟨HK2.out, .inl ⟨1, a1, E.out, by decide, rfl, HR2.out⟩⟩
          · have d2 : decide ((r.length : Int) < 7 + (n : Int)) = false := by simp; omega
            obtain ⟨s1, s2, s3⟩ := HSP.out (by omega)
            have hcf := cut_to (some ad1) r.length (c - a1) (7 + n) (by omega) hrc hcm
            rw [show ((7 + n : Nat) : Int) = 7 + (n : Int) by omega] at hcf
            have hc4 : ∀ W : World, Sem.run Tryd.prog (Instr.slice 22 (.slice (some ad1) (7 + n) (c - a1)) none (some (.int .i64 4)) none) W = .ok (.slice (some ad1) 4 (c - a1)) W := cut_to (some ad1) (7 + n) (c - a1) 4 (by omega) (by omega) hcm
            obtain ⟨A6, hA6, hs6, hc6a⟩ := cut_from (some ad1) (7 + n) (c - a1) 6 (by omega) (by omega) hcm
            obtain ⟨A7, hA7, hs7, hc7a⟩ := cut_from (some ad1) (7 + n) (c - a1) 7 (by omega) (by omega) hcm
            obtain ⟨k6, hk6⟩ : ∃ k6, k6 = 7 + n - 6 := ⟨_, rfl⟩
            have e7 : 7 + n - 7 = n := by omega
            rw [← hk6] at hc6a hA6
            rw [e7] at hc7a hA7
            have hc6 : ∀ W : World, Sem.run Tryd.prog (Instr.slice 22 (.slice (some ad1) (7 + n) (c - a1)) (some (.int .i64 6)) none none) W = .ok (.slice A6 k6 (c - a1 - 6)) W := hc6a
            have hc7 : ∀ W : World, Sem.run Tryd.prog (Instr.slice 22 (.slice (some ad1) (7 + n) (c - a1)) (some (.int .i64 7)) none none) W = .ok (.slice A7 n (c - a1 - 7)) W := hc7a
            have l4 : (r.take 4).length = 4 := by rw [List.length_take]; omega
            have k8 : kindOf r < 256 := H8r.out _ (List.mem_of_getElem? s3)
            have l6 : (kindOf r :: dataOf r).length = k6 := by rw [List.length_cons, s2]; omega
            have HN4 : Hid (∀ m, Calls Tryd.prog 32 #[.slice (some ad1) 4 (c - a1)] (W2.drewN m) fun e w' => e = .returned (.int .u32 (num (r.take 4) : Nat)) ∧ W2.drewN m = w') := Lib.hid fun m => by
              have hh := number_any (some ad1) (c - a1) g (r.take 4) (W2.drewN m) ((HLr.out m).front (by rw [List.map_take]; exact List.take_prefix _ _)) (by omega) (by rw [l4]; omega) hcm (byte_front H8r.out fun x hx => List.mem_of_mem_take hx)
              rw [l4] at hh
              exact hh
            have HS6 : Hid (∀ m, Calls Tryd.prog 28 #[.slice As 256 cs, .slice A6 k6 (c - a1 - 6)] (W2.drewN m) fun e w' => e = .returned (.int .u32 (Crc.crc Crc.ent (kindOf r :: dataOf r) : Nat)) ∧ W2.drewN m = w') := Lib.hid fun m => by
              have hh := sum_by_tab As A6 cs (c - a1 - 6) g (kindOf r :: dataOf r) (W2.drewN m) HR2.out.cap2 ((HR2.out.drewn m).sums.up (Nat.le_of_lt (HR2.out.drewn m).box.lt)) ((HLr.out m).cut (p := 6) (fun h0 => hA6 (by omega)) (by rw [← s1]; exact List.take_prefix _ _)) (by omega) (by unfold maxLen; omega) (fun x hx => by rcases List.mem_cons.1 hx with rfl | hx; exact k8; exact HD8.out x hx)
              rw [l6] at hh
              exact hh
            have h32 : Crc.crc Crc.ent (kindOf r :: dataOf r) ≤ 4294967295 := by unfold Crc.crc; omega
            have HM6 : Hid (∀ m, Calls Tryd.prog 27 #[.int .u32 (Crc.crc Crc.ent (kindOf r :: dataOf r) : Nat)] (W2.drewN m) fun e w' => e = .returned (.int .u32 (sumB (kindOf r) (dataOf r) : Nat)) ∧ W2.drewN m = w') := Lib.hid fun m => Crc.mask_any _ (W2.drewN m) h32
            have hsb := sumB_lt (kindOf r) (dataOf r)
            have h6 : W2.cell? ⟨ad1.block, ad1.off + 6, none⟩ = some (vb (kindOf r)) := by
              have := hcell 6 (vb (kindOf r)) (by rw [List.getElem?_map, s3]; rfl)
              rw [show ad1.add 6 = ⟨ad1.block, ad1.off + 6, none⟩ by simp [Addr.add]] at this
              exact this
            have HLD : Hid (∀ m, Lies (W2.drewN m) g A7 ((dataOf r).map vb)) := Lib.hid fun m => (HLr.out m).cut (p := 7) (fun h0 => hA7 (by omega)) (by rw [HDT.out]; exact List.take_prefix _ _)
            have HLN : Hid ((dataOf r).length = n) := Lib.hid s2
            have hn4 : num (r.take 4) < 4294967296 := by
              have := num_lt (r.take 4) (byte_front H8r.out fun x hx => List.mem_of_mem_take hx)
              rw [l4] at this
              exact this
            obtain ⟨ad7, rfl⟩ : ∃ ad7, A7 = some ad7 := Option.isSome_iff_exists.1 (by rw [hs7]; rfl)
            clear hc6a hc7a hcut hc46 s1 s2 s3 l4 l6 hcell hk6 e7 hs6 hs7 hA6 hA7
            generalize Crc.crc Crc.ent (kindOf r :: dataOf r) = C at *
            generalize sumB (kindOf r) (dataOf r) = SB at *
            generalize num (r.take 4) = N4 at *
            generalize kindOf r = k at *
            generalize dataOf r = d at *
            go_wp2_with fail
            go_quiet (first | (go_at_call 32; refine Calls.quiet_of_same ((HN4.out _).mono fun e w' hh => ⟨hh.1, hh.2.symm⟩)) | (go_at_call 28; refine Calls.quiet_of_same ((HS6.out _).mono fun e w' hh => ⟨hh.1, hh.2.symm⟩)) | (go_at_call 27; refine Calls.quiet_of_same ((HM6.out _).mono fun e w' hh => ⟨hh.1, hh.2.symm⟩)))
            have HK3 := Lib.hid (HK2.out.trans (below_keep (S := (· = g)) (Joins.below_draws _ W2 nq)) fun _ _ h => h)
            have HR3 := Lib.hid (HR2.out.drewn nq)
            have HL3 := Lib.hid (HLD.out nq)
            have h63 : (W2.drewN nq).cell? ⟨ad1.block, ad1.off + 6, none⟩ = some (vb k) := (Below.cell (p := ⟨ad1.block, ad1.off + 6, none⟩) (Joins.below_draws W2.heap.size W2 nq) (Nat.lt_trans hb1 HR2.out.box.lt)).trans h6
            clear HK2 HR2 HLD HLr HLr2 p0 p1 p2 f0 f1 f2 h6 HN HRM HN4 HS6 HM6
            generalize W2.drewN nq = W3 at *
            obtain ⟨p0, p1, p2, f0, f1, f2⟩ := HR3.out.box.facts3
            by_cases hs : N4 = SB
            · have d3 : ((N4 : Int) != (SB : Int)) = false := by rw [bne_eq_false_iff_eq]; omega
              have HS := Lib.hid hs
              clear hs
              by_cases hk1 : k < 1
              · have E := Lib.hid (HX.out.trans (G4.out (by omega) (by omega) (by omega) fun hg => by have := HGD.out.1 hg; omega))
                have d4 : decide ((k : Int) < 1) = true := by simp; omega
                go_wp2_with fail
                go_returns
                exact ⟨HK3.out, .inl ⟨2, a1, E.out, by decide, rfl, HR3.out⟩⟩
              · have d4 : decide ((k : Int) < 1) = false := by simp; omega
                by_cases hk4 : 4 < k
                · have E := Lib.hid (HX.out.trans (G4.out (by omega) (by omega) (by omega) fun hg => by have := HGD.out.1 hg; omega))
                  have d5 : decide (4 < (k : Int)) = true := by simp; omega
                  go_wp2_with fail
                  go_returns
                  exact ⟨HK3.out, .inl ⟨2, a1, E.out, by decide, rfl, HR3.out⟩⟩
                · have d5 : decide (4 < (k : Int)) = false := by simp; omega
                  have E := Lib.hid (HX.out.trans (G5.out (by omega) (by omega) (by omega) (HGD.out.2 ⟨HS.out, by omega, by omega⟩)))
                  have hpn : a1 + (7 + n) ≤ b.length := by have := congrArg List.length HRI.out; rw [List.length_drop] at this; omega
                  have hk1' : Keep (· = g) w (W3.setCell ⟨g, 1, none⟩ (.int .i64 ((a1 : Int) + (7 + (n : Int))))) := Keep.setCell (S := (· = g)) (p := ⟨g, 1, none⟩) HK3.out (.inr rfl) _
                  have hk2' : Keep (· = g) W3 (W3.setCell ⟨g, 1, none⟩ (.int .i64 ((a1 : Int) + (7 + (n : Int))))) := Keep.setCell (S := (· = g)) (p := ⟨g, 1, none⟩) (Keep.refl _ _) (.inr rfl) _
                  have hb4 := HR3.out.box.set 1 (.int .i64 ((a1 : Int) + (7 + (n : Int))))
                  have HR4 : Hid (Rr (W3.setCell ⟨g, 1, none⟩ (.int .i64 ((a1 : Int) + (7 + (n : Int))))) g A c b (a1 + (7 + n)) As cs) := Lib.hid (HR3.out.moved hk2' hb4 hpn)
                  have HK4 := Lib.hid hk1'
                  have HL4 := Lib.hid (HL3.out.later (w' := W3.setCell ⟨g, 1, none⟩ (.int .i64 ((a1 : Int) + (7 + (n : Int))))) fun p hp => World.cell?_of_block (hk2'.block _ (Nat.lt_trans hp HR3.out.box.lt) (by omega)))
                  have hln : n ≤ c - a1 - 7 := by omega
                  clear hk1' hk2' hb4
                  go_wp2_with fail
                  clear hcf hc4 hc6
                  go_quiet (fail)
                  go_wp2_with fail
                  go_returns
                  have hd := HLN.out
                  subst hd
                  exact ⟨HK4.out.trans (below_keep (S := (· = g)) (Joins.below_draws _ _ _)) fun _ _ h => h, .inr ⟨k, d, a1 + (7 + d.length), ad7, c - a1 - 7, E.out, rfl, HL4.out.below (Joins.below_draws _ _ _), hln, by unfold maxLen at hcm ⊢; omega, HD8.out, HR4.out.drewn _⟩⟩
            · have d3 : ((N4 : Int) != (SB : Int)) = true := by rw [bne_iff_ne]; omega
              have E := Lib.hid (HX.out.trans (G4.out (by omega) (by omega) (by omega) fun hg => hs (HGD.out.1 hg).1))
              clear hs
              go_wp2_with fail
              go_returns
              exact ⟨HK3.out, .inl ⟨2, a1, E.out, by decide, rfl, HR3.out⟩⟩
  · have E : Hid (nxt b a = .stop 2) := Lib.hid (by unfold nxt; rw [if_neg hcl])
    rw [decide_eq_false hcl]
    clear hcl
    go_wp2_with fail
    go_returns
    exact ⟨HK1.out, .inl ⟨2, _, E.out, by decide, rfl, HR1.out⟩⟩
end Go.Proofs.YtkmelhgpngochaaDoor.Fr
