/- Package block: what open, All and Restarts answer to any bytes. -/
import Derived.Test.YtaopbgildkjpcaaOre
import Derived.Test.YtaopbgildkjpcaaOrr
import Derived.Test.YtaopbgildkjpcaaOint
namespace Go.Proofs.Ytaopbgildkjpcaa.Bk
set_option linter.unusedVariables false
set_option linter.unusedSimpArgs false
open Go.RowKit Lift Ik Sk Vn
open Vt (res)
theorem sum_iff {bs : List Nat} (h4 : 4 ≤ bs.length) (h8 : ∀ x, x ∈ bs → x < 256) : num (bs.drop (bs.length - 4)) = Crc.maskN (Crc.crc Crc.ent (bs.take (bs.length - 4))) ↔ bs.drop (bs.length - 4) = sum4 (bs.take (bs.length - 4)) := by
  have hl : (bs.drop (bs.length - 4)).length = 4 := by rw [List.length_drop]; omega
  have h1 := low_num (bs.drop (bs.length - 4)) fun c hc => h8 c (List.mem_of_mem_drop hc)
  have hm := Crc.maskN_lt (Crc.crc Crc.ent (bs.take (bs.length - 4)))
  rw [hl] at h1
  unfold sum4
  constructor
  · intro h
    rw [← h1, h]
  · intro h
    rw [h, num_low _ _ (by omega)]
theorem bare_byte {every : Nat} {L : List D} (h : ∀ d, d ∈ L → okT d.t = true ∧ d.k.ok ∧ ∀ c, c ∈ d.val → c < 256) : ∀ x, x ∈ bare every (L.map D.t) → x < 256 := by
  intro x hx
  unfold bare foot at hx
  rcases List.mem_append.1 hx with h1 | h1
  · refine body_byte every (L.map D.t) 0 [] (fun t ht => ?_) x h1
    obtain ⟨d, hd, rfl⟩ := List.mem_map.1 ht
    exact h d hd
  · rcases List.mem_append.1 h1 with h2 | h2
    · exact flat4_byte _ x h2
    · exact low_byte _ _ x h2
theorem raw_no {bs : List Nat} (h8 : ¬ bs.length < 8) (hsum : bs.drop (bs.length - 4) = sum4 (bs.take (bs.length - 4))) (h : raw bs = none ∨ ∃ ts, raw bs = some ts ∧ may ts ≠ 0) : allB bs = ([], 2) := by
  refine allB_bad h8 hsum fun ⟨us, hu⟩ => ?_
  have h1 := (isB_raw hu).2.2.2
  rcases h with h | ⟨ts, h, hm⟩
  · rw [h] at h1; cases h1
  · rw [h] at h1
    injection h1 with h1
    subst h1
    exact hm hu.1
theorem may_big {ts : List T} (h : 10000 < ts.length) : may ts ≠ 0 := fun h0 => by have := (may_zero h0).2.2; omega
theorem step_adv {bs last : List Nat} {p q : Nat} {t : T} {kb : List Nat} (hs : step bs p last = some (t, kb, q)) : p < q := by
  by_cases h1 : (res bs (p : Nat)).2.2 ≠ 0 ∨ last.length < (res bs (p : Nat)).1
  · rw [step_a h1] at hs; cases hs
  · obtain ⟨⟨c, a, e⟩, hr1⟩ : ∃ r, r = res bs (p : Nat) := ⟨_, rfl⟩
    rw [← hr1] at h1
    simp only [not_or, Nat.not_lt, ne_eq, Decidable.not_not] at h1
    obtain ⟨rfl, h1⟩ := h1
    by_cases h2 : (res bs (a : Nat)).2.2 ≠ 0
    · rw [step_b hr1.symm (by omega) h2] at hs; cases hs
    · obtain ⟨⟨n, d, e⟩, hr2⟩ : ∃ r, r = res bs (a : Nat) := ⟨_, rfl⟩
      rw [← hr2] at h2
      simp only [ne_eq, Decidable.not_not] at h2
      subst h2
      by_cases h3 : (res bs (d : Nat)).2.2 ≠ 0 ∨ bs.length - (res bs (d : Nat)).2.1 < n ∨ bs.length - (res bs (d : Nat)).2.1 - n < (res bs (d : Nat)).1
      · rw [step_c hr1.symm (by omega) hr2.symm h3] at hs; cases hs
      · obtain ⟨⟨v, q', e⟩, hr3⟩ : ∃ r, r = res bs (d : Nat) := ⟨_, rfl⟩
        rw [← hr3] at h3
        simp only [not_or, Nat.not_lt, ne_eq, Decidable.not_not] at h3
        obtain ⟨rfl, h3, h4⟩ := h3
        have g1 := res_ok hr1.symm
        have g2 := res_ok hr2.symm
        have g3 := res_ok hr3.symm
        rw [step_d hr1.symm (by omega) hr2.symm hr3.symm (by omega) (by omega)] at hs
        split at hs
        · cases hs
        · injection hs with hs
          injection hs with _ hs
          injection hs with hk hq
          omega
theorem spots_rise {bs : List Nat} : ∀ (f p : Nat) (last : List Nat), (spots bs f p last).Pairwise (· < ·) ∧ ∀ e, e ∈ spots bs f p last → p ≤ e := by
  intro f
  induction f with
  | zero => intro p last; simp [spots]
  | succ f ih =>
    intro p last
    by_cases h : bs.length ≤ p
    · rw [spots_end h]; simp
    · cases hs : step bs p last with
      | none =>
        have e : spots bs (f + 1) p last = [] := by unfold spots; rw [if_neg h, hs]
        rw [e]; simp
      | some r =>
        obtain ⟨t, kb, q⟩ := r
        rw [spots_one (by omega) hs]
        have h1 := step_adv hs
        obtain ⟨h2, h3⟩ := ih q kb
        refine ⟨List.pairwise_cons.2 ⟨fun e he => by have := h3 e he; omega, h2⟩, fun e he => ?_⟩
        rcases List.mem_cons.1 he with rfl | he
        · exact Nat.le_refl _
        · have := h3 e he; omega
/-- What open answers. -/
def Opn (w : World) (bs : List Nat) (e : Ending) (w' : World) : Prop :=
  Below w.heap.size w w' ∧ (((allB bs).1 = [] ∧ (allB bs).2 ≠ 0 ∧ e = .returned (.tuple #[.slice none 0 0, .slice none 0 0, .int .i64 ((allB bs).2 : Nat)])) ∨
    ((allB bs).2 = 0 ∧ ∃ (A A7 : Option Addr) (c : Nat) (L : List D), IsB bs (L.map D.t) ∧ (allB bs).1 = L.map D.t ∧ e = .returned (.tuple #[.slice A L.length c, .slice A7 (rest bs).length (rest bs).length, .int .i64 0]) ∧
      Ents w' (fun k => w.heap.size ≤ k ∧ k < w'.heap.size) A c L ∧ w'.ownsRow w.heap.size 3 1 (.slice A7 (rest bs).length (rest bs).length) (rest bs).length ((rest bs).map vn)))
theorem opn_bad {w w' : World} {bs : List Nat} {n : Nat} (h : allB bs = ([], n)) (hn : n ≠ 0) (hb : Below w.heap.size w w') : Opn w bs (.returned (.tuple #[.slice none 0 0, .slice none 0 0, .int .i64 (n : Int)])) w' := ⟨hb, .inl (by rw [h]; exact ⟨rfl, hn, rfl⟩)⟩
set_option maxRecDepth 1000000 in
set_option maxHeartbeats 3200000 in
theorem oopen_any (A : Option Addr) (c : Nat) (bs : List Nat) (w : World) (hl : Lies w w.heap.size A (bs.map vb)) (hc : bs.length ≤ c) (hm : c ≤ maxLen) (hs : bs.length ≤ 50000000) (h8 : ∀ x, x ∈ bs → x < 256) :
    Calls Try.prog 31 #[.slice A bs.length c] w (Opn w bs) := by
  have HL := Lib.hid hl
  have H8 := Lib.hid h8
  have HM := Lib.hid hm
  have hcs := hm
  unfold maxLen at hcs
  by_cases h8l : bs.length < 8
  · have HE := Lib.hid (allB_short h8l)
    have d1 : (bs.length : Int) < 8 := by omega
    clear hl h8
    go_enter Try.func31, Try.ntmps31
    go_wp2_with fail
    go_returns
    exact opn_bad HE.out (by decide) (Below.refl _ _)
  · have d1 : decide ((bs.length : Int) < 8) = false := decide_eq_false (by omega)
    obtain ⟨m, hmm⟩ : ∃ m, bs.length = m + 8 := ⟨bs.length - 8, by omega⟩
    have H8L := Lib.hid h8l
    have e4 : bs.length - 4 = m + 4 := by omega
    have HE4 := Lib.hid e4
    have HMM := Lib.hid hmm
    have hc1 := ocut_any A c bs.length 4 w (by omega) hc hm
    unfold Cutt at hc1
    rw [e4] at hc1
    have HC1 := Lib.hid hc1
    clear hc1
    have ht4 : (bs.take (m + 4)).length = m + 4 := by rw [List.length_take]; omega
    have hd4 : (bs.drop (m + 4)).length = 4 := by rw [List.length_drop]; omega
    have HT4 := Lib.hid ht4
    have HD4 := Lib.hid hd4
    clear hl h8 hmm e4 h8l ht4 hd4
    go_enter Try.func31, Try.ntmps31
    go_wp2_with fail
    refine HC1.out.mono ?_
    rintro e w1 ⟨A1, q, hA1, rfl, rfl⟩
    have hb1 := Joins.below_draws w.heap.size w q
    have hcm : c - (m + 4) ≤ maxLen := Nat.le_trans (Nat.sub_le _ _) HM.out
    have HNU : Hid (Calls Try.prog 53 #[.slice A1 4 (c - (m + 4))] (w.drewN q) fun e w' => e = .returned (.int .u32 (num (bs.drop (m + 4)) : Nat)) ∧ w.drewN q = w') := Lib.hid (by
      have h := onumber_any A1 (c - (m + 4)) w.heap.size (bs.drop (m + 4)) (w.drewN q) (Lies.cut (HL.out.below hb1) (fun _ => hA1 (by omega)) (List.prefix_refl _)) (by rw [HD4.out]; omega) (by rw [HD4.out]; have := HMM.out; omega) hcm (fun x hx => H8.out x (List.mem_of_mem_drop hx))
      rw [HD4.out] at h
      exact h)
    have hb1' : Below w.heap.size w (w.drewN q) := hb1
    have HSU : Hid (Calls Try.prog 27 #[.slice A (m + 4) c] (w.drewN q) fun e w' => e = .returned (.int .u32 (Crc.maskN (Crc.crc Crc.ent (bs.take (m + 4))) : Nat)) ∧ Below (w.drewN q).heap.size (w.drewN q) w') := Lib.hid (by
      have h := osum_any A c (bs.take (m + 4)) (w.drewN q) (((HL.out.below hb1).up hb1.size).front (by rw [List.map_take]; exact List.take_prefix _ _)) (by rw [HT4.out]; have := HMM.out; omega) HM.out (fun x hx => H8.out x (List.mem_of_mem_take hx))
      rw [HT4.out] at h
      exact h)
    have hsi := sum_iff (bs := bs) (by have := HMM.out; omega) H8.out
    rw [HE4.out] at hsi
    have HSI := Lib.hid hsi
    have HB1 := Lib.hid hb1
    have HML := Crc.maskN_lt (Crc.crc Crc.ent (bs.take (m + 4)))
    have hnl : num (bs.drop (m + 4)) < 4294967296 := by
      have := num_lt (bs.drop (m + 4)) fun x hx => H8.out x (List.mem_of_mem_drop hx)
      rwa [HD4.out] at this
    clear hsi hb1 hb1' hA1 HC1 hcm
    generalize w.drewN q = W1 at *
    obtain ⟨M, hM⟩ : ∃ M, M = Crc.maskN (Crc.crc Crc.ent (bs.take (m + 4))) := ⟨_, rfl⟩
    obtain ⟨N, hN⟩ : ∃ N, N = num (bs.drop (m + 4)) := ⟨_, rfl⟩
    rw [← hM] at HSU HSI HML
    rw [← hN] at HNU HSI hnl
    clear hM hN
    go_wp2_with fail
    refine HNU.out.mono ?_
    rintro e w' ⟨rfl, rfl⟩
    go_wp2_with fail
    refine HSU.out.mono ?_
    rintro e W2 ⟨rfl, hb2⟩
    have HB2 := Lib.hid (HB1.out.trans (hb2.mono HB1.out.size))
    clear hb2 HSU HNU
    by_cases hsum : N = M
    · have HSUM : Hid (bs.drop (bs.length - 4) = sum4 (bs.take (bs.length - 4))) := Lib.hid (by rw [HE4.out]; exact HSI.out.1 hsum)
      have d3 : ((N : Int) != (M : Int)) = false := by rw [bne_eq_false_iff_eq, hsum]
      subst hsum
      have HRR : Hid (Calls Try.prog 54 #[.slice A (m + 4) c] W2 (Rres W2 bs A c)) := Lib.hid (by
        have h := orest_any A c bs W2 ((HL.out.below HB2.out).up HB2.out.size) (by have := HMM.out; omega) hc HM.out hs H8.out
        rwa [HE4.out] at h)
      go_wp2_with fail
      refine HRR.out.mono ?_
      rintro e W3 ⟨hb3, (⟨hbig, rfl⟩ | ⟨hle, Ar, rfl, hown3⟩)⟩
      · have HB3 := Lib.hid (HB2.out.trans (hb3.mono HB2.out.size))
        have HE : Hid (allB bs = ([], 2)) := Lib.hid (allB_bad H8L.out HSUM.out fun ⟨us, hu⟩ => by have := (isB_raw hu).2.2.1; omega)
        clear hb3 hbig HRR
        go_wp2_with fail
        go_returns
        exact opn_bad HE.out (by decide) HB3.out
      · have HB3 := Lib.hid (HB2.out.trans (hb3.mono HB2.out.size))
        have HO3 := Lib.hid (own_lower hown3 HB2.out.size)
        have hpre : (front bs) <+: bs := List.take_prefix _ _
        have hfl : (front bs).length ≤ bs.length := by unfold front; rw [List.length_take]; omega
        have HRE := Lib.hid (oread_any A c (front bs) W3 (((HL.out.below HB3.out).up HB3.out.size).front (by obtain ⟨t, ht⟩ := hpre; exact ⟨t.map vb, by rw [← List.map_append, ht]⟩)) (by omega) HM.out (by omega) (fun x hx => H8.out x (List.take_subset _ _ hx)))
        clear hb3 hown3 hpre HRR
        go_wp2_with fail
        refine HRE.out.mono ?_
        rintro e W4 ⟨hb4, (⟨hno, rfl⟩ | ⟨A5, A7, c5, c7, L, S, hlo, hsp, h10, hlen, rfl, hents, howns⟩)⟩
        · have HB4 := Lib.hid (HB3.out.trans (hb4.mono HB3.out.size))
          have HE : Hid (allB bs = ([], 2)) := Lib.hid (raw_no H8L.out HSUM.out (by
            rcases hno with h | ⟨ts, h, hb⟩
            · exact .inl h
            · exact .inr ⟨ts, h, may_big hb⟩))
          clear hb4 hno HRE
          go_wp2_with fail
          go_returns
          exact opn_bad HE.out (by decide) HB4.out
        · have HB4 := Lib.hid (HB3.out.trans (hb4.mono HB3.out.size))
          have HO4 := Lib.hid (own_later HO3.out hb4)
          have hents4 : Ents W4 (· < W4.heap.size) A5 c5 L := hents.mono fun k hk => hk.2
          have HEN : Hid (Ents W4 (fun k => w.heap.size ≤ k ∧ k < W4.heap.size) A5 c5 L) := Lib.hid (hents.mono fun k hk => ⟨Nat.le_trans HB3.out.size hk.1, hk.2⟩)
          have HOS := Lib.hid howns
          have HCK := Lib.hid (ocheck_any A5 c5 L W4 hents4 (by omega))
          have HRAW : Hid (raw bs = some (L.map D.t)) := Lib.hid hlo
          have HSP := Lib.hid hsp
          have hlS : S.length ≤ 10000 := by omega
          clear hb4 hents hents4 howns hlo hsp HRE HO3 hlen
          go_wp2_with fail
          refine HCK.out.mono ?_
          rintro e W5 ⟨rfl, hb5⟩
          have HB5 := Lib.hid (HB4.out.trans (hb5.mono HB4.out.size))
          by_cases hmay : may (L.map D.t) = 0
          · obtain ⟨hok, -, -⟩ := may_zero hmay
            have hokL : ∀ d, d ∈ L → okT d.t = true := fun d hd => hok _ (List.mem_map.2 ⟨d, hd, rfl⟩)
            have hents5 : Ents W5 (fun k => w.heap.size ≤ k ∧ k < W5.heap.size) A5 c5 L := HEN.out.later (fun k hk => hb5.block k hk.2) fun k hk => ⟨hk.1, Nat.lt_of_lt_of_le hk.2 hb5.size⟩
            have hlS5 : Lies W5 W5.heap.size A7 (S.map vn) := Lies.of_own (own_later HOS.out hb5)
            have hlR5 : Lies W5 W5.heap.size Ar ((rest bs).map vn) := Lies.of_own (own_later HO4.out hb5)
            have hrl : (rest bs).length ≤ 100000000 := by unfold rest; rw [List.length_map, List.length_range]; omega
            have HIV := Lib.hid (oival_any A7 Ar c7 (rest bs).length S (rest bs) W5 hlS5 hlR5 (by omega) hrl (by rw [HSP.out]; exact (spots_rise _ _ _).1))
            have HLY := Lib.hid (olay_any A5 c5 L ((ival S (rest bs) : Nat) : Int) W5 (hents5.mono fun k hk => hk.2) hokL h10)
            have HEN5 := Lib.hid hents5
            have HO5 := Lib.hid (own_later HO4.out hb5)
            have HIFF := Lib.hid (isB_iff (by omega) (by have := HMM.out; omega) HSUM.out HRAW.out hmay)
            rw [← HSP.out, HE4.out] at HIFF
            have HB8 := Lib.hid (bare_byte (every := clamp ((ival S (rest bs) : Nat) : Int)) (L := L) fun d hd => ⟨hokL d hd, (hents5.ok d hd).ok, (hents5.ok d hd).v8⟩)
            have HMAY := Lib.hid hmay
            rw [hmay]
            clear hb5 hmay hok hokL hents5 hlS5 hlR5 hrl HCK
            generalize bare (clamp ((ival S (rest bs) : Nat) : Int)) (L.map D.t) = bb at *
            generalize ival S (rest bs) = iv at *
            go_wp2_with fail
            refine HIV.out.mono ?_
            rintro e w' ⟨rfl, rfl⟩
            go_wp2_with fail
            refine HLY.out.mono ?_
            intro e W6 hmade
            obtain ⟨v6, rfl, ho6, -, hb6⟩ := made_byts hmade
            obtain ⟨A6, c6, rfl, q1, q2, q3⟩ := own_parts ho6
            have HB6 := Lib.hid (HB5.out.trans (hb6.mono HB5.out.size))
            have HEQ : Hid (Calls Try.prog 56 #[.slice A6 bb.length c6, .slice A (m + 4) c] W6 fun e w' => e = .returned (.bool (decide (bb = bs.take (m + 4)))) ∧ W6 = w') := Lib.hid (by
              have h := equal_any A6 A c6 c bb (bs.take (m + 4)) W6 q3 (((HL.out.below HB6.out).up HB6.out.size).front (by rw [List.map_take]; exact List.take_prefix _ _)) HB8.out (fun x hx => H8.out x (List.mem_of_mem_take hx))
              rwa [HT4.out] at h)
            have HEN6 : Hid (Ents W6 (fun k => w.heap.size ≤ k ∧ k < W6.heap.size) A5 c5 L) := Lib.hid (HEN5.out.later (fun k hk => hb6.block k hk.2) fun k hk => ⟨hk.1, Nat.lt_of_lt_of_le hk.2 hb6.size⟩)
            have HO6 := Lib.hid (own_later HO5.out hb6)
            clear hmade ho6 q3 hb6 HIV HLY
            go_wp2_with fail
            refine HEQ.out.mono ?_
            rintro e w' ⟨rfl, rfl⟩
            by_cases heq : bb = bs.take (m + 4)
            · have d9 : decide (bb = bs.take (m + 4)) = true := decide_eq_true heq
              have HIS := Lib.hid (HIFF.out.1 heq)
              have HAL := Lib.hid (allB_ok HIS.out)
              rw [d9]
              clear heq d9
              go_wp2_with fail
              go_returns
              exact ⟨HB6.out, .inr ⟨by rw [HAL.out], A5, Ar, c5, L, HIS.out, by rw [HAL.out], rfl, HEN6.out, HO6.out⟩⟩
            · have d9 : decide (bb = bs.take (m + 4)) = false := decide_eq_false heq
              have HE : Hid (allB bs = ([], 2)) := Lib.hid (allB_bad H8L.out HSUM.out fun ⟨us, hu⟩ => heq (HIFF.out.2 (by
                have h1 := (isB_raw hu).2.2.2
                rw [HRAW.out] at h1
                injection h1 with h1
                rw [h1]
                exact hu)))
              rw [d9]
              clear heq d9
              go_wp2_with fail
              go_returns
              exact opn_bad HE.out (by decide) HB6.out
          · have HE : Hid (allB bs = ([], 2)) := Lib.hid (raw_no H8L.out HSUM.out (.inr ⟨_, HRAW.out, hmay⟩))
            have d4 : ((may (L.map D.t) : Int) != 0) = true := by rw [bne_iff_ne]; omega
            have hml : may (L.map D.t) ≤ 10 := by unfold may; split; omega; split; omega; split <;> omega
            clear hb5 hmay HCK
            generalize may (L.map D.t) = mm at *
            go_wp2_with fail
            go_returns
            exact opn_bad HE.out (by decide) HB5.out
    · have HE : Hid (allB bs = ([], 5)) := Lib.hid (allB_sum H8L.out (by rw [HE4.out]; exact fun h => hsum (HSI.out.2 h)))
      have d3 : ((N : Int) != (M : Int)) = true := by rw [bne_iff_ne]; omega
      clear hsum
      go_wp2_with fail
      go_returns
      exact opn_bad HE.out (by decide) HB2.out
end Go.Proofs.Ytaopbgildkjpcaa.Bk
