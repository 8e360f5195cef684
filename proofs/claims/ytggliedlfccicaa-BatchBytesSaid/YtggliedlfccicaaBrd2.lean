/- The reader of package batch: kinds and texts. -/
import Derived.Test.YtggliedlfccicaaBrd1
namespace Go.Proofs.Ytggliedlfccicaa.Bt
set_option linter.unusedVariables false
set_option linter.unusedSimpArgs false
open Go.RowKit Lift Ik Vn

def kindL : List Nat → Nat × Nat
  | [] => (4, 0)
  | c :: _ => if 1 < c then (2, 0) else (0, c)
theorem dec_three : ∀ (l : List Nat) (i y : Nat), (dec l i y).2.2 = 0 ∨ (dec l i y).2.2 = 2 ∨ (dec l i y).2.2 = 4 := by
  intro l
  induction l with
  | nil => intro i y; simp [dec]
  | cons c l ih =>
    intro i y
    simp only [dec]
    split
    · simp
    · split
      · simp
      · exact ih _ _
theorem dec_len : ∀ (l : List Nat) (i y : Nat), (dec l i y).2.2 = 0 → i + 1 ≤ (dec l i y).2.1 ∧ (dec l i y).2.1 ≤ i + l.length := by
  intro l
  induction l with
  | nil => intro i y h; simp [dec] at h
  | cons c l ih =>
    intro i y h
    simp only [dec] at h ⊢
    split
    · rename_i h1
      rw [if_pos h1] at h
      cases h
    · rename_i h1
      rw [if_neg h1] at h
      split
      · simp
      · rename_i h2
        rw [if_neg h2] at h
        have := ih _ _ h
        simp
        omega

/-- A reader of the bytes bs that lie below it. -/
structure Rdr (w : World) (g : Nat) (ad : Addr) (c : Nat) (bs : List Nat) (p : Nat) : Prop where
  rd : Rd w g (some ad) bs.length c p
  lies : Lies w g (some ad) (bs.map vb)
  cap : bs.length ≤ c
  max : c ≤ maxLen
  byte : ∀ x, x ∈ bs → x < 256
  small : bs.length ≤ 1000000
  le : p ≤ bs.length
theorem Rdr.at' {w w' : World} {g c p q : Nat} {ad : Addr} {bs : List Nat} (h : Rdr w g ad c bs p) (hk : Keep (· = g) w w') (hr : Rd w' g (some ad) bs.length c q) (hq : q ≤ bs.length) : Rdr w' g ad c bs q :=
  ⟨hr, h.lies.below (hk.below (Nat.le_of_lt h.rd.lt) fun k hk => by omega), h.cap, h.max, h.byte, h.small, hq⟩

theorem Rdr.below {w w' : World} {g c p B : Nat} {ad : Addr} {bs : List Nat} (h : Rdr w g ad c bs p) (hb : Below B w w') (hg : g < B) : Rdr w' g ad c bs p :=
  ⟨h.rd.below hb hg, h.lies.below (hb.mono (Nat.le_of_lt hg)), h.cap, h.max, h.byte, h.small, h.le⟩

set_option maxRecDepth 100000 in
set_option maxHeartbeats 400000 in
theorem kind_any (g : Nat) (ad : Addr) (c p : Nat) (bs : List Nat) (w : World) (h : Rdr w g ad c bs p) :
    Calls Try.prog (39) #[.pointer (some ⟨g, 0, none⟩)] w fun e w' => ∃ q, e = .returned (.tuple #[.int .i64 ((kindL (bs.drop p)).2 : Int), .int .i64 ((kindL (bs.drop p)).1 : Int)]) ∧ Keep (· = g) w w' ∧ Rdr w' g ad c bs q ∧ ((kindL (bs.drop p)).1 = 0 → q = p + 1) := by
  have H := Lib.hid h
  by_cases hp : p < bs.length
  · obtain ⟨k, hk⟩ : ∃ k, bs[p]? = some k := ⟨_, List.getElem?_eq_getElem hp⟩
    have hdr := drop_cons hk
    have e1 : kindL (bs.drop p) = if 1 < k then (2, 0) else (0, k) := by rw [hdr]; rfl
    have hpart := part_ok g ad bs c p 1 w h.rd h.lies h.cap h.max h.le h.small (by omega)
    have k8 := h.byte k (List.mem_of_getElem? hk)
    have ht : (bs.drop p).take 1 = [k] := by rw [hdr]; rfl
    rw [ht] at hpart
    have E1 := Lib.hid e1
    have HP := Lib.hid hpart
    clear h hk hdr e1 hpart ht
    go_enter Try.func39, Try.ntmps39
    go_wp2_with fail
    refine (show Calls Try.prog (37) #[.pointer (some ⟨g, 0, none⟩), .int .i64 1] w _ from HP.out).mono ?_
    rintro e W1 ⟨ad', rfl, hl1, hk1, hr1⟩
    obtain ⟨_, hA, _, hcell⟩ := hl1.place (by simp)
    cases hA
    have c0 : W1.cell? ad' = some (.int .u8 (k : Int)) := hcell 0 _ rfl
    have HR := Lib.hid (H.out.at' hk1 hr1 (by omega))
    have HK := Lib.hid hk1
    clear hl1 hk1 hr1 hcell HP
    by_cases hk2 : 1 < k
    · have d0 : ((k : Int) != 0) = true := by rw [bne_iff_ne]; omega
      have d1 : ((k : Int) != 1) = true := by rw [bne_iff_ne]; omega
      have E2 := Lib.hid (show kindL (bs.drop p) = (2, 0) by rw [E1.out, if_pos hk2])
      clear hk2
      go_wp2_with fail
      go_returns
      exact ⟨p + 1, by rw [E2.out]; rfl, HK.out, HR.out, fun _ => rfl⟩
    · have E2 := Lib.hid (show kindL (bs.drop p) = (0, k) by rw [E1.out, if_neg hk2])
      rcases (show k = 0 ∨ k = 1 by omega) with rfl | rfl
      · go_wp2_with fail
        go_returns
        exact ⟨p + 1, by rw [E2.out]; rfl, HK.out, HR.out, fun _ => rfl⟩
      · go_wp2_with fail
        go_returns
        exact ⟨p + 1, by rw [E2.out]; rfl, HK.out, HR.out, fun _ => rfl⟩
  · have E1 := Lib.hid (show kindL (bs.drop p) = (4, 0) by rw [List.drop_of_length_le (by omega)]; rfl)
    have HP := Lib.hid (part_short g (some ad) bs.length c p 1 w h.rd h.le h.small (by omega) (by omega))
    clear h
    go_enter Try.func39, Try.ntmps39
    go_wp2_with fail
    refine (show Calls Try.prog (37) #[.pointer (some ⟨g, 0, none⟩), .int .i64 1] w _ from HP.out).mono ?_
    rintro e W1 ⟨rfl, hb1, hr1⟩
    have HK := Lib.hid (below_keep (S := (· = g)) hb1)
    have HR := Lib.hid (H.out.at' HK.out hr1 H.out.le)
    clear hb1 hr1 HP
    go_wp2_with fail
    go_returns
    exact ⟨p, by rw [E1.out]; rfl, HK.out, HR.out, fun hq => by rw [E1.out] at hq; cases hq⟩

theorem field_bad {l : List Nat} {lo hi x k er : Nat} (hd : dec l 0 0 = (x, k, er)) (h : er ≠ 0) : fieldL l lo hi = (er, [], 0) := by unfold fieldL; rw [hd]; simp [h]
theorem field_out {l : List Nat} {lo hi x k : Nat} (hd : dec l 0 0 = (x, k, 0)) (h : x < lo ∨ hi < x) : fieldL l lo hi = (2, [], 0) := by unfold fieldL; rw [hd]; simp [h]
theorem field_short {l : List Nat} {lo hi x k : Nat} (hd : dec l 0 0 = (x, k, 0)) (h : ¬ (x < lo ∨ hi < x)) (hs : l.length - k < x) : fieldL l lo hi = (4, [], 0) := by
  unfold fieldL; rw [hd]; simp only; rw [if_neg (by omega), if_neg h, if_pos (by rw [List.length_drop]; exact hs)]
theorem field_ok {l : List Nat} {lo hi x k : Nat} (hd : dec l 0 0 = (x, k, 0)) (h : ¬ (x < lo ∨ hi < x)) (hs : ¬ l.length - k < x) : fieldL l lo hi = (0, (l.drop k).take x, k + x) := by
  unfold fieldL; rw [hd]; simp only; rw [if_neg (by omega), if_neg h, if_neg (by rw [List.length_drop]; exact hs)]
theorem res_at (bs : List Nat) (p : Nat) (h : p ≤ bs.length) {x k er : Nat} (hd : dec (bs.drop p) 0 0 = (x, k, er)) : Vt.told (Vt.res bs (p : Int)) = .returned (.tuple #[.int .u64 (x : Int), .int .i64 ((if er = 0 then p + k else 0 : Nat) : Int), .int .i64 (er : Int)]) := by
  have e : decAt bs p = (x, k, er) := hd
  unfold Vt.told Vt.res
  rw [if_neg (by omega), Int.toNat_natCast, e]

/-- What a text is told as. -/
def Texted (w : World) (g : Nat) (ad : Addr) (c : Nat) (bs : List Nat) (p : Nat) (r : Nat × List Nat × Nat) (e : Ending) (w' : World) : Prop :=
  ∃ (A1 : Option Addr) (c1 q : Nat), e = .returned (.tuple #[.slice A1 r.2.1.length c1, .int .i64 (r.1 : Int)]) ∧ LiesP w' (fun k => w.heap.size ≤ k ∧ k < w'.heap.size) A1 (r.2.1.map vb) ∧ r.2.1.length ≤ c1 ∧ c1 ≤ maxLen ∧
    Keep (· = g) w w' ∧ Rdr w' g ad c bs q ∧ (r.1 = 0 → q = p + r.2.2)
theorem texted_bad {w w' : World} {g c p q er : Nat} {ad : Addr} {bs : List Nat} (h : er ≠ 0) (hk : Keep (· = g) w w') (hr : Rdr w' g ad c bs q) :
    Texted w g ad c bs p (er, [], 0) (.returned (.tuple #[.slice none 0 0, .int .i64 (er : Int)])) w' :=
  ⟨none, 0, q, rfl, .inl rfl, Nat.le_refl _, by decide, hk, hr, fun h0 => absurd h0 h⟩
theorem keep_setCell {w : World} {g : Nat} (u : Value) : Keep (· = g) w (w.setCell ⟨g, 1, none⟩ u) := (Keep.refl (· = g) w).setCell (p := ⟨g, 1, none⟩) (.inr rfl) u

set_option maxRecDepth 100000 in
set_option maxHeartbeats 400000 in
theorem text_rd (g : Nat) (ad : Addr) (c p lo hi : Nat) (bs : List Nat) (w : World) (h : Rdr w g ad c bs p) (hhi : hi ≤ 4096) (hlo : lo ≤ hi) :
    Calls Try.prog (40) #[.pointer (some ⟨g, 0, none⟩), .int .u64 (lo : Int), .int .u64 (hi : Int)] w (Texted w g ad c bs p (fieldL (bs.drop p) lo hi)) := by
  have H := Lib.hid h
  obtain ⟨p0, p1, f0, f1⟩ := h.rd.facts2
  obtain ⟨x, k, er, hd⟩ : ∃ x k er, dec (bs.drop p) 0 0 = (x, k, er) := ⟨_, _, _, rfl⟩
  have hget := fun n => Vt.get_calls (some ad) c g bs (p : Int) (w.drewN n) (h.lies.below (Joins.below_draws g w n)) h.cap (Nat.le_trans h.cap h.max) h.byte
  rw [res_at bs p h.le hd] at hget
  have h3 := dec_three (bs.drop p) 0 0
  have hlen := dec_len (bs.drop p) 0 0
  have hx := dec_lt (bs.drop p) 0 0 (by omega) (by decide)
  rw [hd] at h3 hlen hx
  simp only at h3 hlen hx
  have HD := Lib.hid hd
  have HX := Lib.hid hx
  clear h hd hx
  rcases h3 with rfl | rfl | rfl
  · rw [if_pos rfl] at hget
    have hlen := hlen rfl
    rw [List.length_drop] at hlen
    have hple := H.out.le
    have HG := Lib.hid hget
    have HL := Lib.hid hlen
    clear hget
    by_cases hx1 : x < lo ∨ hi < x
    · have E := Lib.hid (field_out HD.out hx1)
      by_cases hx2 : x < lo
      · have d1 : decide (x < lo) = true := by simp; omega
        clear hx1
        go_enter Try.func40, Try.ntmps40
        go_wp2_with fail
        go_quiet (first | (go_at_call 42; refine Calls.quiet_of_same ((HG.out _).mono fun e w' hh => ⟨hh.1, hh.2.symm⟩)))
        go_wp2_with fail
        go_returns
        rw [E.out]
        exact texted_bad (by decide) (below_keep (Joins.below_draws _ _ _)) (H.out.at' (below_keep (Joins.below_draws _ _ _)) H.out.rd H.out.le)
      · have d1 : decide (x < lo) = false := by simp; omega
        have d2 : decide (hi < x) = true := by simp; omega
        clear hx1
        go_enter Try.func40, Try.ntmps40
        go_wp2_with fail
        go_quiet (first | (go_at_call 42; refine Calls.quiet_of_same ((HG.out _).mono fun e w' hh => ⟨hh.1, hh.2.symm⟩)))
        go_wp2_with fail
        go_returns
        rw [E.out]
        exact texted_bad (by decide) (below_keep (Joins.below_draws _ _ _)) (H.out.at' (below_keep (Joins.below_draws _ _ _)) H.out.rd H.out.le)
    · have d1 : decide (x < lo) = false := by simp; omega
      have d2 : decide (hi < x) = false := by simp; omega
      have hx4 : x ≤ 4096 := by omega
      have E1 := Lib.hid hx1
      have HS := Lib.hid fun (n : Nat) => (show Keep (· = g) w ((w.drewN n).setCell ⟨g, 1, none⟩ (.int .i64 ((p : Int) + (k : Int)))) from (below_keep (S := (· = g)) (Joins.below_draws w.heap.size w n)).setCell (p := ⟨g, 1, none⟩) (.inr rfl) _)
      have HT := Lib.hid fun (n : Nat) => H.out.at' (HS.out n) (q := p + k) (Box.set (us := [.slice (some ad) bs.length c, .int .i64 (p : Int)]) H.out.rd 1 _) (by omega)
      clear hx1
      by_cases hs : bs.length - (p + k) < x
      · have E := Lib.hid (field_short HD.out E1.out (by rw [List.length_drop]; omega))
        go_enter Try.func40, Try.ntmps40
        go_wp2_with fail
        go_quiet (first | (go_at_call 42; refine Calls.quiet_of_same ((HG.out _).mono fun e w' hh => ⟨hh.1, hh.2.symm⟩)))
        go_wp2_with fail
        refine (part_short g (some ad) bs.length c (p + k) x _ (HT.out _).rd (by omega) H.out.small hs (by omega)).mono ?_
        rintro e W2 ⟨rfl, hb2, hr2⟩
        have HK2 := Lib.hid ((HS.out _).trans (below_keep (S := (· = g)) hb2) fun _ _ h => h)
        have HR2 := Lib.hid ((HT.out _).at' (below_keep hb2) hr2 (by omega))
        clear hb2 hr2
        go_wp2_with fail
        refine (clone_nil _).mono ?_; rintro e w' ⟨rfl, rfl⟩
        go_wp2_with fail
        go_returns
        rw [E.out]
        exact texted_bad (by decide) HK2.out HR2.out
      · have E := Lib.hid (field_ok HD.out E1.out (by rw [List.length_drop]; omega))
        rw [List.drop_drop] at E
        have htl : ((bs.drop (p + k)).take x).length = x := by rw [List.length_take, List.length_drop]; omega
        go_enter Try.func40, Try.ntmps40
        go_wp2_with fail
        go_quiet (first | (go_at_call 42; refine Calls.quiet_of_same ((HG.out _).mono fun e w' hh => ⟨hh.1, hh.2.symm⟩)))
        go_wp2_with fail
        refine (part_ok g ad bs c (p + k) x _ (HT.out _).rd (HT.out _).lies H.out.cap H.out.max (by omega) H.out.small (by omega)).mono ?_
        rintro e W2 ⟨ad', rfl, hl2, hk2, hr2⟩
        have hR2 := (HT.out _).at' hk2 hr2 (by omega)
        have HK2 := Lib.hid ((HS.out _).trans hk2 fun _ _ h => h)
        have hcl := clone_any ad' (c - (p + k)) ((bs.drop (p + k)).take x) W2 (hl2.up (Nat.le_of_lt hr2.lt)) (by rw [htl]; omega)
        rw [htl] at hcl
        have HR2 := Lib.hid hR2
        have HCL := Lib.hid hcl
        have HTL := Lib.hid htl
        clear hl2 hk2 hr2 hR2 hcl htl
        go_wp2_with fail
        refine HCL.out.mono ?_
        intro e W3 hm3
        obtain ⟨v3, rfl, hown3, hb3⟩ := hm3
        have hp3 := hown3
        rw [HTL.out] at hp3
        obtain ⟨A3, c3, rfl, hc3, hcm3, _⟩ := own_parts hp3
        have hlp := LiesP.of_own hp3
        have HK3 := Lib.hid (HK2.out.trans (below_keep (S := (· = g)) hb3) fun _ _ h => h)
        have HR3 := Lib.hid (HR2.out.at' (below_keep hb3) (HR2.out.rd.below hb3 HR2.out.rd.lt) (by omega))
        have HLP := Lib.hid (hlp.later (R' := fun k => w.heap.size ≤ k ∧ k < W3.heap.size) (fun _ _ => rfl) fun k hk => ⟨Nat.le_trans HK2.out.size hk.1, hk.2.1⟩)
        have HC3 := Lib.hid hc3
        have HM3 := Lib.hid hcm3
        clear hown3 hb3 hp3 hc3 hcm3 hlp HCL
        go_wp2_with fail
        go_returns
        rw [E.out]
        refine ⟨A3, c3, p + k + x, ?_, HLP.out, by rw [HTL.out]; exact HC3.out, HM3.out, HK3.out, HR3.out, fun _ => by simp only; omega⟩
        rw [HTL.out]
        rfl
  · have E := Lib.hid (field_bad (lo := lo) (hi := hi) HD.out (by decide))
    rw [if_neg (by decide)] at hget
    have HG := Lib.hid hget
    clear hget hlen
    go_enter Try.func40, Try.ntmps40
    go_wp2_with fail
    go_quiet (first | (go_at_call 42; refine Calls.quiet_of_same ((HG.out _).mono fun e w' hh => ⟨hh.1, hh.2.symm⟩)))
    go_wp2_with fail
    go_returns
    rw [E.out]
    exact texted_bad (by decide) (below_keep (Joins.below_draws _ _ _)) (H.out.at' (below_keep (Joins.below_draws _ _ _)) H.out.rd H.out.le)
  · have E := Lib.hid (field_bad (lo := lo) (hi := hi) HD.out (by decide))
    rw [if_neg (by decide)] at hget
    have HG := Lib.hid hget
    clear hget hlen
    go_enter Try.func40, Try.ntmps40
    go_wp2_with fail
    go_quiet (first | (go_at_call 42; refine Calls.quiet_of_same ((HG.out _).mono fun e w' hh => ⟨hh.1, hh.2.symm⟩)))
    go_wp2_with fail
    go_returns
    rw [E.out]
    exact texted_bad (by decide) (below_keep (Joins.below_draws _ _ _)) (H.out.at' (below_keep (Joins.below_draws _ _ _)) H.out.rd H.out.le)
end Go.Proofs.Ytggliedlfccicaa.Bt
