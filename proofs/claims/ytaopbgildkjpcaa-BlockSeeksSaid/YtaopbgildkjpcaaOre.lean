/- Package block: what readEntries answers. -/
import Derived.Test.YtaopbgildkjpcaaOnxt
namespace Go.Proofs.Ytaopbgildkjpcaa.Bk
set_option linter.unusedVariables false
set_option linter.unusedSimpArgs false
open Go.RowKit Lift Ik Sk Vn
open Vt (res)
/-- One entry more, and what lies beside the row. -/
theorem more2 {B : Nat} {w : World} {v : Value} {L : List D} (h : Ac B w v L) {d : D} (hd : d.Ok w (Fresh B w)) (hB : B ≤ w.heap.size) (hL : L.length ≤ 100000000) :
    ∃ v' w', Sem.run Try.prog (Builtin.append_ #[22, 22] 22 #[v, .slice (some ⟨w.heap.size, 0, none⟩) 1 1]) (w.alloc (ebox d)) = .ok v' w' ∧ Ac B w' v' (L ++ [d]) ∧ Below B w w' ∧
      ∀ (k : Nat) cs T fr, w.heap[k]? = some (.cells cs T fr) → T ≠ 48 → w'.heap[k]? = w.heap[k]? := by
  have hb := below_box w d
  have hl : Lies (w.alloc (ebox d)) (w.heap.size + 1) (some ⟨w.heap.size, 0, none⟩) d.cells := lies_block (cs := d.cells.toArray) (heap_alloc_new w _) (Nat.lt_succ_self _)
  have h1 := h.below hb
  obtain ⟨v', w', hr, ho, hon⟩ := run_append_onto (P := Try.prog) (m := 1) (c := 1) 22 22 48 (.agg #[.slice none 0 0, .int .u64 0, .int .i64 0, .slice none 0 0]) 4 64 Try.underlying22 (by kernel_rfl) rfl (by decide)
    (fun u hu => by simp [D.cells] at hu; rcases hu with rfl | rfl | rfl | rfl <;> rfl) h1.own hl rfl (by unfold maxLen; omega) (by omega) (Nat.le_trans hB hb.size)
  have hbel : Below B w w' := (hb.mono hB).trans (hon.below h1.own (Nat.le_trans hB hb.size))
  have hk : ∀ (k : Nat) cs T fr, w.heap[k]? = some (.cells cs T fr) → T ≠ 48 → w'.heap[k]? = w.heap[k]? := fun k cs T fr h3 hT => by
    have h2 : k < w.heap.size := by
      rcases Nat.lt_or_ge k w.heap.size with hq | hq
      · exact hq
      · rw [Array.getElem?_eq_none hq] at h3; cases h3
    rw [hon.keep.block k (Nat.lt_of_lt_of_le h2 hb.size) (fun hv => ?_), hb.block k h2]
    obtain ⟨cs2, fr2, h4⟩ := own_blk h1.own hv
    rw [hb.block k h2, h3] at h4
    injection h4 with h4
    injection h4 with _ h4
    exact absurd h4 hT
  have hf : ∀ k, Fresh B w k → w'.heap[k]? = w.heap[k]? ∧ Fresh B w' k := fun k hk2 => by
    obtain ⟨h1, h2, cs, fr, h3⟩ := hk2
    have h4 := hk k cs _ fr h3 (by decide)
    exact ⟨h4, h1, Nat.lt_of_lt_of_le h2 hbel.size, cs, fr, h4.trans h3⟩
  refine ⟨v', w', hr, ⟨by rw [List.length_append, cellsL_append]; simpa [cellsL] using ho, fun e he => ?_⟩, hbel, hk⟩
  rcases List.mem_append.1 he with he | he
  · exact (h.ok e he).later (fun k hk => (hf k hk).1) fun k hk => (hf k hk).2
  · simp at he
    subst he
    exact hd.later (fun k hk => (hf k hk).1) fun k hk => (hf k hk).2

theorem spots_end {bs last : List Nat} {p f : Nat} (h : bs.length ≤ p) : spots bs (f + 1) p last = [] := by unfold spots; rw [if_pos h]
theorem spots_one {bs last : List Nat} {p q f : Nat} {t : T} {kb : List Nat} (h : p < bs.length) (hs : step bs p last = some (t, kb, q)) : spots bs (f + 1) p last = p :: spots bs f q kb := by
  have e : spots bs (f + 1) p last = (if bs.length ≤ p then [] else match step bs p last with
    | none => []
    | some (_, kb, tn) => p :: spots bs f tn kb) := rfl
  rw [e, if_neg (by omega), hs]
def atOf (w : World) (g : Nat) : Nat := match w.cell? ⟨g, 1, none⟩ with
  | some v => (intOf v).toNat
  | none => 0
theorem atOf_box {w : World} {g n c p : Nat} {A : Option Addr} {K : Value} (h : Lift.Box w g 106 (rcells A n c p K)) : atOf w g = p := by
  unfold atOf
  rw [h.cell 1]
  simp [intOf]
theorem FK.step {B k : Nat} {w w' : World} {v v' : Value} (h : FK B w v k) (hs : w'.heap[k]? = w.heap[k]?) (hz : w.heap.size ≤ w'.heap.size) (hv : ¬ v'.ownBlock = some k) : FK B w' v' k := by
  obtain ⟨⟨h1, h2, cs, fr, h3⟩, _⟩ := h
  exact ⟨⟨h1, Nat.lt_of_lt_of_le h2 hz, cs, fr, hs.trans h3⟩, hv⟩
theorem FK.off {B k base size n : Nat} {w : World} {v v' : Value} {e : TypeId} {xs : List Value} (h : FK B w v k) (ho : w.ownsRow base e size v' n xs) (he : e ≠ 5) : ¬ v'.ownBlock = some k := fun hk => by
  obtain ⟨cs, fr, h1⟩ := own_blk ho hk
  obtain ⟨⟨_, _, cs2, fr2, h2⟩, _⟩ := h
  rw [h1] at h2
  injection h2 with h2
  injection h2 with _ h2
  exact he h2
theorem FK.box {B k g : Nat} {w : World} {v : Value} {T : TypeId} {us : List Value} (h : FK B w v k) (hb : Lift.Box w g T us) (hT : T ≠ 5) : ¬ k = g := fun e => by
  obtain ⟨⟨_, _, cs, fr, h2⟩, _⟩ := h
  subst e
  unfold Lift.Box at hb
  rw [hb] at h2
  injection h2 with h2
  injection h2 with _ h2
  exact hT h2
/-- What readEntries answers. -/
def Rent (w : World) (fs : List Nat) (e : Ending) (w' : World) : Prop :=
  Below w.heap.size w w' ∧ (((loose fs (fs.length + 1) 0 [] = none ∨ ∃ ts, loose fs (fs.length + 1) 0 [] = some ts ∧ 10000 < ts.length) ∧ e = .returned (.tuple #[.slice none 0 0, .slice none 0 0, .bool false])) ∨
    ∃ (A A7 : Option Addr) (c c7 : Nat) (L : List D) (S : List Nat), loose fs (fs.length + 1) 0 [] = some (L.map D.t) ∧ S = spots fs (fs.length + 1) 0 [] ∧ L.length ≤ 10000 ∧ S.length = L.length ∧ e = .returned (.tuple #[.slice A L.length c, .slice A7 S.length c7, .bool true]) ∧
      Ents w' (fun k => w.heap.size ≤ k ∧ k < w'.heap.size) A c L ∧ w'.ownsRow w.heap.size 3 1 (.slice A7 S.length c7) S.length (S.map vn))
/-- What lies in memory in the middle of it; g: the reader. -/
structure Re (w wr : World) (fs : List Nat) (Ae : Option Addr) (ce g p f : Nat) (A5 A7 Ak : Option Addr) (c5 c7 ck : Nat) (L : List D) (S last : List Nat) : Prop where
  ac : wr.ownsRow w.heap.size 48 4 (.slice A5 L.length c5) L.length (cellsL L)
  ok : ∀ d, d ∈ L → d.Ok wr (FK w.heap.size wr (.slice Ak last.length ck))
  st : wr.ownsRow w.heap.size 3 1 (.slice A7 S.length c7) S.length (S.map vn)
  rd : Rdr wr g Ae ce p fs Ak ck last w.heap.size
  below : Below w.heap.size w wr
  fuel : fs.length < p + f
  cnt : L.length ≤ p
  big : L.length ≤ 10000
  len : S.length = L.length
  ll : last.length ≤ p
  eq : loose fs (fs.length + 1) 0 [] = (loose fs f p last).map (L.map D.t ++ ·)
  sp : spots fs (fs.length + 1) 0 [] = S ++ spots fs f p last
theorem step_ll {bs last : List Nat} {p q : Nat} {t : T} {kb : List Nat} (hs : step bs p last = some (t, kb, q)) (hl : last.length ≤ p) : kb.length ≤ q ∧ q ≤ bs.length := by
  by_cases h1 : (res bs (p : Nat)).2.2 ≠ 0 ∨ last.length < (res bs (p : Nat)).1
  · rw [step_a h1] at hs; cases hs
  · obtain ⟨⟨c, a, e⟩, hr1⟩ : ∃ r, r = res bs (p : Nat) := ⟨_, rfl⟩
    rw [← hr1] at h1
    simp only [not_or, Nat.not_lt, ne_eq, Decidable.not_not] at h1
    obtain ⟨rfl, h1⟩ := h1
    by_cases h2 : (res bs (a : Nat)).2.2 ≠ 0
    · rw [step_b hr1.symm (by omega) h2] at hs; cases hs
    · obtain ⟨⟨n, d, e⟩, hr2⟩ : ∃ r, r = res bs (a : Nat) := ⟨_, rfl⟩
      rw [← hr2] at h2
      simp only [ne_eq, Decidable.not_not] at h2
      subst h2
      by_cases h3 : (res bs (d : Nat)).2.2 ≠ 0 ∨ bs.length - (res bs (d : Nat)).2.1 < n ∨ bs.length - (res bs (d : Nat)).2.1 - n < (res bs (d : Nat)).1
      · rw [step_c hr1.symm (by omega) hr2.symm h3] at hs; cases hs
      · obtain ⟨⟨v, q', e⟩, hr3⟩ : ∃ r, r = res bs (d : Nat) := ⟨_, rfl⟩
        rw [← hr3] at h3
        simp only [not_or, Nat.not_lt, ne_eq, Decidable.not_not] at h3
        obtain ⟨rfl, h3, h4⟩ := h3
        have g1 := res_ok hr1.symm
        have g2 := res_ok hr2.symm
        have g3 := res_ok hr3.symm
        rw [step_d hr1.symm (by omega) hr2.symm hr3.symm (by omega) (by omega)] at hs
        split at hs
        · cases hs
        · injection hs with hs
          injection hs with _ hs
          injection hs with hk hq
          rw [← hk, ← hq, List.length_append, List.length_take, List.length_take, List.length_drop]
          omega
set_option maxRecDepth 1000000 in
set_option maxHeartbeats 3200000 in
theorem oread_any (Ae : Option Addr) (ce : Nat) (fs : List Nat) (w : World) (hl : Lies w w.heap.size Ae (fs.map vb)) (hc : fs.length ≤ ce) (hm : ce ≤ maxLen) (hs : fs.length ≤ 50000000) (h8 : ∀ x, x ∈ fs → x < 256) :
    Calls Try.prog 55 #[.slice Ae fs.length ce] w (Rent w fs) := by
  have HL := Lib.hid hl
  have H8 := Lib.hid h8
  have HM := Lib.hid hm
  have hm1 := hm
  unfold maxLen at hm1
  clear hl h8
  obtain ⟨g, hg⟩ : ∃ g, g = w.heap.size := ⟨_, rfl⟩
  have hx0 : Lift.Box (w.alloc (.cells #[.slice Ae fs.length ce, .int .i64 0, .slice none 0 0] 106)) w.heap.size 106 (rcells Ae fs.length ce 0 (.slice none 0 0)) := Lift.Box.new w _ (rcells Ae fs.length ce 0 (.slice none 0 0))
  have hb0 : Below w.heap.size w (w.alloc (.cells #[.slice Ae fs.length ce, .int .i64 0, .slice none 0 0] 106)) := Joins.below_alloc1 w _
  have HST : Hid (Re w (w.alloc (.cells #[.slice Ae fs.length ce, .int .i64 0, .slice none 0 0] 106)) fs Ae ce w.heap.size 0 (fs.length + 1) none none none 0 0 0 [] [] []) := Lib.hid
    ⟨World.ownsRow_nil _ _ _ _, by simp, World.ownsRow_nil _ _ _ _, ⟨hx0, HL.out.below hb0, Nat.le_refl _, World.ownsRow_nil _ _ _ _, Nat.zero_le _, by simp⟩, hb0, by omega, by simp, by simp, rfl, by simp, by cases loose fs (fs.length + 1) 0 [] <;> simp, by simp⟩
  clear hx0 hb0
  go_enter Try.func55, Try.ntmps55
  go_upto_region 4 with fail
  change Code.wp _ _ _ _ (w.alloc (.cells #[.slice Ae fs.length ce, .int .i64 0, .slice none 0 0] 106))
  generalize w.alloc (.cells #[.slice Ae fs.length ce, .int .i64 0, .slice none 0 0] 106) = W0 at HST ⊢
  go_loopw [5, 6] (fun v5 v6 wr => ∃ (p f : Nat) (A5 A7 Ak : Option Addr) (c5 c7 ck : Nat) (L : List D) (S last : List Nat), v5 = .slice A5 L.length c5 ∧ v6 = .slice A7 S.length c7 ∧ Hid (Re w wr fs Ae ce w.heap.size p f A5 A7 Ak c5 c7 ck L S last)) (fun _ _ W => fs.length + 1 - atOf W w.heap.size)
  case atStart => exact ⟨0, fs.length + 1, none, none, none, 0, 0, 0, [], [], [], rfl, rfl, HST⟩
  case round =>
    obtain ⟨p, f, A5, A7, Ak, c5, c7, ck, L, S, last, rfl, rfl, hre⟩ := hrel
    have hrd := hre.out.rd
    obtain ⟨x0, x1, x2, f0, f1, f2⟩ := hrd.box.facts3
    have hple := hrd.place
    have hbig := hre.out.big
    have hlen := hre.out.len
    have hAT := Lib.hid (atOf_box hrd.box)
    have hbs := hre.out.below.size
    by_cases hlt : p < fs.length
    · obtain ⟨F, hF⟩ : ∃ F, f = F + 1 := ⟨f - 1, by have := hre.out.fuel; omega⟩
      have HF := Lib.hid hF
      obtain ⟨v7, W1, hr7, ho7, on7⟩ := append_num p hre.out.st (by omega) hbs
      have hx1 := hrd.box.keep on7.keep (own_apart hre.out.st hrd.box (by decide))
      have hk1 := own_kept hrd.own on7.keep (fun k hk => own_two hrd.own hre.out.st (by decide) hk)
      have hb1 := on7.below hre.out.st hbs
      have hac1 := own_kept hre.out.ac on7.keep (fun k hk => own_two hre.out.ac hre.out.st (by decide) hk)
      have hok1 : ∀ d, d ∈ L → d.Ok W1 (FK w.heap.size W1 (.slice Ak last.length ck)) := fun d hd => (hre.out.ok d hd).later (fun k hk => on7.at_block hk.1.2.1 (hk.off hre.out.st (by decide))) fun k hk => hk.step (on7.at_block hk.1.2.1 (hk.off hre.out.st (by decide))) on7.keep.size hk.2
      have hrd1 : Rdr W1 w.heap.size Ae ce p fs Ak ck last w.heap.size := ⟨hx1, hrd.log.below hb1, Nat.le_refl _, hk1, hple, hrd.l8⟩
      obtain ⟨B7, d7, rfl, -, -, -⟩ := own_parts ho7
      have HN := Lib.hid (onext_any w.heap.size ce p ck w.heap.size Ae Ak fs last W1 hrd1 hlt hc HM.out hs (by have := hre.out.ll; omega) H8.out)
      have HW1 := Lib.hid (hre.out.below.trans hb1)
      have HR7 := Lib.hid hr7
      have HO7 := Lib.hid ho7
      have HAC1 := Lib.hid hac1
      have HOK1 := Lib.hid hok1
      have HRD1 := Lib.hid hrd1
      clear hr7 ho7 on7 hx1 hk1 hb1 hac1 hok1 hrd1 hrd hF
      go_wp2_with (at_builtin; refine wpList_append_run rfl _ _ 41 rfl rfl rfl HR7.out ?_)
      refine HN.out.mono ?_
      rintro e W2 ⟨hkp, (⟨hst, rfl⟩ | ⟨d, kb, tn, Ak', ck', hst, rfl, hdok, hrd2, hpto, hpl⟩)⟩
      · have hb2 : Below w.heap.size w W2 := HW1.out.trans (hkp.below HW1.out.size fun k hk => by
          rcases hk with h | h
          · exact Nat.le_of_eq h.symm
          · exact (HRD1.out.own.lt k h).1)
        have HNO : Hid (loose fs (fs.length + 1) 0 [] = none) := Lib.hid (by rw [hre.out.eq, HF.out, loose_no hlt hst]; rfl)
        have HB2 := Lib.hid hb2
        clear hst hkp hb2 x0 x1 x2 f0 f1 f2 HN HR7
        go_wp2_with fail
        go_returns
        exact ⟨HB2.out.trans ((Joins.below_alloc1 W2 _).mono HB2.out.size), .inl ⟨.inl HNO.out, rfl⟩⟩
      · have hb2 : Below w.heap.size w W2 := HW1.out.trans (hkp.below HW1.out.size fun k hk => by
          rcases hk with h | h
          · exact Nat.le_of_eq h.symm
          · exact (HRD1.out.own.lt k h).1)
        have hng : ∀ {k : Nat}, FK w.heap.size W1 (.slice Ak last.length ck) k → W2.heap[k]? = W1.heap[k]? := fun {k} hk => hkp.block k hk.1.2.1 fun hh => by
          rcases hh with h | h
          · exact hk.box HRD1.out.box (by decide) h
          · exact hk.2 h
        have hok2 : ∀ e, e ∈ L → e.Ok W2 (FK w.heap.size W2 (.slice Ak' kb.length ck')) := fun e he => (HOK1.out e he).later (fun k hk => hng hk) fun k hk => hk.step (hng hk) hkp.size fun hh => by
          rcases hpl k hh with h | h
          · exact hk.2 h
          · have := hk.1.2.1
            omega
        have hac2 := own_kept HAC1.out hkp fun k hk hh => by
          rcases hh with h | h
          · subst h; exact own_apart HAC1.out HRD1.out.box (by decide) hk
          · exact own_two HAC1.out HRD1.out.own (by decide) hk h
        have hst2 := own_kept HO7.out hkp fun k hk hh => by
          rcases hh with h | h
          · subst h; exact own_apart HO7.out HRD1.out.box (by decide) hk
          · exact own_two HO7.out HRD1.out.own (by decide) hk h
        have hd2 : d.Ok W2 (FK w.heap.size W2 (.slice Ak' kb.length ck')) := hdok.mono fun k hk => ⟨Fresh.low HW1.out.size k hk.1, hk.2⟩
        have hEQ : loose fs (fs.length + 1) 0 [] = (loose fs F tn kb).map ((L ++ [d]).map D.t ++ ·) := by
          rw [hre.out.eq, HF.out, loose_one hlt hst]
          cases loose fs F tn kb <;> simp
        have hSP : spots fs (fs.length + 1) 0 [] = (S ++ [p]) ++ spots fs F tn kb := by
          rw [hre.out.sp, HF.out, spots_one hlt hst]
          simp
        have hll := step_ll hst hre.out.ll
        have hbx := below_box W2 d
        obtain ⟨y0, y1, y2, y3, -, -, -, -⟩ := (Bx.new W2 d).facts
        have hld := D.load (p := ⟨W2.heap.size, 0, none⟩) (d := d) y0 y1 y2 y3
        have HB3 := Lib.hid (hb2.trans (hbx.mono hb2.size))
        by_cases h10 : L.length = 10000
        · have HLO : Hid (loose fs (fs.length + 1) 0 [] = none ∨ ∃ ts, loose fs (fs.length + 1) 0 [] = some ts ∧ 10000 < ts.length) := Lib.hid (by
            rw [hEQ]
            cases loose fs F tn kb with
            | none => exact .inl rfl
            | some us => exact .inr ⟨_, rfl, by simp; omega⟩)
          have e10 : ((L.length : Int) == 10000) = true := by rw [beq_iff_eq]; omega
          have e11 : (L.length : Int) = 10000 := by omega
          clear hst hkp hb2 x0 x1 x2 f0 f1 f2 HN HR7 hng hok2 hac2 hst2 hd2 hEQ hSP hll hbx y0 y1 y2 y3 hdok hrd2 hpl
          go_wp2_with fail
          go_returns
          exact ⟨HB3.out, .inl ⟨HLO.out, rfl⟩⟩
        · have e10 : ((L.length : Int) == 10000) = false := by rw [beq_eq_false_iff_ne]; omega
          have e11 : ¬ (L.length : Int) = 10000 := by omega
          have hac3 : Ac w.heap.size (W2.alloc (ebox d)) (.slice A5 L.length c5) L := Ac.below ⟨hac2, fun e he => (hok2 e he).mono fun k hk => hk.1⟩ hbx
          obtain ⟨v5, W4, hr5, hac4, hb4, hk4⟩ := more2 (d := d) hac3 ((hd2.mono fun k hk => hk.1).later (fun k hk => hbx.block k hk.2.1) fun k hk => Fresh.below hbx k hk) HB3.out.size (by omega)
          have hty : ∀ (k : Nat) cs T fr, W2.heap[k]? = some (.cells cs T fr) → T ≠ 48 → W4.heap[k]? = W2.heap[k]? := fun k cs T fr h hT => by
            have hk : k < W2.heap.size := (Array.getElem?_eq_some_iff.1 h).1
            have e1 := hbx.block k hk
            exact (hk4 k cs T fr (e1.trans h) hT).trans e1
          have hz4 : W2.heap.size ≤ W4.heap.size := Nat.le_trans hbx.size (by have := hb4.size; exact this)
          have hF4 : ∀ {k : Nat}, FK w.heap.size W2 (.slice Ak' kb.length ck') k → W4.heap[k]? = W2.heap[k]? := fun {k} hk => by
            obtain ⟨⟨_, _, cs, fr, h⟩, _⟩ := hk
            exact hty k cs _ fr h (by decide)
          have hb5 : Below w.heap.size w W4 := HB3.out.trans hb4
          have hok4 : ∀ e, e ∈ L ++ [d] → e.Ok W4 (FK w.heap.size W4 (.slice Ak' kb.length ck')) := fun e he => by
            have h1 : e.Ok W2 (FK w.heap.size W2 (.slice Ak' kb.length ck')) := by
              rcases List.mem_append.1 he with he | he
              · exact hok2 e he
              · rw [List.mem_singleton.1 he]; exact hd2
            exact h1.later (fun k hk => hF4 hk) fun k hk => hk.step (hF4 hk) hz4 hk.2
          have hst4 := own_same hst2 (w' := W4) fun k hk => by
            obtain ⟨cs, fr, h⟩ := own_blk hst2 hk
            exact hty k cs _ fr h (by decide)
          have hrk4 := own_same hrd2.own (w' := W4) fun k hk => by
            obtain ⟨cs, fr, h⟩ := own_blk hrd2.own hk
            exact hty k cs _ fr h (by decide)
          have hrd4 : Rdr W4 w.heap.size Ae ce tn fs Ak' ck' kb w.heap.size := ⟨hrd2.box.at_block (hty _ _ _ _ hrd2.box (by decide)), HL.out.below hb5, Nat.le_refl _, hrk4, hrd2.place, hrd2.l8⟩
          obtain ⟨B5, d5, hv5, -, -, -⟩ := own_parts hac4.own
          subst hv5
          have HRE : Hid (Re w W4 fs Ae ce w.heap.size tn F B5 B7 Ak' d5 d7 ck' (L ++ [d]) (S ++ [p]) kb) := Lib.hid ⟨hac4.own, hok4, hst4, hrd4, hb5, by have := hre.out.fuel; have := HF.out; omega, by rw [List.length_append]; have := hre.out.cnt; simp; omega, by rw [List.length_append]; simp; omega, by rw [List.length_append, List.length_append]; simp; omega, hll.1, hEQ, hSP⟩
          have HAT4 := Lib.hid (atOf_box hrd4.box)
          have hz5 : (W2.alloc (ebox d)).heap.size = W2.heap.size + 1 := by simp only [World.alloc, Array.size_push]
          rw [hz5] at hr5
          have HR5 := Lib.hid hr5
          have HLEN := Lib.hid hlen
          clear hz5 hlen
          clear hst hkp hb2 x0 x1 x2 f0 f1 f2 HN HR7 hng hok2 hac2 hst2 hd2 hEQ hSP hll hbx hdok hrd2 hpl hac3 hr5 hac4 hb4 hk4 hty hz4 hF4 hb5 hok4 hst4 hrk4 hrd4
          go_wp2_with (at_builtin; refine wpList_append_run rfl _ _ 22 rfl rfl rfl HR5.out ?_)
          go_roundw
          case rel => exact ⟨tn, F, B5, B7, Ak', d5, d7, ck', L ++ [d], S ++ [p], kb, by first | rfl | simp, by first | rfl | (rw [List.length_append, HLEN.out]; rfl), HRE⟩
          case measure => rw [HAT4.out, hAT.out]; omega
    · have hpe : p = fs.length := by omega
      obtain ⟨F, hF⟩ : ∃ F, f = F + 1 := ⟨f - 1, by have := hre.out.fuel; omega⟩
      have HEQ : Hid (loose fs (fs.length + 1) 0 [] = some (L.map D.t) ∧ S = spots fs (fs.length + 1) 0 []) := Lib.hid ⟨by rw [hre.out.eq, hF, loose_end (by omega)]; simp, by rw [hre.out.sp, hF, spots_end (by omega)]; simp⟩
      obtain ⟨B5, d5, e5, q1, q2, -⟩ := own_parts hre.out.ac
      injection e5 with e4 e6 e5
      subst e4
      subst e5
      clear e6
      have HLEN := Lib.hid hlen
      have hents : Ents wr (fun k => w.heap.size ≤ k ∧ k < wr.heap.size) A5 c5 L := ⟨(LiesP.of_own hre.out.ac).later (fun _ _ => rfl) fun k hk => ⟨hk.1, hk.2.1⟩, q1, q2, fun d hd => (hre.out.ok d hd).mono fun k hk => ⟨hk.1.1, hk.1.2.1⟩⟩
      have HEN := Lib.hid hents
      clear hents hF hrd hlen
      go_wp2_with fail
      go_returns
      exact ⟨hre.out.below, .inr ⟨A5, A7, c5, c7, L, S, HEQ.out.1, HEQ.out.2, hbig, HLEN.out, rfl, HEN.out, hre.out.st⟩⟩
end Go.Proofs.Ytaopbgildkjpcaa.Bk
