/- What Read of package batch answers. -/
import Derived.Test.YtggliedlfccicaaBrd5
namespace Go.Proofs.Ytggliedlfccicaa.Bt
set_option linter.unusedVariables false
set_option linter.unusedSimpArgs false
open Go.RowKit Lift Ik Vn

/-- What is answered of bytes. -/
def Readed (w : World) (bs : List Nat) (e : Ending) (w' : World) : Prop :=
  ∃ (A2 : Option Addr) (c2 : Nat) (L : List D), e = .returned (.tuple #[.agg #[.int .u64 ((readB bs).2.1 : Int), .slice A2 L.length c2], .int .i64 ((readB bs).1 : Int)]) ∧ opsO L = (readB bs).2.2 ∧ Ops w' w'.heap.size A2 c2 L ∧ Below w.heap.size w w'
theorem readed_bad {w w' : World} {bs : List Nat} {er : Nat} (h : readB bs = (er, 0, [])) (hb : Below w.heap.size w w') : Readed w bs (.returned (.tuple #[.agg #[.int .u64 0, .slice none 0 0], .int .i64 (er : Int)])) w' :=
  ⟨none, 0, [], by rw [h]; rfl, by rw [h]; rfl, Ops.zero _ _, hb⟩
theorem opsL_three : ∀ (n : Nat) (bs : List Nat) (p : Nat) (acc : List O), (opsL n bs p acc).1 = 0 ∨ (opsL n bs p acc).1 = 2 ∨ (opsL n bs p acc).1 = 4 := by
  intro n
  induction n with
  | zero => intro bs p acc; exact .inl rfl
  | succ n ih =>
    intro bs p acc
    simp only [opsL]
    split
    · exact opL_three _
    · exact ih _ _ _
theorem batch_three (bs : List Nat) : (batchL bs).1 = 0 ∨ batchL bs = (2, 0, [], 0) ∨ batchL bs = (4, 0, [], 0) := by
  have h1 : (headL bs).1 = 0 ∨ (headL bs).1 = 2 ∨ (headL bs).1 = 4 := by unfold headL; split; simp; split <;> simp
  have h2 := opsL_three (headN bs) bs 12 []
  unfold batchL
  split
  · rcases h1 with h | h | h
    · contradiction
    · rw [h]; simp
    · rw [h]; simp
  · split
    · rcases h2 with h | h | h
      · contradiction
      · rw [h]; simp
      · rw [h]; simp
    · exact .inl rfl

set_option maxRecDepth 100000 in
set_option maxHeartbeats 400000 in
theorem read_short (A : Option Addr) (c : Nat) (bs : List Nat) (w : World) (hn : bs.length < 12) :
    Calls Try.prog 17 #[.slice A bs.length c] w (Readed w bs) := by
  have E := Lib.hid (show readB bs = (4, 0, []) by unfold readB; rw [if_pos hn])
  have hb0 := Joins.below_alloc2 w (.cells #[.int .u64 0, .slice none 0 0] 25) (.cells #[.slice A bs.length c, .int .i64 0] 56)
  have b0 : Box ((w.alloc (.cells #[.int .u64 0, .slice none 0 0] 25)).alloc (.cells #[.slice A bs.length c, .int .i64 0] 56)) w.heap.size 25 [.int .u64 0, .slice none 0 0] := (Box.new w 25 [.int .u64 0, .slice none 0 0]).alloc _
  have b1 : Rd ((w.alloc (.cells #[.int .u64 0, .slice none 0 0] 25)).alloc (.cells #[.slice A bs.length c, .int .i64 0] 56)) (w.heap.size + 1) A bs.length c 0 := by
    have := Box.new (w.alloc (.cells #[.int .u64 0, .slice none 0 0] 25)) 56 [.slice A bs.length c, .int .i64 0]
    rw [show (w.alloc (.cells #[.int .u64 0, .slice none 0 0] 25)).heap.size = w.heap.size + 1 by simp] at this
    exact this
  have hz0 : ((w.alloc (.cells #[.int .u64 0, .slice none 0 0] 25)).alloc (.cells #[.slice A bs.length c, .int .i64 0] 56)).heap.size = w.heap.size + 2 := by simp
  have hp := batch_short (w.heap.size + 1) A bs.length c _ b1 hn
  go_enter Try.func17, Try.ntmps17
  go_wp2_with fail
  generalize (w.alloc (.cells #[.int .u64 0, .slice none 0 0] 25)).alloc (.cells #[.slice A bs.length c, .int .i64 0] 56) = w0 at hb0 b0 b1 hz0 hp ⊢
  refine hp.mono ?_
  rintro e W1 ⟨rfl, hb1⟩
  have hb2 := hb0.trans (hb1.mono hb0.size)
  have hz1 := hb1.size
  have b0 := b0.below hb1 (by omega)
  have hba := Joins.below_alloc1 W1 (.cells #[.int .u64 0, .slice none 0 0] 25)
  have b2 := b0.below hba (by omega)
  obtain ⟨p0, p1, f0, f1⟩ := b2.facts2
  have HB := Lib.hid (hb2.trans (hba.mono hb2.size))
  have B2 := Lib.hid b2
  clear hb0 b0 b1 hz0 hp hb1 hb2 hz1 hba b2
  go_wp2_with fail
  obtain ⟨hkx, hbx, _⟩ := batch_end (g := w.heap.size + 1) (.int .u64 0) (.slice none 0 0) (below_keep HB.out) rfl B2.out _ rfl
  refine bodyPost_ret (results_box rfl Try.underlying25 (by kernel_rfl) _ rfl hbx) rfl ?_
  exact readed_bad E.out (hkx.below (Nat.le_refl _) fun k hk => by omega)

set_option maxRecDepth 100000 in
set_option maxHeartbeats 800000 in
theorem read_long (ad : Addr) (c : Nat) (bs : List Nat) (w : World) (hl : Lies w w.heap.size (some ad) (bs.map vb)) (hc : bs.length ≤ c) (hm : c ≤ maxLen) (h8 : ∀ x, x ∈ bs → x < 256) (hs : bs.length ≤ 1000000) (h12 : 12 ≤ bs.length) :
    Calls Try.prog 17 #[.slice (some ad) bs.length c] w (Readed w bs) := by
  have E0 := Lib.hid (read_batch bs)
  have hb0 := Joins.below_alloc2 w (.cells #[.int .u64 0, .slice none 0 0] 25) (.cells #[.slice (some ad) bs.length c, .int .i64 0] 56)
  have b0 : Box ((w.alloc (.cells #[.int .u64 0, .slice none 0 0] 25)).alloc (.cells #[.slice (some ad) bs.length c, .int .i64 0] 56)) w.heap.size 25 [.int .u64 0, .slice none 0 0] := (Box.new w 25 [.int .u64 0, .slice none 0 0]).alloc _
  have b1 : Rd ((w.alloc (.cells #[.int .u64 0, .slice none 0 0] 25)).alloc (.cells #[.slice (some ad) bs.length c, .int .i64 0] 56)) (w.heap.size + 1) (some ad) bs.length c 0 := by
    have := Box.new (w.alloc (.cells #[.int .u64 0, .slice none 0 0] 25)) 56 [.slice (some ad) bs.length c, .int .i64 0]
    rw [show (w.alloc (.cells #[.int .u64 0, .slice none 0 0] 25)).heap.size = w.heap.size + 1 by simp] at this
    exact this
  have hz0 : ((w.alloc (.cells #[.int .u64 0, .slice none 0 0] 25)).alloc (.cells #[.slice (some ad) bs.length c, .int .i64 0] 56)).heap.size = w.heap.size + 2 := by simp
  have hrd : Rdr ((w.alloc (.cells #[.int .u64 0, .slice none 0 0] 25)).alloc (.cells #[.slice (some ad) bs.length c, .int .i64 0] 56)) (w.heap.size + 1) ad c bs 0 := ⟨b1, (hl.below hb0).up (by omega), hc, hm, h8, hs, Nat.zero_le _⟩
  have hp := batch_rd (w.heap.size + 1) ad c bs _ hrd h12
  clear hl hc hm h8 hrd
  go_enter Try.func17, Try.ntmps17
  go_wp2_with fail
  generalize (w.alloc (.cells #[.int .u64 0, .slice none 0 0] 25)).alloc (.cells #[.slice (some ad) bs.length c, .int .i64 0] 56) = w0 at hb0 b0 b1 hz0 hp ⊢
  refine hp.mono ?_
  rintro e W1 ⟨A2, c2, L, q, rfl, hL, hO, hk1, hr1, hq⟩
  have hb1 := hk1.below (B := w.heap.size + 1) (by omega) (fun k hk => by omega)
  have hb2 := hb0.trans (hb1.mono (Nat.le_succ _))
  have hz1 := hb1.size
  have b0 := b0.below hb1 (by omega)
  have hq1 := hr1.le
  generalize hs0 : ((batchL bs).2.1 : Int) = s at *
  have hba := Joins.below_alloc1 W1 (.cells #[.int .u64 s, .slice A2 L.length c2] 25)
  have b2 := b0.below hba (by omega)
  have b5 := Box.new W1 25 [.int .u64 s, .slice A2 L.length c2]
  have r2 := hr1.below hba (by omega)
  obtain ⟨_, p3, _, _⟩ := r2.rd.facts2
  obtain ⟨p0, p1, f0, f1⟩ := b2.facts2
  obtain ⟨p4, p5, _, _⟩ := b5.facts2
  have HB := Lib.hid (hb2.trans (hba.mono hb2.size))
  have B2 := Lib.hid b2
  have HO := Lib.hid (hO.later (w' := W1.alloc (.cells #[.int .u64 s, .slice A2 L.length c2] 25)) (R' := fun k => w.heap.size < k ∧ k < (W1.alloc (.cells #[.int .u64 s, .slice A2 L.length c2] 25)).heap.size) (fun k hk => hba.block k hk.2) fun k hk => ⟨by omega, Nat.lt_of_lt_of_le hk.2 hba.size⟩)
  have HL := Lib.hid hL
  have HQ := Lib.hid hq
  have HS := Lib.hid hs0
  have HZ := Lib.hid (show w.heap.size + 2 ≤ W1.heap.size by omega)
  clear hb0 b0 b1 hz0 hp hb1 hb2 hz1 hba b2 b5 r2 hO hL hk1 hr1 hq hs0
  rcases batch_three bs with ht | ht | ht
  · have HT := Lib.hid ht
    rw [ht]
    obtain rfl := HQ.out ht
    clear ht HQ
    have E1 := Lib.hid (show readB bs = if (batchL bs).2.2.2 ≠ bs.length then (2, 0, []) else (0, (batchL bs).2.1, (batchL bs).2.2.1) by rw [E0.out, if_neg (by rw [HT.out]; simp)])
    generalize (batchL bs).2.2.2 = q at *
    by_cases hqn : q < bs.length
    · have E2 := Lib.hid (show readB bs = (2, 0, []) by rw [E1.out, if_pos (by omega)])
      go_wp2_with fail
      obtain ⟨hkx, hbx, _⟩ := batch_end (g := w.heap.size + 1) (.int .u64 0) (.slice none 0 0) (below_keep HB.out) rfl B2.out _ rfl
      refine bodyPost_ret (results_box rfl Try.underlying25 (by kernel_rfl) _ rfl hbx) rfl ?_
      exact readed_bad E2.out (hkx.below (Nat.le_refl _) fun k hk => by omega)
    · have E2 := Lib.hid (show readB bs = (0, (batchL bs).2.1, (batchL bs).2.2.1) by rw [E1.out, if_neg (by omega)])
      go_wp2_with fail
      obtain ⟨hkx, hbx, hk9⟩ := batch_end (g := w.heap.size + 1) (.int .u64 s) (.slice A2 L.length c2) (below_keep HB.out) rfl B2.out _ rfl
      refine bodyPost_ret (results_box rfl Try.underlying25 (by kernel_rfl) _ rfl hbx) rfl ?_
      have ho9 := HO.out.later (R' := fun k => k < ((W1.alloc (.cells #[.int .u64 s, .slice A2 L.length c2] 25)).setCell ⟨w.heap.size, 0, none⟩ (.int .u64 s) |>.setCell ⟨w.heap.size, 1, none⟩ (.slice A2 L.length c2)).heap.size) (fun k hk => hk9.block k hk.2 (by omega)) fun k hk => Nat.lt_of_lt_of_le hk.2 hk9.size
      exact ⟨A2, c2, L, by rw [E2.out, ← HS.out]; rfl, by rw [E2.out, HL.out], ho9.ops fun _ h => h, hkx.below (Nat.le_refl _) fun k hk => by omega⟩
  · have E2 := Lib.hid (show readB bs = (2, 0, []) by rw [E0.out, ht]; rfl)
    rw [ht]
    clear ht HQ
    go_wp2_with fail
    obtain ⟨hkx, hbx, _⟩ := batch_end (g := w.heap.size + 1) (.int .u64 0) (.slice none 0 0) (below_keep HB.out) rfl B2.out _ rfl
    refine bodyPost_ret (results_box rfl Try.underlying25 (by kernel_rfl) _ rfl hbx) rfl ?_
    exact readed_bad E2.out (hkx.below (Nat.le_refl _) fun k hk => by omega)
  · have E2 := Lib.hid (show readB bs = (4, 0, []) by rw [E0.out, ht]; rfl)
    rw [ht]
    clear ht HQ
    go_wp2_with fail
    obtain ⟨hkx, hbx, _⟩ := batch_end (g := w.heap.size + 1) (.int .u64 0) (.slice none 0 0) (below_keep HB.out) rfl B2.out _ rfl
    refine bodyPost_ret (results_box rfl Try.underlying25 (by kernel_rfl) _ rfl hbx) rfl ?_
    exact readed_bad E2.out (hkx.below (Nat.le_refl _) fun k hk => by omega)

theorem read_all (A : Option Addr) (c : Nat) (bs : List Nat) (w : World) (hl : Lies w w.heap.size A (bs.map vb)) (hc : bs.length ≤ c) (hm : c ≤ maxLen) (h8 : ∀ x, x ∈ bs → x < 256) (hs : bs.length ≤ 1000000) :
    Calls Try.prog 17 #[.slice A bs.length c] w (Readed w bs) := by
  by_cases h : bs.length < 12
  · exact read_short A c bs w h
  · obtain ⟨ad, rfl, _⟩ := hl.place (by simp; omega)
    exact read_long ad c bs w hl hc hm h8 hs (by omega)
end Go.Proofs.Ytggliedlfccicaa.Bt
