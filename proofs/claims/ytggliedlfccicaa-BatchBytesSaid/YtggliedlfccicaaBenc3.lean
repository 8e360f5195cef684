/- What Bytes of package batch answers. -/
import Derived.Test.YtggliedlfccicaaBenc2
namespace Go.Proofs.Ytggliedlfccicaa.Bt
set_option linter.unusedVariables false
set_option linter.unusedSimpArgs false
open Go.RowKit Lift Ik Vn

/-- Bytes that the call made, and an error. -/
def Coded (w : World) (bs : List Nat) (er : Nat) (e : Ending) (w' : World) : Prop :=
  ∃ v, e = .returned (.tuple #[v, .int .i64 (er : Int)]) ∧ w'.ownsRow w.heap.size 5 1 v bs.length (bs.map vb) ∧ Below w.heap.size w w'
theorem coded_bad {w w' : World} {s er : Nat} {l : List O} (h : bytesE s l = er) (h0 : er ≠ 0) (hb : Below w.heap.size w w') : Coded w (bytesB s l) (bytesE s l) (.returned (.tuple #[.slice none 0 0, .int .i64 (er : Int)])) w' := by
  refine ⟨_, by rw [h], ?_, hb⟩
  rw [show bytesB s l = [] by unfold bytesB; rw [if_neg (by omega)]]
  exact World.ownsRow_nil _ _ _ _
def bodyL (L : List D) : List Nat := (opsO L).flatMap encO
theorem body_take {L : List D} {j : Nat} {d : D} (h : L[j]? = some d) : bodyL (L.take (j + 1)) = bodyL (L.take j) ++ encO d.o := by
  rw [List.take_add_one, h]; simp [bodyL, opsO]
theorem body_len {L : List D} (h : ∀ d, d ∈ L → d.o.ok = true) : (bodyL L).length ≤ 4400 * L.length := by
  induction L with
  | nil => simp [bodyL, opsO]
  | cons d L ih =>
    have h1 := encO_len (h d (by simp))
    have h2 := ih fun e he => h e (by simp [he])
    simp only [bodyL, opsO, List.map_cons, List.flatMap_cons, List.length_append, List.length_cons] at h2 ⊢
    omega
theorem chk_zero {L : List D} (h : chk L = 0) : 1 ≤ L.length ∧ L.length ≤ 100 ∧ ∀ d, d ∈ L → d.o.ok = true := by
  rw [chk_o] at h
  obtain ⟨h1, h2, h3⟩ := chk_parts h
  simp only [opsO, List.length_map] at h1 h2
  exact ⟨h1, h2, fun d hd => List.all_eq_true.1 h3 _ (List.mem_map.2 ⟨d, hd, rfl⟩)⟩
theorem chk_three (L : List D) : chk L = 0 ∨ chk L = 1 ∨ chk L = 3 := by unfold chk; split; simp; split <;> simp

set_option maxRecDepth 100000 in
set_option maxHeartbeats 800000 in
theorem bytes_any (s : Nat) (A : Option Addr) (c : Nat) (L : List D) (w : World) (hs : s < 18446744073709551616) (h : Ops w w.heap.size A c L) :
    Calls Try.prog 10 #[.agg #[.int .u64 (s : Int), .slice A L.length c]] w (Coded w (bytesB s (opsO L)) (bytesE s (opsO L))) := by
  have HO := Lib.hid h
  have HC := Lib.hid h.len
  have HM := Lib.hid h.cap
  have HCH := Lib.hid (chk_o L)
  clear h
  have hb0 := Joins.below_alloc1 w (.cells #[.int .u64 (s : Int), .slice A L.length c] 25)
  have b0 := Box.new w 25 [.int .u64 (s : Int), .slice A L.length c]
  have hz0 : (w.alloc (.cells #[.int .u64 (s : Int), .slice A L.length c] 25)).heap.size = w.heap.size + 1 := by simp
  have hc := check_any A c L (w.alloc (.cells #[.int .u64 (s : Int), .slice A L.length c] 25)) (HO.out.next hb0)
  obtain ⟨p0, p1, _, _⟩ := b0.facts2
  go_enter Try.func10, Try.ntmps10
  go_wp2_with fail
  refine hc.mono ?_; rintro e W1 ⟨rfl, hb1⟩
  have HB1 := Lib.hid (hb0.trans (hb1.mono hb0.size))
  have b1 := b0.below hb1 (by omega)
  have B1 := Lib.hid b1
  clear p0 p1
  obtain ⟨p0, p1, _, _⟩ := b1.facts2
  have HG : Hid (w.heap.size < W1.heap.size) := Lib.hid (by have := hb1.size; omega)
  clear hb0 b0 hz0 hc hb1 b1
  rcases chk_three L with hk | hk | hk
  · have HK := Lib.hid hk
    have E0 := Lib.hid (show bytesE s (opsO L) = if fits s L.length = true then 0 else 1 by unfold bytesE; rw [← HCH.out, hk]; simp [opsO])
    obtain ⟨n1, n2, hok⟩ := chk_zero hk
    rw [hk]
    clear hk
    have HF := Lib.hid fun W => fits_any s L.length W hs ⟨n1, n2⟩
    go_wp2_with fail
    refine (HF.out W1).mono ?_; rintro e w' ⟨rfl, rfl⟩
    cases hf : fits s L.length
    · have E1 := Lib.hid (show bytesE s (opsO L) = 1 by rw [E0.out, hf]; rfl)
      clear hf
      go_wp2_with fail
      go_returns
      exact coded_bad E1.out (by decide) HB1.out
    · have E1 := Lib.hid (show bytesE s (opsO L) = 0 by rw [E0.out, hf]; rfl)
      have E2 := Lib.hid (show bytesB s (opsO L) = low s 8 ++ low L.length 4 ++ bodyL L by unfold bytesB; rw [if_pos E1.out]; unfold encB bodyL; simp [opsO])
      have HOK := Lib.hid hok
      clear hf hok
      have hnum := number_any W1.heap.size s 8 (.slice none 0 0) [] W1 (World.ownsRow_nil _ _ _ _) (Nat.le_refl _) (by simp) hs (by omega)
      have HN := Lib.hid hnum
      clear hnum
      go_wp2_with fail
      refine (show Calls Try.prog 21 #[.slice none 0 0, .int .u64 (s : Int), .int .i64 8] W1 _ from HN.out).mono ?_
      rintro e W2 ⟨v2, rfl, hown2, hb2⟩
      rw [List.nil_append] at hown2
      have hl8 := low_length s 8
      have HN2 := Lib.hid (number_any W1.heap.size L.length 4 v2 (low s 8) W2 hown2 hb2.size (by omega) (by omega) (by omega))
      have HB2 := Lib.hid hb2
      have b2 := B1.out.below hb2 HG.out
      clear p0 p1
      obtain ⟨p0, p1, _, _⟩ := b2.facts2
      clear hown2 hb2 b2 HN hl8
      go_wp2_with fail
      refine (show Calls Try.prog 21 #[v2, .int .u64 (L.length : Int), .int .i64 4] W2 _ from HN2.out).mono ?_
      rintro e W3 ⟨v3, rfl, hown3, hb3⟩
      have HB3 := Lib.hid (HB2.out.trans hb3)
      have b3 := B1.out.below HB3.out HG.out
      clear p0 p1
      obtain ⟨p0, p1, _, _⟩ := b3.facts2
      have hl12 : (low s 8 ++ low L.length 4).length = 12 := by simp [low_length]
      generalize low s 8 ++ low L.length 4 = H at hown3 hl12 E2
      have HO3 := Lib.hid hown3
      clear hown3 hb3 b3 HN2
      go_wp2_with fail
      clear p0 p1
      go_loopw [6, 33] (fun o i wr => ∃ j : Nat, j ≤ L.length ∧ i = .int .i64 j ∧ wr.ownsRow W1.heap.size 5 1 o (H ++ bodyL (L.take j)).length ((H ++ bodyL (L.take j)).map vb) ∧ Hid (Below W1.heap.size W1 wr)) (fun _ i _ => L.length + 1 - (intOf i).toNat)
      case atStart => exact ⟨0, by omega, rfl, by simpa [bodyL, opsO] using HO3.out, HB3⟩
      case round =>
        obtain ⟨j, hj, rfl, hown, hb⟩ := hrel
        by_cases hlt : j < L.length
        · obtain ⟨d, hd⟩ : ∃ d, L[j]? = some d := ⟨_, List.getElem?_eq_getElem hlt⟩
          have hbw := HB1.out.trans (hb.out.mono HB1.out.size)
          have ho2 := HO.out.below hbw
          obtain ⟨ad, p, hA, hz, hp, hpb, p0, p1, p2⟩ := ho2.place hd
          subst hA
          clear hz hpb
          have hld := load_op p0 p1 p2
          have hdo := ho2.ok d (List.mem_of_getElem? hd)
          have hblen := body_len (L := L.take j) fun x hx => HOK.out x (List.mem_of_mem_take hx)
          rw [List.length_take, Nat.min_eq_left hj] at hblen
          have hba := Joins.below_alloc1 wr (.cells d.cells.toArray 46)
          have hop := op_any W1.heap.size _ d _ (wr.alloc (.cells d.cells.toArray 46)) (hown.alloc _) ((hdo.later (R' := (· < W1.heap.size)) (fun k hk => (hba.block k (Nat.lt_of_lt_of_le hk (Nat.le_trans HB1.out.size hb.out.size)))) fun k hk => Nat.lt_of_lt_of_le hk HB1.out.size)) (HOK.out d (List.mem_of_getElem? hd)) (by have := hb.out.size; simp; omega) (by rw [List.length_append]; omega)
          have HD := Lib.hid (body_take hd)
          have HOP := Lib.hid hop
          have HOW := Lib.hid hown
          have HBA := Lib.hid (hb.out.trans (hba.mono hb.out.size))
          clear hd hbw ho2 hdo hblen hba hop hown
          go_wp2_with fail
          refine (show Calls Try.prog 22 #[_, .agg #[.int .i64 d.kind, .slice d.ka d.key.length d.kc, .slice d.va d.val.length d.vc]] (wr.alloc (.cells #[.int .i64 d.kind, .slice d.ka d.key.length d.kc, .slice d.va d.val.length d.vc] 46)) _ from HOP.out).mono ?_
          rintro e W4 ⟨v4, rfl, hown4, hon4⟩
          rw [List.append_assoc, ← HD.out] at hown4
          have HB4 := Lib.hid (HBA.out.trans (hon4.below (HOW.out.alloc _) HBA.out.size))
          have HO4 := Lib.hid hown4
          clear hown4 hon4 HOP hld p0 p1 p2
          go_wp2_with fail
          go_roundw
          case rel => exact ⟨j + 1, by omega, by go_num, HO4.out, HB4⟩
          case measure => simp [intOf]; omega
        · obtain rfl : j = L.length := by omega
          have HOW := Lib.hid hown
          clear hown
          go_wp2_with fail
          go_returns
          refine ⟨_, by rw [E1.out]; rfl, ?_, HB1.out.trans (hb.out.mono HB1.out.size)⟩
          have := HOW.out
          rw [List.take_length] at this
          rw [E2.out]
          exact Joins.ownsRow_le this (Nat.le_of_lt HG.out)
  · have E1 := Lib.hid (show bytesE s (opsO L) = 1 by unfold bytesE; rw [← HCH.out, hk]; rfl)
    rw [hk]
    clear hk
    go_wp2_with fail
    go_returns
    exact coded_bad E1.out (by decide) HB1.out
  · have E1 := Lib.hid (show bytesE s (opsO L) = 3 by unfold bytesE; rw [← HCH.out, hk]; rfl)
    rw [hk]
    clear hk
    go_wp2_with fail
    go_returns
    exact coded_bad E1.out (by decide) HB1.out
end Go.Proofs.Ytggliedlfccicaa.Bt
