/- What the laws of this seat are proved from, part 2 of 5: texts laid one behind the other. -/
import Derived.Test.YtnbknihaefkllaaGreatDoorM1
import Derived.WalkKit
import Derived.Test.YtnbknihaefkllaaGreatDoorRows
import Derived.Laws.BitsAllLaws
import Derived.Laws.BitsLemmas
import Derived.WalkLawsBesides
import Derived.WalkSpells
import Derived.Deep.QuietTactic
import Derived.BigQuiet
import Derived.RowKit3
import Derived.LoopTactic
import Derived.Outline
import Derived.Lib.MinMax
import Derived.Laws.CopyOwn
import Derived.Laws.MakeOwn
import Derived.Laws.Rows
import Derived.OwnWalk
import Derived.Laws.Cover3
import Derived.Deep.Slices
import Derived.Scope
import Derived.WalkMore
import Derived.Lib.SlBytesConst
import Derived.Maps.OwnSet
import Derived.Maps.RangeWalk
import Derived.Lib.ConvBytes
/- An operation, appended to a slice of the call's own. -/
namespace Go.Proofs.YtnbknihaefkllaaGreatDoor.Bt
set_option linter.unusedVariables false
set_option linter.unusedSimpArgs false
open Go.RowKit Lift Ik Vn

theorem encO_del (ka va : Option Addr) (kc vc : Nat) (key : List Nat) : encO (D.o ⟨0, ka, kc, key, va, vc, []⟩) = 0 :: text key := by simp [encO, D.o]
theorem encO_put (ka va : Option Addr) (kc vc : Nat) (key val : List Nat) : encO (D.o ⟨1, ka, kc, key, va, vc, val⟩) = 1 :: (text key ++ text val) := by simp [encO, D.o]
theorem text_len (t : List Nat) : (text t).length ≤ 10 + t.length := by unfold text; rw [List.length_append]; have := (enc_len t.length).2; omega
theorem encO_len {o : O} (h : o.ok = true) : (encO o).length ≤ 4400 := by
  obtain ⟨h1, h2, h3, h4⟩ := ok_parts h
  have t1 := text_len o.key
  have t2 := text_len o.val
  unfold encO
  split <;> simp <;> omega

set_option maxRecDepth 100000 in
set_option maxHeartbeats 400000 in
theorem op_del (base : Nat) (v : Value) (ka va : Option Addr) (kc vc : Nat) (key xs : List Nat) (w : World) (h : w.ownsRow base 5 1 v xs.length (xs.map vb)) (hl : Lies w base ka (key.map vb)) (hk : key.length ≤ 256)
    (hbase : base ≤ w.heap.size) (hm : xs.length ≤ 130000000000000) : Calls Tryz.prog 52 #[v, .agg #[.int .i64 0, .slice ka key.length kc, .slice va 0 vc]] w (Grew base v w (xs ++ 0 :: text key)) := by
  have HO := Lib.hid h
  have HL := Lib.hid hl
  have HZ := Lib.hid hbase
  
  clear h hl hbase
  have hb0 := Joins.below_alloc1 w (.cells #[.int .i64 0, .slice ka key.length kc, .slice va 0 vc] 51)
  have b0 := Box.new w 51 [.int .i64 0, .slice ka key.length kc, .slice va 0 vc]
  have hz0 : (w.alloc (.cells #[.int .i64 0, .slice ka key.length kc, .slice va 0 vc] 51)).heap.size = w.heap.size + 1 := by simp
  have o0 := HO.out.alloc (.cells #[.int .i64 0, .slice ka key.length kc, .slice va 0 vc] 51)
  have hcell : Lies ((w.alloc (.cells #[.int .i64 0, .slice ka key.length kc, .slice va 0 vc] 51)).alloc (.cells #[.int .u8 0] 5)) (w.heap.size + 2) (some ⟨w.heap.size + 1, 0, none⟩) [.int .u8 0] := by
    have := lies_block (B := w.heap.size + 2) (heap_alloc_new (w.alloc (.cells #[.int .i64 0, .slice ka key.length kc, .slice va 0 vc] 51)) (.cells #[.int .u8 0] 5)) (by omega)
    rw [hz0] at this
    exact this
  obtain ⟨v1, W1, hr1, hown1, hon1⟩ := run_append_onto (P := Tryz.prog) (m := 1) (c := 1) 24 24 5 (.int .u8 0) 1 1 Tryz.underlying24 (by kernel_rfl) rfl (by decide)
    (fun u hu => by simp at hu; subst hu; rfl) (o0.alloc (.cells #[.int .u8 0] 5)) hcell rfl (by unfold maxLen; omega) (by omega) (by have := HZ.out; simp; omega)
  have h1 := Onto.pre (Joins.below_alloc2 w (.cells #[.int .i64 0, .slice ka key.length kc, .slice va 0 vc] 51) (.cells #[.int .u8 0] 5)) hon1
  have b1 := (b0.alloc (.cells #[.int .u8 0] 5)).keep hon1.keep (fun hk2 => by have := (HO.out.lt _ hk2).2; omega)
  have hbw := h1.below HO.out HZ.out
  rw [show xs.map vb ++ [Value.int .u8 0] = (xs ++ [0]).map vb by simp] at hown1
  have hown1 : W1.ownsRow base 5 1 v1 (xs ++ [0]).length ((xs ++ [0]).map vb) := by rw [List.length_append]; exact hown1
  have ht := text_any base kc v1 ka (xs ++ [0]) key W1 hown1 (HL.out.below hbw) (Nat.le_trans HZ.out hbw.size) (by simp; omega) (by omega)
  have HT := Lib.hid ht
  have H1 := Lib.hid h1
  have HR1 := Lib.hid hr1
  have HO1 := Lib.hid hown1
  have B1 := Lib.hid b1
  obtain ⟨p0, p1, p2, _, _, _⟩ := b1.facts3
  clear hb0 b0 hz0 o0 hcell hr1 hown1 hon1 h1 b1 hbw ht
  go_enter Tryz.func52, Tryz.ntmps52
  go_wp2_with (at_builtin; refine wpList_append_run rfl _ _ 24 rfl rfl rfl HR1.out ?_)
  refine HT.out.mono ?_; rintro e W2 ⟨v2, rfl, hown2, hon2⟩
  have b2 := B1.out.keep hon2.keep (own_apart HO1.out B1.out (by decide))
  have H2 := Lib.hid (H1.out.trans hon2)
  have HO2 := Lib.hid hown2
  have B2 := Lib.hid b2
  clear p0 p1 p2 hown2 hon2 HT
  obtain ⟨p0, p1, p2, _, _, _⟩ := b2.facts3
  clear b2
  go_wp2_with fail
  go_ret
  refine ⟨_, rfl, ?_, H2.out⟩
  rw [show xs ++ 0 :: text key = xs ++ [0] ++ text key by simp]
  exact HO2.out

set_option maxRecDepth 100000 in
set_option maxHeartbeats 400000 in
theorem op_put (base : Nat) (v : Value) (ka va : Option Addr) (kc vc : Nat) (key val xs : List Nat) (w : World) (h : w.ownsRow base 5 1 v xs.length (xs.map vb)) (hl : Lies w base ka (key.map vb)) (hk : key.length ≤ 256)
    (hl2 : Lies w base va (val.map vb)) (hv : val.length ≤ 4096) (hbase : base ≤ w.heap.size) (hm : xs.length ≤ 130000000000000) : Calls Tryz.prog 52 #[v, .agg #[.int .i64 1, .slice ka key.length kc, .slice va val.length vc]] w (Grew base v w (xs ++ 1 :: (text key ++ text val))) := by
  have HO := Lib.hid h
  have HL := Lib.hid hl
  have HZ := Lib.hid hbase
  have HL2 := Lib.hid hl2
  clear h hl hbase hl2
  have hb0 := Joins.below_alloc1 w (.cells #[.int .i64 1, .slice ka key.length kc, .slice va val.length vc] 51)
  have b0 := Box.new w 51 [.int .i64 1, .slice ka key.length kc, .slice va val.length vc]
  have hz0 : (w.alloc (.cells #[.int .i64 1, .slice ka key.length kc, .slice va val.length vc] 51)).heap.size = w.heap.size + 1 := by simp
  have o0 := HO.out.alloc (.cells #[.int .i64 1, .slice ka key.length kc, .slice va val.length vc] 51)
  have hcell : Lies ((w.alloc (.cells #[.int .i64 1, .slice ka key.length kc, .slice va val.length vc] 51)).alloc (.cells #[.int .u8 1] 5)) (w.heap.size + 2) (some ⟨w.heap.size + 1, 0, none⟩) [.int .u8 1] := by
    have := lies_block (B := w.heap.size + 2) (heap_alloc_new (w.alloc (.cells #[.int .i64 1, .slice ka key.length kc, .slice va val.length vc] 51)) (.cells #[.int .u8 1] 5)) (by omega)
    rw [hz0] at this
    exact this
  obtain ⟨v1, W1, hr1, hown1, hon1⟩ := run_append_onto (P := Tryz.prog) (m := 1) (c := 1) 24 24 5 (.int .u8 0) 1 1 Tryz.underlying24 (by kernel_rfl) rfl (by decide)
    (fun u hu => by simp at hu; subst hu; rfl) (o0.alloc (.cells #[.int .u8 1] 5)) hcell rfl (by unfold maxLen; omega) (by omega) (by have := HZ.out; simp; omega)
  have h1 := Onto.pre (Joins.below_alloc2 w (.cells #[.int .i64 1, .slice ka key.length kc, .slice va val.length vc] 51) (.cells #[.int .u8 1] 5)) hon1
  have b1 := (b0.alloc (.cells #[.int .u8 1] 5)).keep hon1.keep (fun hk2 => by have := (HO.out.lt _ hk2).2; omega)
  have hbw := h1.below HO.out HZ.out
  rw [show xs.map vb ++ [Value.int .u8 1] = (xs ++ [1]).map vb by simp] at hown1
  have hown1 : W1.ownsRow base 5 1 v1 (xs ++ [1]).length ((xs ++ [1]).map vb) := by rw [List.length_append]; exact hown1
  have ht := text_any base kc v1 ka (xs ++ [1]) key W1 hown1 (HL.out.below hbw) (Nat.le_trans HZ.out hbw.size) (by simp; omega) (by omega)
  have HT := Lib.hid ht
  have H1 := Lib.hid h1
  have HR1 := Lib.hid hr1
  have HO1 := Lib.hid hown1
  have B1 := Lib.hid b1
  obtain ⟨p0, p1, p2, _, _, _⟩ := b1.facts3
  clear hb0 b0 hz0 o0 hcell hr1 hown1 hon1 h1 b1 hbw ht
  go_enter Tryz.func52, Tryz.ntmps52
  go_wp2_with (at_builtin; refine wpList_append_run rfl _ _ 24 rfl rfl rfl HR1.out ?_)
  refine HT.out.mono ?_; rintro e W2 ⟨v2, rfl, hown2, hon2⟩
  have b2 := B1.out.keep hon2.keep (own_apart HO1.out B1.out (by decide))
  have H2 := Lib.hid (H1.out.trans hon2)
  have HO2 := Lib.hid hown2
  have B2 := Lib.hid b2
  clear p0 p1 p2 hown2 hon2 HT
  obtain ⟨p0, p1, p2, _, _, _⟩ := b2.facts3
  clear b2
  have htk := text_len key
  have hbw2 := H2.out.below HO.out HZ.out
  have HT2 := Lib.hid (text_any base vc v2 va (xs ++ [1] ++ text key) val W2 HO2.out (HL2.out.below hbw2) (Nat.le_trans HZ.out hbw2.size) (by simp; omega) (by omega))
  clear hbw2
  go_wp2_with fail
  refine HT2.out.mono ?_; rintro e W3 ⟨v3, rfl, hown3, hon3⟩
  have H3 := Lib.hid (H2.out.trans hon3)
  have HO3 := Lib.hid hown3
  clear p0 p1 p2 hown3 hon3 HT2
  go_wp2_with fail
  go_ret
  refine ⟨_, rfl, ?_, H3.out⟩
  rw [show xs ++ 1 :: (text key ++ text val) = xs ++ [1] ++ text key ++ text val by simp]
  exact HO3.out

/-- What appendOp makes, of every valid operation. -/
theorem op_any (base : Nat) (v : Value) (d : D) (xs : List Nat) (w : World) (h : w.ownsRow base 5 1 v xs.length (xs.map vb)) (hd : d.Ok w (· < base)) (hv : d.o.ok = true) (hbase : base ≤ w.heap.size) (hm : xs.length ≤ 130000000000000) :
    Calls Tryz.prog 52 #[v, d.v] w (Grew base v w (xs ++ encO d.o)) := by
  obtain ⟨h1, h2, h3, h4⟩ := ok_parts hv
  have kl := hd.kl.lies (B := base) fun _ h => h
  have vl := hd.vl.lies (B := base) fun _ h => h
  obtain ⟨kind, ka, kc, key, va, vc, val⟩ := d
  simp only [D.o] at h1 h2 h3 h4 kl vl
  rcases h4 with ⟨rfl, rfl⟩ | rfl
  · rw [encO_del]
    exact op_del base v ka va kc vc key xs w h kl h2 hbase hm
  · rw [encO_put]
    exact op_put base v ka va kc vc key val xs w h kl h2 vl h3 hbase hm
end Go.Proofs.YtnbknihaefkllaaGreatDoor.Bt
/- What Bytes of package batch answers. -/
namespace Go.Proofs.YtnbknihaefkllaaGreatDoor.Bt
set_option linter.unusedVariables false
set_option linter.unusedSimpArgs false
open Go.RowKit Lift Ik Vn

/-- Bytes that the call made, and an error. -/
def Coded (w : World) (bs : List Nat) (er : Nat) (e : Ending) (w' : World) : Prop :=
  ∃ v, e = .returned (.tuple #[v, .int .i64 (er : Int)]) ∧ w'.ownsRow w.heap.size 5 1 v bs.length (bs.map vb) ∧ Below w.heap.size w w'
theorem coded_bad {w w' : World} {s er : Nat} {l : List O} (h : bytesE s l = er) (h0 : er ≠ 0) (hb : Below w.heap.size w w') : Coded w (bytesB s l) (bytesE s l) (.returned (.tuple #[.slice none 0 0, .int .i64 (er : Int)])) w' := by
  refine ⟨_, by rw [h], ?_, hb⟩
  rw [show bytesB s l = [] by unfold bytesB; rw [if_neg (by omega)]]
  exact World.ownsRow_nil _ _ _ _
def bodyL (L : List D) : List Nat := (opsO L).flatMap encO
theorem body_take {L : List D} {j : Nat} {d : D} (h : L[j]? = some d) : bodyL (L.take (j + 1)) = bodyL (L.take j) ++ encO d.o := by
  rw [List.take_add_one, h]; simp [bodyL, opsO]
theorem body_len {L : List D} (h : ∀ d, d ∈ L → d.o.ok = true) : (bodyL L).length ≤ 4400 * L.length := by
  induction L with
  | nil => simp [bodyL, opsO]
  | cons d L ih =>
    have h1 := encO_len (h d (by simp))
    have h2 := ih fun e he => h e (by simp [he])
    simp only [bodyL, opsO, List.map_cons, List.flatMap_cons, List.length_append, List.length_cons] at h2 ⊢
    omega
theorem chk_zero {L : List D} (h : chk L = 0) : 1 ≤ L.length ∧ L.length ≤ 100 ∧ ∀ d, d ∈ L → d.o.ok = true := by
  rw [chk_o] at h
  obtain ⟨h1, h2, h3⟩ := chk_parts h
  simp only [opsO, List.length_map] at h1 h2
  exact ⟨h1, h2, fun d hd => List.all_eq_true.1 h3 _ (List.mem_map.2 ⟨d, hd, rfl⟩)⟩
theorem chk_three (L : List D) : chk L = 0 ∨ chk L = 1 ∨ chk L = 3 := by unfold chk; split; simp; split <;> simp

set_option maxRecDepth 100000 in
set_option maxHeartbeats 800000 in
theorem bytes_any (s : Nat) (A : Option Addr) (c : Nat) (L : List D) (w : World) (hs : s < 18446744073709551616) (h : Ops w w.heap.size A c L) :
    Calls Tryz.prog 30 #[.agg #[.int .u64 (s : Int), .slice A L.length c]] w (Coded w (bytesB s (opsO L)) (bytesE s (opsO L))) := by
  have HO := Lib.hid h
  have HC := Lib.hid h.len
  have HM := Lib.hid h.cap
  have HCH := Lib.hid (chk_o L)
  clear h
  have hb0 := Joins.below_alloc1 w (.cells #[.int .u64 (s : Int), .slice A L.length c] 38)
  have b0 := Box.new w 38 [.int .u64 (s : Int), .slice A L.length c]
  have hz0 : (w.alloc (.cells #[.int .u64 (s : Int), .slice A L.length c] 38)).heap.size = w.heap.size + 1 := by simp
  have hc := check_any A c L (w.alloc (.cells #[.int .u64 (s : Int), .slice A L.length c] 38)) (HO.out.next hb0)
  obtain ⟨p0, p1, _, _⟩ := b0.facts2
  go_enter Tryz.func30, Tryz.ntmps30
  go_wp2_with fail
  refine hc.mono ?_; rintro e W1 ⟨rfl, hb1⟩
  have HB1 := Lib.hid (hb0.trans (hb1.mono hb0.size))
  have b1 := b0.below hb1 (by omega)
  have B1 := Lib.hid b1
  clear p0 p1
  obtain ⟨p0, p1, _, _⟩ := b1.facts2
  have HG : Hid (w.heap.size < W1.heap.size) := Lib.hid (by have := hb1.size; omega)
  clear hb0 b0 hz0 hc hb1 b1
  rcases chk_three L with hk | hk | hk
  · have HK := Lib.hid hk
    have E0 := Lib.hid (show bytesE s (opsO L) = if fits s L.length = true then 0 else 1 by unfold bytesE; rw [← HCH.out, hk]; simp [opsO])
    obtain ⟨n1, n2, hok⟩ := chk_zero hk
    rw [hk]
    clear hk
    have HF := Lib.hid fun W => fits_any s L.length W hs ⟨n1, n2⟩
    go_wp2_with fail
    refine (HF.out W1).mono ?_; rintro e w' ⟨rfl, rfl⟩
    cases hf : fits s L.length
    · have E1 := Lib.hid (show bytesE s (opsO L) = 1 by rw [E0.out, hf]; rfl)
      clear hf
      go_wp2_with fail
      go_returns
      exact coded_bad E1.out (by decide) HB1.out
    · have E1 := Lib.hid (show bytesE s (opsO L) = 0 by rw [E0.out, hf]; rfl)
      have E2 := Lib.hid (show bytesB s (opsO L) = low s 8 ++ low L.length 4 ++ bodyL L by unfold bytesB; rw [if_pos E1.out]; unfold encB bodyL; simp [opsO])
      have HOK := Lib.hid hok
      clear hf hok
      have hnum := number_any W1.heap.size s 8 (.slice none 0 0) [] W1 (World.ownsRow_nil _ _ _ _) (Nat.le_refl _) (by simp) hs (by omega)
      have HN := Lib.hid hnum
      clear hnum
      go_wp2_with fail
      refine (show Calls Tryz.prog 51 #[.slice none 0 0, .int .u64 (s : Int), .int .i64 8] W1 _ from HN.out).mono ?_
      rintro e W2 ⟨v2, rfl, hown2, hb2⟩
      rw [List.nil_append] at hown2
      have hl8 := low_length s 8
      have HN2 := Lib.hid (number_any W1.heap.size L.length 4 v2 (low s 8) W2 hown2 hb2.size (by omega) (by omega) (by omega))
      have HB2 := Lib.hid hb2
      have b2 := B1.out.below hb2 HG.out
      clear p0 p1
      obtain ⟨p0, p1, _, _⟩ := b2.facts2
      clear hown2 hb2 b2 HN hl8
      go_wp2_with fail
      refine (show Calls Tryz.prog 51 #[v2, .int .u64 (L.length : Int), .int .i64 4] W2 _ from HN2.out).mono ?_
      rintro e W3 ⟨v3, rfl, hown3, hb3⟩
      have HB3 := Lib.hid (HB2.out.trans hb3)
      have b3 := B1.out.below HB3.out HG.out
      clear p0 p1
      obtain ⟨p0, p1, _, _⟩ := b3.facts2
      have hl12 : (low s 8 ++ low L.length 4).length = 12 := by simp [low_length]
      generalize low s 8 ++ low L.length 4 = H at hown3 hl12 E2
      have HO3 := Lib.hid hown3
      clear hown3 hb3 b3 HN2
      go_wp2_with fail
      clear p0 p1
      go_loopw [6, 33] (fun o i wr => ∃ j : Nat, j ≤ L.length ∧ i = .int .i64 j ∧ wr.ownsRow W1.heap.size 5 1 o (H ++ bodyL (L.take j)).length ((H ++ bodyL (L.take j)).map vb) ∧ Hid (Below W1.heap.size W1 wr)) (fun _ i _ => L.length + 1 - (intOf i).toNat)
      case atStart => exact ⟨0, by omega, rfl, by simpa [bodyL, opsO] using HO3.out, HB3⟩
      case round =>
        obtain ⟨j, hj, rfl, hown, hb⟩ := hrel
        by_cases hlt : j < L.length
        · obtain ⟨d, hd⟩ : ∃ d, L[j]? = some d := ⟨_, List.getElem?_eq_getElem hlt⟩
          have hbw := HB1.out.trans (hb.out.mono HB1.out.size)
          have ho2 := HO.out.below hbw
          obtain ⟨ad, p, hA, hz, hp, hpb, p0, p1, p2⟩ := ho2.place hd
          subst hA
          clear hz hpb
          have hld := load_op p0 p1 p2
          have hdo := ho2.ok d (List.mem_of_getElem? hd)
          have hblen := body_len (L := L.take j) fun x hx => HOK.out x (List.mem_of_mem_take hx)
          rw [List.length_take, Nat.min_eq_left hj] at hblen
          have hba := Joins.below_alloc1 wr (.cells d.cells.toArray 51)
          have hop := op_any W1.heap.size _ d _ (wr.alloc (.cells d.cells.toArray 51)) (hown.alloc _) ((hdo.later (R' := (· < W1.heap.size)) (fun k hk => (hba.block k (Nat.lt_of_lt_of_le hk (Nat.le_trans HB1.out.size hb.out.size)))) fun k hk => Nat.lt_of_lt_of_le hk HB1.out.size)) (HOK.out d (List.mem_of_getElem? hd)) (by have := hb.out.size; simp; omega) (by rw [List.length_append]; omega)
          have HD := Lib.hid (body_take hd)
          have HOP := Lib.hid hop
          have HOW := Lib.hid hown
          have HBA := Lib.hid (hb.out.trans (hba.mono hb.out.size))
          clear hd hbw ho2 hdo hblen hba hop hown
          go_wp2_with fail
          refine (show Calls Tryz.prog 52 #[_, .agg #[.int .i64 d.kind, .slice d.ka d.key.length d.kc, .slice d.va d.val.length d.vc]] (wr.alloc (.cells #[.int .i64 d.kind, .slice d.ka d.key.length d.kc, .slice d.va d.val.length d.vc] 51)) _ from HOP.out).mono ?_
          rintro e W4 ⟨v4, rfl, hown4, hon4⟩
          rw [List.append_assoc, ← HD.out] at hown4
          have HB4 := Lib.hid (HBA.out.trans (hon4.below (HOW.out.alloc _) HBA.out.size))
          have HO4 := Lib.hid hown4
          clear hown4 hon4 HOP hld p0 p1 p2
          go_wp2_with fail
          go_roundw
          case rel => exact ⟨j + 1, by omega, by go_num, HO4.out, HB4⟩
          case measure => simp [intOf]; omega
        · obtain rfl : j = L.length := by omega
          have HOW := Lib.hid hown
          clear hown
          go_wp2_with fail
          go_returns
          refine ⟨_, by rw [E1.out]; rfl, ?_, HB1.out.trans (hb.out.mono HB1.out.size)⟩
          have := HOW.out
          rw [List.take_length] at this
          rw [E2.out]
          exact Joins.ownsRow_le this (Nat.le_of_lt HG.out)
  · have E1 := Lib.hid (show bytesE s (opsO L) = 1 by unfold bytesE; rw [← HCH.out, hk]; rfl)
    rw [hk]
    clear hk
    go_wp2_with fail
    go_returns
    exact coded_bad E1.out (by decide) HB1.out
  · have E1 := Lib.hid (show bytesE s (opsO L) = 3 by unfold bytesE; rw [← HCH.out, hk]; rfl)
    rw [hk]
    clear hk
    go_wp2_with fail
    go_returns
    exact coded_bad E1.out (by decide) HB1.out
end Go.Proofs.YtnbknihaefkllaaGreatDoor.Bt
/- Plain mathematics of the checksum: the step of division by the polynomial, eight of them, the register, and that all of it is linear and loses nothing. -/
namespace Go.Proofs.YtnbknihaefkllaaGreatDoor.Crc

/-- One step of the division. -/
def st (x : Nat) : Nat := if x % 2 = 1 then x / 2 ^^^ 2197175160 else x / 2
/-- n steps. -/
def sts : Nat → Nat → Nat
  | 0, x => x
  | n + 1, x => sts n (st x)
/-- What stands in the table at place x. -/
def ent (x : Nat) : Nat := sts 8 x
/-- The register behind one byte. -/
def turn (T : Nat → Nat) (r c : Nat) : Nat := r / 256 ^^^ T (r % 256 ^^^ c)
/-- The register behind bytes. -/
def reg (T : Nat → Nat) (r : Nat) (bs : List Nat) : Nat := bs.foldl (turn T) r
def crc (T : Nat → Nat) (bs : List Nat) : Nat := 4294967295 - reg T 4294967295 bs

theorem st_xor (x y : Nat) : st (x ^^^ y) = st x ^^^ st y := by
  have h1 : (x ^^^ y) / 2 = x / 2 ^^^ y / 2 := Nat.xor_div_two
  have h2 : (x ^^^ y) % 2 = (x + y) % 2 := by
    have h0 : (x ^^^ y).testBit 0 = (x.testBit 0 ^^ y.testBit 0) := Nat.testBit_xor ..
    simp only [Nat.testBit_zero] at h0
    rcases Nat.mod_two_eq_zero_or_one (x ^^^ y) with h | h <;> rcases Nat.mod_two_eq_zero_or_one x with hx | hx <;> rcases Nat.mod_two_eq_zero_or_one y with hy | hy <;> rw [h, hx, hy] at h0 <;> first | omega | (exfalso; revert h0; decide)
  unfold st
  rw [h1, h2]
  rcases Nat.mod_two_eq_zero_or_one x with hx | hx <;> rcases Nat.mod_two_eq_zero_or_one y with hy | hy
  · rw [if_neg (by omega), if_neg (by omega), if_neg (by omega)]
  · rw [if_pos (by omega), if_neg (by omega), if_pos (by omega), Nat.xor_assoc]
  · rw [if_pos (by omega), if_pos (by omega), if_neg (by omega), Nat.xor_assoc, Nat.xor_assoc, Nat.xor_comm (y / 2)]
  · rw [if_neg (by omega), if_pos (by omega), if_pos (by omega), Nat.xor_assoc, Nat.xor_comm (y / 2), ← Nat.xor_assoc 2197175160, Nat.xor_self, Nat.zero_xor]
theorem sts_xor (n x y : Nat) : sts n (x ^^^ y) = sts n x ^^^ sts n y := by
  induction n generalizing x y with
  | zero => rfl
  | succ n ih => simp only [sts]; rw [st_xor, ih]
theorem ent_xor (x y : Nat) : ent (x ^^^ y) = ent x ^^^ ent y := sts_xor 8 x y

theorem xor_lt {x y : Nat} (hx : x < 4294967296) (hy : y < 4294967296) : x ^^^ y < 4294967296 := Nat.xor_lt_two_pow (n := 32) hx hy
theorem xor_lt8 {x y : Nat} (hx : x < 256) (hy : y < 256) : x ^^^ y < 256 := Nat.xor_lt_two_pow (n := 8) hx hy
theorem st_lt {x : Nat} (h : x < 4294967296) : st x < 4294967296 := by
  unfold st
  split
  · exact xor_lt (by omega) (by decide)
  · omega
theorem sts_lt (n : Nat) {x : Nat} (h : x < 4294967296) : sts n x < 4294967296 := by
  induction n generalizing x with
  | zero => exact h
  | succ n ih => exact ih (st_lt h)
theorem ent_lt {x : Nat} (h : x < 4294967296) : ent x < 4294967296 := sts_lt 8 h

theorem xor_ne {x y : Nat} (h : x ^^^ y = 0) : x = y := by
  have : (x ^^^ y) ^^^ y = 0 ^^^ y := by rw [h]
  rwa [Nat.xor_assoc, Nat.xor_self, Nat.xor_zero, Nat.zero_xor] at this
theorem st_zero {x : Nat} (h : x < 4294967296) (h0 : st x = 0) : x = 0 := by
  unfold st at h0
  split at h0
  · have := xor_ne h0
    omega
  · omega
theorem sts_zero (n : Nat) {x : Nat} (h : x < 4294967296) (h0 : sts n x = 0) : x = 0 := by
  induction n generalizing x with
  | zero => exact h0
  | succ n ih => exact st_zero h (ih (st_lt h) h0)
theorem sts_even (n q : Nat) : sts n (q * 2 ^ n) = q := by
  induction n generalizing q with
  | zero => simp [sts]
  | succ n ih =>
    have e : st (q * 2 ^ (n + 1)) = q * 2 ^ n := by
      have h2 : q * 2 ^ (n + 1) = 2 * (q * 2 ^ n) := by rw [Nat.pow_succ, ← Nat.mul_assoc, Nat.mul_comm]
      unfold st
      rw [h2, if_neg (by omega)]
      omega
    simp only [sts]
    rw [e, ih]

theorem low_high (r : Nat) : r = (r / 256 * 2 ^ 8) ^^^ (r % 256) := by
  have h : r % 256 < 2 ^ 8 := Nat.mod_lt _ (by decide)
  have h1 : (r / 256) <<< 8 + r % 256 = (r / 256) <<< 8 ||| r % 256 := (Nat.shiftLeft_add_eq_or_of_lt h (r / 256))
  have h2 : (r / 256 * 2 ^ 8) &&& (r % 256) = 0 := by
    apply Nat.eq_of_testBit_eq
    intro i
    rw [Nat.testBit_and, Nat.zero_testBit, Nat.testBit_mul_two_pow]
    by_cases hi : 8 ≤ i
    · rw [Nat.testBit_lt_two_pow (x := r % 256) (Nat.lt_of_lt_of_le h (Nat.pow_le_pow_right (by decide) hi)), Bool.and_false]
    · simp [hi]
  have h3 : (r / 256 * 2 ^ 8) ^^^ (r % 256) = (r / 256 * 2 ^ 8) ||| (r % 256) := by
    apply Nat.eq_of_testBit_eq
    intro i
    have := congrArg (fun n => Nat.testBit n i) h2
    simp only [Nat.testBit_and, Nat.zero_testBit] at this
    rw [Nat.testBit_xor, Nat.testBit_or]
    revert this
    cases Nat.testBit (r / 256 * 2 ^ 8) i <;> cases Nat.testBit (r % 256) i <;> simp
  rw [h3, ← Nat.shiftLeft_eq, ← h1, Nat.shiftLeft_eq]
  omega

/-- One byte turns the register as eight steps turn both together. -/
theorem turn_ent (r c : Nat) : turn ent r c = ent (r ^^^ c) := by
  have h : r ^^^ c = (r / 256 * 2 ^ 8) ^^^ (r % 256 ^^^ c) := by
    conv => lhs; rw [low_high r]
    rw [Nat.xor_assoc]
  rw [h, ent_xor]
  unfold turn
  congr 1
  exact (sts_even 8 _).symm
theorem turn_lt {T : Nat → Nat} (hT : ∀ x, x < 256 → T x < 4294967296) {r c : Nat} (hr : r < 4294967296) (hc : c < 256) : turn T r c < 4294967296 :=
  xor_lt (by omega) (hT _ (xor_lt8 (Nat.mod_lt _ (by decide)) hc))
theorem reg_lt {T : Nat → Nat} (hT : ∀ x, x < 256 → T x < 4294967296) : ∀ (bs : List Nat) {r : Nat}, r < 4294967296 → (∀ c, c ∈ bs → c < 256) → reg T r bs < 4294967296 := by
  intro bs
  induction bs with
  | nil => intro r h _; exact h
  | cons c bs ih => intro r h hb; exact ih (turn_lt hT h (hb c (by simp))) (fun d hd => hb d (by simp [hd]))
theorem ent_ok : ∀ x, x < 256 → ent x < 4294967296 := fun _ h => ent_lt (by omega)
theorem reg_cons (T : Nat → Nat) (r c : Nat) (bs : List Nat) : reg T r (c :: bs) = reg T (turn T r c) bs := rfl
theorem reg_append (T : Nat → Nat) (r : Nat) (bs cs : List Nat) : reg T r (bs ++ cs) = reg T (reg T r bs) cs := List.foldl_append
theorem reg_snoc (T : Nat → Nat) (r c : Nat) (bs : List Nat) : reg T r (bs ++ [c]) = turn T (reg T r bs) c := reg_append T r bs [c]
theorem reg_congr {T U : Nat → Nat} (h : ∀ x, x < 256 → T x = U x) : ∀ (bs : List Nat) (r : Nat), (∀ c, c ∈ bs → c < 256) → reg T r bs = reg U r bs := by
  intro bs
  induction bs with
  | nil => intro r _; rfl
  | cons c bs ih =>
    intro r hb
    rw [reg_cons, reg_cons]
    have : turn T r c = turn U r c := by
      unfold turn
      rw [h _ (xor_lt8 (Nat.mod_lt _ (by decide)) (hb c (by simp)))]
    rw [this]
    exact ih _ (fun d hd => hb d (by simp [hd]))

/-- Three registers and three texts. -/
theorem three (a b c : Nat) (x y z : Nat) : (a ^^^ x) ^^^ (b ^^^ y) ^^^ (c ^^^ z) = (a ^^^ b ^^^ c) ^^^ (x ^^^ y ^^^ z) := by
  have lc : ∀ p q r : Nat, p ^^^ (q ^^^ r) = q ^^^ (p ^^^ r) := fun p q r => by rw [← Nat.xor_assoc, Nat.xor_comm p, Nat.xor_assoc]
  simp only [Nat.xor_assoc]
  congr 1
  rw [lc x b]
  congr 1
  rw [lc y c, lc x c]
/-- The bytes of three texts, xored. -/
def mix : List Nat → List Nat → List Nat → List Nat
  | a :: zs0, b :: bs, c :: cs => (a ^^^ b ^^^ c) :: mix zs0 bs cs
  | _, _, _ => []
theorem reg_mix : ∀ (zs0 bs cs : List Nat) (r s t : Nat), bs.length = zs0.length → cs.length = zs0.length → reg ent r zs0 ^^^ reg ent s bs ^^^ reg ent t cs = reg ent (r ^^^ s ^^^ t) (mix zs0 bs cs) := by
  intro zs0
  induction zs0 with
  | nil =>
    intro bs cs r s t h1 h2
    have e1 : bs = [] := List.eq_nil_of_length_eq_zero h1
    have e2 : cs = [] := List.eq_nil_of_length_eq_zero h2
    subst e1; subst e2; rfl
  | cons a zs0 ih =>
    intro bs cs r s t h1 h2
    rcases bs with _ | ⟨b, bs⟩
    · simp at h1
    rcases cs with _ | ⟨c, cs⟩
    · simp at h2
    simp only [reg_cons, mix]
    rw [ih _ _ _ _ _ (by simpa using h1) (by simpa using h2)]
    congr 1
    rw [turn_ent, turn_ent, turn_ent, turn_ent, ← ent_xor, ← ent_xor, three]

/-- One bit less or more: another register. -/
theorem ent_ne {x y : Nat} (hx : x < 4294967296) (hy : y < 4294967296) (h : x ≠ y) : ent x ≠ ent y := fun he => by
  have h0 : ent (x ^^^ y) = 0 := by rw [ent_xor, he, Nat.xor_self]
  exact h (xor_ne (sts_zero 8 (xor_lt hx hy) h0))
theorem reg_ne : ∀ (bs : List Nat) {r s : Nat}, r < 4294967296 → s < 4294967296 → (∀ c, c ∈ bs → c < 256) → r ≠ s → reg ent r bs ≠ reg ent s bs := by
  intro bs
  induction bs with
  | nil => intro r s _ _ _ h; exact h
  | cons c bs ih =>
    intro r s hr hs hb h
    have hc := hb c (by simp)
    rw [reg_cons, reg_cons]
    refine ih (turn_lt ent_ok hr hc) (turn_lt ent_ok hs hc) (fun d hd => hb d (by simp [hd])) ?_
    rw [turn_ent, turn_ent]
    refine ent_ne (xor_lt hr (by omega)) (xor_lt hs (by omega)) fun e => h ?_
    have : (r ^^^ c) ^^^ c = (s ^^^ c) ^^^ c := by rw [e]
    rwa [Nat.xor_assoc, Nat.xor_self, Nat.xor_zero, Nat.xor_assoc, Nat.xor_self, Nat.xor_zero] at this
theorem reg_turned (zs0 bs : List Nat) (c d : Nat) (r : Nat) (hr : r < 4294967296) (ha : ∀ c, c ∈ zs0 → c < 256) (hb : ∀ c, c ∈ bs → c < 256) (hc : c < 256) (hd : d < 256) (h : c ≠ d) :
    reg ent r (zs0 ++ c :: bs) ≠ reg ent r (zs0 ++ d :: bs) := by
  rw [reg_append, reg_append, reg_cons, reg_cons]
  have hq := reg_lt ent_ok zs0 hr ha
  refine reg_ne bs (turn_lt ent_ok hq hc) (turn_lt ent_ok hq hd) hb ?_
  rw [turn_ent, turn_ent]
  generalize reg ent r zs0 = q at hq
  refine ent_ne (xor_lt hq (by omega)) (xor_lt hq (by omega)) fun e => h ?_
  have : q ^^^ (q ^^^ c) = q ^^^ (q ^^^ d) := by rw [e]
  rwa [← Nat.xor_assoc, Nat.xor_self, Nat.zero_xor, ← Nat.xor_assoc, Nat.xor_self, Nat.zero_xor] at this

/-- The complement of a register of 32 bits. -/
theorem not_xor {x : Nat} (h : x < 4294967296) : 4294967295 - x = 4294967295 ^^^ x := by
  have h1 : 4294967295 - x = 2 ^ 32 - (x + 1) := by omega
  apply Nat.eq_of_testBit_eq
  intro i
  rw [h1, Nat.testBit_two_pow_sub_succ h, Nat.testBit_xor]
  have : Nat.testBit 4294967295 i = decide (i < 32) := by
    rw [show 4294967295 = 2 ^ 32 - 1 by decide, Nat.testBit_two_pow_sub_one]
  rw [this]
  by_cases hi : i < 32
  · simp [hi]
  · have : Nat.testBit x i = false := Nat.testBit_lt_two_pow (Nat.lt_of_lt_of_le (m := 2 ^ 32) h (Nat.pow_le_pow_right (by decide) (by omega)))
    simp [hi, this]
theorem crc_mix (zs0 bs cs : List Nat) (h1 : bs.length = zs0.length) (h2 : cs.length = zs0.length) (ha : ∀ c, c ∈ zs0 → c < 256) (hb : ∀ c, c ∈ bs → c < 256) (hc : ∀ c, c ∈ cs → c < 256) :
    crc ent zs0 ^^^ crc ent bs ^^^ crc ent cs = crc ent (mix zs0 bs cs) := by
  have hF : (4294967295 : Nat) < 4294967296 := by decide
  have hm := reg_mix zs0 bs cs 4294967295 4294967295 4294967295 h1 h2
  have ra := reg_lt ent_ok zs0 hF ha
  have rb := reg_lt ent_ok bs hF hb
  have rc := reg_lt ent_ok cs hF hc
  have e : (4294967295 : Nat) ^^^ 4294967295 ^^^ 4294967295 = 4294967295 := by decide
  rw [e] at hm
  unfold crc
  have rx : reg ent 4294967295 (mix zs0 bs cs) < 4294967296 := by rw [← hm]; exact xor_lt (xor_lt ra rb) rc
  rw [not_xor ra, not_xor rb, not_xor rc, not_xor rx, three, e, hm]
theorem crc_lt (T : Nat → Nat) (bs : List Nat) : crc T bs < 4294967296 := by unfold crc; omega
theorem crc_ne (zs0 bs : List Nat) (c d : Nat) (ha : ∀ c, c ∈ zs0 → c < 256) (hb : ∀ c, c ∈ bs → c < 256) (hc : c < 256) (hd : d < 256) (h : c ≠ d) :
    crc ent (zs0 ++ c :: bs) ≠ crc ent (zs0 ++ d :: bs) := by
  have hF : (4294967295 : Nat) < 4294967296 := by decide
  have hn := reg_turned zs0 bs c d 4294967295 hF ha hb hc hd h
  have r1 : reg ent 4294967295 (zs0 ++ c :: bs) < 4294967296 := reg_lt ent_ok _ hF (by
    intro x hx; rcases List.mem_append.1 hx with h | h
    · exact ha x h
    · rcases List.mem_cons.1 h with rfl | h
      · exact hc
      · exact hb x h)
  have r2 : reg ent 4294967295 (zs0 ++ d :: bs) < 4294967296 := reg_lt ent_ok _ hF (by
    intro x hx; rcases List.mem_append.1 hx with h | h
    · exact ha x h
    · rcases List.mem_cons.1 h with rfl | h
      · exact hd
      · exact hb x h)
  unfold crc
  omega
theorem crc_congr {T U : Nat → Nat} (h : ∀ x, x < 256 → T x = U x) (bs : List Nat) (hb : ∀ c, c ∈ bs → c < 256) : crc T bs = crc U bs := by
  unfold crc; rw [reg_congr h bs _ hb]
theorem crc_known : crc ent [49, 50, 51, 52, 53, 54, 55, 56, 57] = 3808858755 := by decide +kernel
/-- The table as a list. -/
def tab : List Nat := (List.range 256).map ent
theorem tab_length : tab.length = 256 := by simp [tab]
theorem tab_at (x : Nat) (h : x < 256) : tab[x]? = some (ent x) := by simp [tab, h]
end Go.Proofs.YtnbknihaefkllaaGreatDoor.Crc
/- What a step of eight of package crc, and the document's own, answer. -/
namespace Go.Proofs.YtnbknihaefkllaaGreatDoor.Crc
set_option linter.unusedVariables false
open Go.RowKit Lift

theorem and_one (y : Nat) (hy : y ≤ 4294967295) : bits .and .u32 (y : Int) 1 = ((y % 2 : Nat) : Int) := by
  have h := u32_and_nat y 1 (by omega) (by decide)
  rw [show ((1 : Nat) : Int) = 1 from rfl] at h
  rw [h, Nat.and_one_is_mod]
theorem xor_poly (y : Nat) (hy : y ≤ 4294967295) : bits .xor .u32 ((y : Int) / 2) 2197175160 = ((y / 2 ^^^ 2197175160 : Nat) : Int) := by
  have h := u32_xor_nat (y / 2) 2197175160 (by omega) (by decide)
  rw [show ((2197175160 : Nat) : Int) = 2197175160 from rfl] at h
  rw [← h]; rfl
theorem st_odd {y : Nat} (h : y % 2 = 1) : st y = (y / 2 ^^^ 2197175160) := by unfold st; rw [if_pos h]
theorem st_even {y : Nat} (h : ¬ y % 2 = 1) : st y = y / 2 := by unfold st; rw [if_neg h]
theorem sts_step {k y r : Nat} (hk : k < 8) (h : sts (8 - k) y = r) : sts (8 - (k + 1)) (st y) = r := by
  rw [← h, show 8 - k = (8 - (k + 1)) + 1 by omega]; rfl
theorem ret_u32 {a b : Int} (h : a = b) : Ending.returned (.int .u32 a) = .returned (.int .u32 b) := by rw [h]

set_option maxRecDepth 100000 in
set_option maxHeartbeats 400000 in
theorem entry_any (n : Nat) (w : World) (hn : n < 4294967296) :
    Calls Tryz.prog 75 #[.int .u32 n] w fun e w' => e = .returned (.int .u32 (ent n : Nat)) ∧ w = w' := by
  have HE : Hid (sts 8 n = ent n) := Lib.hid rfl
  go_enter Tryz.func75, Tryz.ntmps75
  go_wp2_with fail
  go_loop [0, 4] (fun x i => ∃ k y : Nat, k ≤ 8 ∧ y ≤ 4294967295 ∧ i = .int .i64 k ∧ x = .int .u32 y ∧ Hid (sts (8 - k) y = ent n)) (fun _ i => 100 - (intOf i).toNat)
  case atStart => exact ⟨0, n, by omega, by omega, rfl, rfl, HE⟩
  case round =>
    obtain ⟨k, y, hk, hy, rfl, rfl, hd⟩ := hrel
    by_cases hlt : k < 8
    · have hs := st_lt (x := y) (by omega)
      by_cases ho : y % 2 = 1
      · have t : (bits .and .u32 (y : Int) 1 != 0) = true := by rw [and_one y hy, ho]; rfl
        have HO := Lib.hid ho
        clear ho
        go_wp2_with fail
        go_round
        case rel => exact ⟨k + 1, st y, by omega, by omega, by go_num, by rw [xor_poly y hy, st_odd HO.out], Lib.hid (sts_step hlt hd.out)⟩
        case measure => simp [intOf]; omega
      · have t : (bits .and .u32 (y : Int) 1 != 0) = false := by rw [and_one y hy, show y % 2 = 0 by omega]; rfl
        have HO := Lib.hid ho
        clear ho
        go_wp2_with fail
        go_round
        case rel => exact ⟨k + 1, st y, by omega, by omega, by go_num, by rw [st_even HO.out]; go_num, Lib.hid (sts_step hlt hd.out)⟩
        case measure => simp [intOf]; omega
    · have h8 : k = 8 := by omega
      have H8 := Lib.hid h8
      clear h8
      go_wp2_with fail
      go_ret
      exact ⟨ret_u32 (by rw [← hd.out, H8.out]; rfl), rfl⟩

set_option maxRecDepth 100000 in
set_option maxHeartbeats 400000 in
theorem step_any (n : Nat) (w : World) (hn : n < 4294967296) :
    Calls Tryz.prog 96 #[.int .u32 n] w fun e w' => e = .returned (.int .u32 (ent n : Nat)) ∧ w = w' := by
  have HE : Hid (sts 8 n = ent n) := Lib.hid rfl
  go_enter Tryz.func96, Tryz.ntmps96
  go_wp2_with fail
  go_loop [0, 3] (fun x i => ∃ k y : Nat, k ≤ 8 ∧ y ≤ 4294967295 ∧ i = .int .i64 k ∧ x = .int .u32 y ∧ Hid (sts (8 - k) y = ent n)) (fun _ i => 100 - (intOf i).toNat)
  case atStart => exact ⟨0, n, by omega, by omega, rfl, rfl, HE⟩
  case round =>
    obtain ⟨k, y, hk, hy, rfl, rfl, hd⟩ := hrel
    by_cases hlt : k < 8
    · have hs := st_lt (x := y) (by omega)
      by_cases ho : y % 2 = 1
      · have t : (bits .and .u32 (y : Int) 1 == 1) = true := by rw [and_one y hy, ho]; rfl
        have HO := Lib.hid ho
        clear ho
        go_wp2_with fail
        go_round
        case rel => exact ⟨k + 1, st y, by omega, by omega, by go_num, by rw [xor_poly y hy, st_odd HO.out], Lib.hid (sts_step hlt hd.out)⟩
        case measure => simp [intOf]; omega
      · have t : (bits .and .u32 (y : Int) 1 == 1) = false := by rw [and_one y hy, show y % 2 = 0 by omega]; rfl
        have HO := Lib.hid ho
        clear ho
        go_wp2_with fail
        go_round
        case rel => exact ⟨k + 1, st y, by omega, by omega, by go_num, by rw [st_even HO.out]; go_num, Lib.hid (sts_step hlt hd.out)⟩
        case measure => simp [intOf]; omega
    · have h8 : k = 8 := by omega
      have H8 := Lib.hid h8
      clear h8
      go_wp2_with fail
      go_ret
      exact ⟨ret_u32 (by rw [← hd.out, H8.out]; rfl), rfl⟩
end Go.Proofs.YtnbknihaefkllaaGreatDoor.Crc
/- What Mask and Unmask of package crc, and the document's own, answer. -/
namespace Go.Proofs.YtnbknihaefkllaaGreatDoor.Crc
set_option linter.unusedVariables false
open Go.RowKit Lift

def maskN (x : Nat) : Nat := (x / 32768 + x % 32768 * 131072 + 2726488792) % 4294967296
def back (x : Nat) : Nat := (x + 1568478504) % 4294967296
def unmaskN (x : Nat) : Nat := back x % 131072 * 32768 + back x / 131072
theorem maskN_lt (x : Nat) : maskN x < 4294967296 := Nat.mod_lt _ (by decide)
theorem back_lt (x : Nat) : back x < 4294967296 := Nat.mod_lt _ (by decide)
theorem unmaskN_lt (x : Nat) : unmaskN x < 4294967296 := by have := back_lt x; unfold unmaskN; omega
theorem un_mask (x : Nat) (h : x < 4294967296) : unmaskN (maskN x) = x := by
  obtain ⟨p, hp⟩ : ∃ p, p = x / 32768 := ⟨_, rfl⟩
  obtain ⟨q, hq⟩ : ∃ q, q = x % 32768 := ⟨_, rfl⟩
  have hx : x = p * 32768 + q := by omega
  have hb : back (maskN x) = p + q * 131072 := by unfold back maskN; rw [← hp, ← hq]; omega
  unfold unmaskN
  rw [hb, hx]
  omega
theorem mask_un (x : Nat) (h : x < 4294967296) : maskN (unmaskN x) = x := by
  have hb := back_lt x
  have hk : (back x + 2726488792) % 4294967296 = x := by unfold back; omega
  generalize hy : back x = y at hb hk
  have hu : unmaskN x = y % 131072 * 32768 + y / 131072 := by unfold unmaskN; rw [hy]
  have h1 : unmaskN x / 32768 = y % 131072 := by rw [hu]; omega
  have h2 : unmaskN x % 32768 = y / 131072 := by rw [hu]; omega
  unfold maskN
  rw [h1, h2, show y % 131072 + y / 131072 * 131072 = y by omega, hk]

/-- High bits and low bits apart. -/
theorem or_apart (a b n : Nat) (h : a < 2 ^ n) : a ||| b * 2 ^ n = a + b * 2 ^ n := by
  rw [Nat.or_comm, Nat.mul_comm b, ← Nat.two_pow_add_eq_or_of_lt h, Nat.add_comm]
theorem or_17 (x : Nat) (h : x < 4294967296) : bits .or .u32 ((x : Int) / 32768) ((x : Int) * 131072 % 4294967296) = ((x / 32768 + x % 32768 * 131072 : Nat) : Int) := by
  have e1 : (x : Int) / 32768 = ((x / 32768 : Nat) : Int) := rfl
  have e2 : (x : Int) * 131072 % 4294967296 = ((x % 32768 * 131072 : Nat) : Int) := by omega
  rw [e1, e2, u32_or_nat _ _ (by omega) (by omega)]
  have h2 := or_apart (x / 32768) (x % 32768) 17 (by omega)
  rw [show (2 : Nat) ^ 17 = 131072 by decide] at h2
  rw [h2]
theorem or_17' (x : Nat) (h : x < 4294967296) : bits .or .u32 ((x : Int) * 131072 % 4294967296) ((x : Int) / 32768) = ((x / 32768 + x % 32768 * 131072 : Nat) : Int) := by
  rw [← or_17 x h]
  have e1 : (x : Int) / 32768 = ((x / 32768 : Nat) : Int) := rfl
  have e2 : (x : Int) * 131072 % 4294967296 = ((x % 32768 * 131072 : Nat) : Int) := by omega
  rw [e1, e2, u32_or_nat _ _ (by omega) (by omega), u32_or_nat _ _ (by omega) (by omega), Nat.or_comm]
theorem or_15 (x : Nat) (h : x < 4294967296) : bits .or .u32 ((x : Int) * 32768 % 4294967296) ((x : Int) / 131072) = ((x % 131072 * 32768 + x / 131072 : Nat) : Int) := by
  have e1 : (x : Int) / 131072 = ((x / 131072 : Nat) : Int) := rfl
  have e2 : (x : Int) * 32768 % 4294967296 = ((x % 131072 * 32768 : Nat) : Int) := by omega
  rw [e1, e2, u32_or_nat _ _ (by omega) (by omega)]
  have h2 := or_apart (x / 131072) (x % 131072) 15 (by omega)
  rw [show (2 : Nat) ^ 15 = 32768 by decide] at h2
  rw [Nat.or_comm, h2, Nat.add_comm]
theorem back_int (x : Nat) (h : x ≤ 4294967295) : ((x : Int) - 2726488792) % 4294967296 = ((back x : Nat) : Int) := by unfold back; omega
theorem mask_int (x : Nat) : (((x / 32768 + x % 32768 * 131072 : Nat) : Int) + 2726488792) % 4294967296 = ((maskN x : Nat) : Int) := by unfold maskN; omega

theorem rot_17 (x : Nat) (w : World) (hx : x ≤ 4294967295) :
    Calls Tryz.prog 87 #[.int .u32 x, .int .i64 (-15)] w fun e w' => e = .returned (.int .u32 ((x / 32768 + x % 32768 * 131072 : Nat) : Int)) ∧ w = w' := by
  have e : bits .and .u64 (IntKind.u64.wrap (-15)) 31 = 17 := by decide +kernel
  go_enter Tryz.func87, Tryz.ntmps87
  go_wp2_with fail
  go_ret
  exact ⟨ret_u32 (or_17' x (by omega)), rfl⟩
theorem rot_15 (x : Nat) (w : World) (hx : x ≤ 4294967295) :
    Calls Tryz.prog 87 #[.int .u32 x, .int .i64 15] w fun e w' => e = .returned (.int .u32 ((x % 131072 * 32768 + x / 131072 : Nat) : Int)) ∧ w = w' := by
  have e : bits .and .u64 (IntKind.u64.wrap 15) 31 = 15 := by decide +kernel
  have e' : bits .and .u64 15 31 = 15 := by decide +kernel
  go_enter Tryz.func87, Tryz.ntmps87
  go_wp2_with fail
  go_ret
  exact ⟨ret_u32 (or_15 x (by omega)), rfl⟩
theorem rmask_any (x : Nat) (w : World) (hx : x ≤ 4294967295) :
    Calls Tryz.prog 88 #[.int .u32 x] w fun e w' => e = .returned (.int .u32 (maskN x : Nat)) ∧ w = w' := by
  go_enter Tryz.func88, Tryz.ntmps88
  go_wp2_with fail
  go_ret
  exact ⟨ret_u32 (by rw [or_17 x (by omega), mask_int]), rfl⟩
theorem mask_any (x : Nat) (w : World) (hx : x ≤ 4294967295) :
    Calls Tryz.prog 77 #[.int .u32 x] w fun e w' => e = .returned (.int .u32 (maskN x : Nat)) ∧ w = w' := by
  go_enter Tryz.func77, Tryz.ntmps77
  go_wp2_with fail
  refine (rot_17 x _ hx).mono ?_; rintro e w' ⟨rfl, rfl⟩
  have hx' : x / 32768 + x % 32768 * 131072 ≤ 4294967295 := by omega
  have hm := Lib.hid (mask_int x)
  generalize x / 32768 + x % 32768 * 131072 = y at hx' hm
  go_wp2_with fail
  go_ret
  exact ⟨ret_u32 (by rw [hm.out]), rfl⟩
end Go.Proofs.YtnbknihaefkllaaGreatDoor.Crc
/- Plain mathematics of framed records: pieces, what is written of a record, and how bytes are read. -/
namespace Go.Proofs.YtnbknihaefkllaaGreatDoor.Fr
open Ik Crc

/-- The masked sum of a piece. -/
def sumB (k : Nat) (d : List Nat) : Nat := maskN (crc ent (k :: d))
theorem sumB_lt (k : Nat) (d : List Nat) : sumB k d < 4294967296 := maskN_lt _
def piece (k : Nat) (d : List Nat) : List Nat := low (sumB k d) 4 ++ low d.length 2 ++ k :: d
theorem piece_length (k : Nat) (d : List Nat) : (piece k d).length = 7 + d.length := by
  simp [piece, low_length]; omega
theorem piece_byte {k : Nat} {d : List Nat} (hk : k < 256) (hd : ∀ c, c ∈ d → c < 256) : ∀ c, c ∈ piece k d → c < 256 := by
  intro c hc
  simp only [piece, List.mem_append, List.mem_cons] at hc
  rcases hc with (h | h) | rfl | h
  · exact low_byte _ _ c h
  · exact low_byte _ _ c h
  · exact hk
  · exact hd c h
/-- What is left of a block. -/
def left (a : Nat) : Nat := 128 - a % 128
theorem left_pos (a : Nat) : 1 ≤ left a ∧ left a ≤ 128 := by unfold left; omega
/-- What is written behind the first piece. -/
def tail (r : List Nat) : List Nat :=
  if r.length ≤ 121 then piece 4 r else piece 3 (r.take 121) ++ tail (r.drop 121)
termination_by r.length
decreasing_by simp; omega
theorem tail_end {r : List Nat} (h : r.length ≤ 121) : tail r = piece 4 r := by rw [tail, if_pos h]
theorem tail_more {r : List Nat} (h : ¬ r.length ≤ 121) : tail r = piece 3 (r.take 121) ++ tail (r.drop 121) := by rw [tail, if_neg h]
/-- How much of a record fits behind a place. -/
def cap (a : Nat) : Nat := if left a < 7 then 121 else left a - 7
def pad (a : Nat) : Nat := if left a < 7 then left a else 0
theorem cap_le (a : Nat) : cap a ≤ 121 := by unfold cap left; split <;> omega
def parts (n : Nat) (r : List Nat) : List Nat := if r.length ≤ n then piece 1 r else piece 2 (r.take n) ++ tail (r.drop n)
def put (a : Nat) (r : List Nat) : List Nat := List.replicate (pad a) 0 ++ parts (cap a) r

theorem tail_byte : ∀ (r : List Nat), (∀ c, c ∈ r → c < 256) → ∀ c, c ∈ tail r → c < 256 := by
  intro r
  induction hn : r.length using Nat.strongRecOn generalizing r with
  | _ n ih =>
    intro h8 c hc
    subst hn
    by_cases h : r.length ≤ 121
    · rw [tail_end h] at hc
      exact piece_byte (by decide) h8 c hc
    · rw [tail_more h] at hc
      rcases List.mem_append.1 hc with hc | hc
      · exact piece_byte (by decide) (fun x hx => h8 x (List.mem_of_mem_take hx)) c hc
      · exact ih _ (by simp; omega) (r.drop 121) rfl (fun x hx => h8 x (List.mem_of_mem_drop hx)) c hc
theorem parts_byte {n : Nat} {r : List Nat} (h8 : ∀ c, c ∈ r → c < 256) : ∀ c, c ∈ parts n r → c < 256 := by
  intro c hc
  unfold parts at hc
  split at hc
  · exact piece_byte (by decide) h8 c hc
  · rcases List.mem_append.1 hc with hc | hc
    · exact piece_byte (by decide) (fun x hx => h8 x (List.mem_of_mem_take hx)) c hc
    · exact tail_byte _ (fun x hx => h8 x (List.mem_of_mem_drop hx)) c hc
theorem put_byte {a : Nat} {r : List Nat} (h8 : ∀ c, c ∈ r → c < 256) : ∀ c, c ∈ put a r → c < 256 := by
  intro c hc
  unfold put at hc
  rcases List.mem_append.1 hc with hc | hc
  · rw [List.mem_replicate] at hc; omega
  · exact parts_byte h8 c hc
theorem tail_len : ∀ (r : List Nat), 7 ≤ (tail r).length ∧ (tail r).length ≤ 7 + 2 * r.length := by
  intro r
  induction hn : r.length using Nat.strongRecOn generalizing r with
  | _ n ih =>
    subst hn
    by_cases h : r.length ≤ 121
    · rw [tail_end h, piece_length]; omega
    · rw [tail_more h, List.length_append, piece_length]
      have := ih _ (by simp; omega) (r.drop 121) rfl
      simp at this ⊢
      omega
theorem put_len (a : Nat) (r : List Nat) : 7 ≤ (put a r).length ∧ (put a r).length ≤ 21 + 2 * r.length := by
  have hp : pad a ≤ 6 := by unfold pad left; split <;> omega
  unfold put parts
  rw [List.length_append, List.length_replicate]
  split
  · rw [piece_length]; omega
  · rw [List.length_append, piece_length]
    have := tail_len (r.drop (cap a))
    simp at this ⊢
    omega

/-- What stands next in a log. -/
inductive Nt where
  | stop (c : Nat)
  | frag (k : Nat) (d : List Nat) (a : Nat)
def num2 (r : List Nat) : Nat := num ((r.drop 4).take 2)
def kindOf (r : List Nat) : Nat := (r[6]?).getD 0
def dataOf (r : List Nat) : List Nat := (r.drop 7).take (num2 r)
def good (r : List Nat) : Prop := num (r.take 4) = sumB (kindOf r) (dataOf r) ∧ 1 ≤ kindOf r ∧ kindOf r ≤ 4
instance (r : List Nat) : Decidable (good r) := by unfold good; infer_instance
def frg (b : List Nat) (a : Nat) : Nt :=
  if b.length ≤ a then .stop 0
  else if b.length - a < 7 then .stop 1
  else if left a < 7 + num2 (b.drop a) then .stop 2
  else if b.length - a < 7 + num2 (b.drop a) then .stop 1
  else if good (b.drop a) then .frag (kindOf (b.drop a)) (dataOf (b.drop a)) (a + (7 + num2 (b.drop a)))
  else .stop 2
def skip (b : List Nat) (a : Nat) : Nat := if left a < 7 then min (a + left a) b.length else a
def padding (b : List Nat) (a : Nat) : List Nat := if left a < 7 then (b.drop a).take (left a) else []
def clean (b : List Nat) (a : Nat) : Prop := ∀ c, c ∈ padding b a → c = 0
instance (b : List Nat) (a : Nat) : Decidable (clean b a) := by unfold clean; infer_instance
def nxt (b : List Nat) (a : Nat) : Nt := if clean b a then frg b (skip b a) else .stop 2

theorem frg_frag {b : List Nat} {a k a' : Nat} {d : List Nat} (h : frg b a = .frag k d a') : a < a' ∧ a' ≤ b.length ∧ 1 ≤ k ∧ k ≤ 4 ∧ d = dataOf (b.drop a) ∧ d.length ≤ 121 ∧ a' = a + (7 + d.length) := by
  unfold frg at h
  split at h; cases h
  split at h; cases h
  split at h; cases h
  split at h; cases h
  split at h
  · rename_i h1 h2 h3 h4 h5
    cases h
    have := left_pos a
    have hl : (dataOf (b.drop a)).length = num2 (b.drop a) := by unfold dataOf; simp; omega
    exact ⟨by omega, by omega, h5.2.1, h5.2.2, rfl, by omega, by omega⟩
  · cases h
theorem skip_le {b : List Nat} {a : Nat} (h : a ≤ b.length) : a ≤ skip b a ∧ skip b a ≤ b.length := by
  unfold skip; split <;> omega
theorem nxt_frag {b : List Nat} {a k a' : Nat} {d : List Nat} (ha : a ≤ b.length) (h : nxt b a = .frag k d a') : a < a' ∧ a' ≤ b.length ∧ 1 ≤ k ∧ k ≤ 4 ∧ d.length ≤ 121 := by
  unfold nxt at h
  split at h
  · have := skip_le ha
    have := frg_frag h
    omega
  · cases h

/-- How a log is read on from a place: what was read is told in R. -/
inductive Rd (b : List Nat) : Nat → Bool → List Nat → Nat → List (List Nat) → (List (List Nat) × Nat × Nat) → Prop
  | stop {a wi now done out c} : nxt b a = .stop c → Rd b a wi now done out (out, done, if wi = true ∧ c = 0 then 1 else c)
  | bad {a wi now done out k d a'} : nxt b a = .frag k d a' → wi = decide (k < 3) → Rd b a wi now done out (out, done, 2)
  | more {a wi now done out k d a' R} : nxt b a = .frag k d a' → wi = decide (3 ≤ k) → (k = 2 ∨ k = 3) → Rd b a' true (now ++ d) done out R → Rd b a wi now done out R
  | full {a wi now done out k d a' R} : nxt b a = .frag k d a' → wi = decide (3 ≤ k) → (k = 1 ∨ k = 4) → Rd b a' false [] a' (out ++ [now ++ d]) R → Rd b a wi now done out R

theorem Rd.det {b : List Nat} {a done : Nat} {wi : Bool} {now : List Nat} {out : List (List Nat)} {R R' : List (List Nat) × Nat × Nat} (h : Rd b a wi now done out R) (h' : Rd b a wi now done out R') : R = R' := by
  induction h generalizing R' with
  | stop h1 =>
    cases h' with
    | stop g1 => rw [h1] at g1; cases g1; rfl
    | bad g1 => rw [h1] at g1; cases g1
    | more g1 => rw [h1] at g1; cases g1
    | full g1 => rw [h1] at g1; cases g1
  | bad h1 h2 =>
    cases h' with
    | stop g1 => rw [h1] at g1; cases g1
    | bad g1 => rfl
    | more g1 g2 g3 =>
      rw [h1] at g1; cases g1
      rw [h2] at g2
      simp at g2; omega
    | full g1 g2 g3 =>
      rw [h1] at g1; cases g1
      rw [h2] at g2
      simp at g2; omega
  | more h1 h2 h3 _ ih =>
    cases h' with
    | stop g1 => rw [h1] at g1; cases g1
    | bad g1 g2 =>
      rw [h1] at g1; cases g1
      rw [h2] at g2
      simp at g2; omega
    | more g1 g2 g3 g4 => rw [h1] at g1; cases g1; exact ih g4
    | full g1 g2 g3 g4 => rw [h1] at g1; cases g1; omega
  | full h1 h2 h3 _ ih =>
    cases h' with
    | stop g1 => rw [h1] at g1; cases g1
    | bad g1 g2 =>
      rw [h1] at g1; cases g1
      rw [h2] at g2
      simp at g2; omega
    | more g1 g2 g3 g4 => rw [h1] at g1; cases g1; omega
    | full g1 g2 g3 g4 => rw [h1] at g1; cases g1; exact ih g4
theorem Rd.total {b : List Nat} : ∀ (n a done : Nat) (wi : Bool) (now : List Nat) (out : List (List Nat)), a ≤ b.length → b.length - a ≤ n → ∃ R, Rd b a wi now done out R := by
  intro n
  induction n using Nat.strongRecOn with
  | _ n ih =>
    intro a done wi now out ha hn
    cases hx : nxt b a with
    | stop c => exact ⟨_, .stop hx⟩
    | frag k d a' =>
      obtain ⟨h1, h2, h3, h4, _⟩ := nxt_frag ha hx
      by_cases hw : wi = decide (k < 3)
      · exact ⟨_, .bad hx hw⟩
      · have hw2 : wi = decide (3 ≤ k) := by
          by_cases h : k < 3
          · rw [decide_eq_true h] at hw; rw [decide_eq_false (by omega)]; simpa using hw
          · rw [decide_eq_false h] at hw; rw [decide_eq_true (by omega)]; simpa using hw
        by_cases h5 : k = 2 ∨ k = 3
        · obtain ⟨R, hR⟩ := ih (b.length - a') (by omega) a' done true (now ++ d) out h2 (Nat.le_refl _)
          exact ⟨R, .more hx hw2 h5 hR⟩
        · obtain ⟨R, hR⟩ := ih (b.length - a') (by omega) a' a' false [] (out ++ [now ++ d]) h2 (Nat.le_refl _)
          exact ⟨R, .full hx hw2 (by omega) hR⟩
theorem Rd.onto {b : List Nat} {a done : Nat} {wi : Bool} {now : List Nat} {out : List (List Nat)} {R : List (List Nat) × Nat × Nat} (h : Rd b a wi now done out R) : out <+: R.1 := by
  induction h with
  | stop h1 => exact List.prefix_refl _
  | bad h1 h2 => exact List.prefix_refl _
  | more h1 h2 h3 _ ih => exact ih
  | full h1 h2 h3 _ ih => exact (List.prefix_append _ _).trans ih

/-- A piece that stands there is read. -/
theorem piece_parts {k : Nat} {d q : List Nat} (hd : d.length < 65536) : num2 (piece k d ++ q) = d.length ∧ kindOf (piece k d ++ q) = k ∧ dataOf (piece k d ++ q) = d ∧ num ((piece k d ++ q).take 4) = sumB k d := by
  have e : piece k d ++ q = low (sumB k d) 4 ++ (low d.length 2 ++ (k :: (d ++ q))) := by simp [piece]
  have l4 := low_length (sumB k d) 4
  have l2 := low_length d.length 2
  have n2 : num2 (piece k d ++ q) = d.length := by
    unfold num2
    rw [e, List.drop_left' l4, List.take_left' l2, num_low _ _ (by omega)]
  refine ⟨n2, ?_, ?_, ?_⟩
  · unfold kindOf
    rw [e, List.getElem?_append_right (by omega), l4, List.getElem?_append_right (by omega), l2]
    rfl
  · unfold dataOf
    rw [n2]
    have e7 : piece k d ++ q = (low (sumB k d) 4 ++ low d.length 2 ++ [k]) ++ (d ++ q) := by simp [piece]
    rw [e7, List.drop_left' (by simp [l4, l2]), List.take_left' rfl]
  · rw [e, List.take_left' l4, num_low _ _ (by have := sumB_lt k d; omega)]
theorem frg_piece {b : List Nat} {a k : Nat} {d q : List Nat} (h : b.drop a = piece k d ++ q) (hd : 7 + d.length ≤ left a) (hk : 1 ≤ k ∧ k ≤ 4) : frg b a = .frag k d (a + (7 + d.length)) := by
  have hl := congrArg List.length h
  rw [List.length_drop, List.length_append, piece_length] at hl
  have := left_pos a
  obtain ⟨p1, p2, p3, p4⟩ := piece_parts (k := k) (d := d) (q := q) (by omega)
  have hg : good (piece k d ++ q) := by
    unfold good
    rw [p2, p3, p4]
    exact ⟨Eq.refl _, hk⟩
  unfold frg
  rw [h, p1, if_neg (by omega), if_neg (by omega), if_neg (by omega), if_neg (by omega), if_pos hg, p2, p3]
theorem nxt_piece {b : List Nat} {a k : Nat} {d q : List Nat} (h : b.drop a = piece k d ++ q) (hd : 7 + d.length ≤ left a) (hk : 1 ≤ k ∧ k ≤ 4) : nxt b a = .frag k d (a + (7 + d.length)) := by
  have h7 : ¬ left a < 7 := by omega
  unfold nxt
  rw [if_pos (by unfold clean padding; rw [if_neg h7]; simp)]
  unfold skip
  rw [if_neg h7]
  exact frg_piece h hd hk
theorem drop_more {b : List Nat} {a n : Nat} {p q : List Nat} (h : b.drop a = p ++ q) (hn : p.length = n) : b.drop (a + n) = q := by
  rw [← List.drop_drop, h, List.drop_left' hn]
theorem rd_tail {b : List Nat} : ∀ (r : List Nat) (a done : Nat) (now q : List Nat) (out : List (List Nat)) (R : List (List Nat) × Nat × Nat), a % 128 = 0 → b.drop a = tail r ++ q →
    Rd b (a + (tail r).length) false [] (a + (tail r).length) (out ++ [now ++ r]) R → Rd b a true now done out R := by
  intro r
  induction hn : r.length using Nat.strongRecOn generalizing r with
  | _ n ih =>
    intro a done now q out R ha hb hR
    subst hn
    have hla : left a = 128 := by unfold left; omega
    by_cases h : r.length ≤ 121
    · rw [tail_end h] at hb hR
      rw [piece_length] at hR
      exact .full (nxt_piece hb (by omega) (by decide)) rfl (.inr rfl) hR
    · rw [tail_more h] at hb hR
      rw [List.append_assoc] at hb
      have hl : (r.take 121).length = 121 := by simp; omega
      have hx := nxt_piece hb (by omega) (by decide)
      refine .more hx rfl (.inr rfl) ?_
      have hb2 := drop_more hb (piece_length _ _)
      refine ih _ (by simp; omega) (r.drop 121) rfl _ done (now ++ r.take 121) q out R (by omega) hb2 ?_
      rw [List.append_assoc, List.take_append_drop]
      rw [List.length_append, piece_length] at hR
      rw [Nat.add_assoc a]
      exact hR
theorem rd_parts {b : List Nat} {a done n : Nat} {r q : List Nat} {out : List (List Nat)} {R : List (List Nat) × Nat × Nat} (hn : 7 + n = left a) (hb : b.drop a = parts n r ++ q)
    (hR : Rd b (a + (parts n r).length) false [] (a + (parts n r).length) (out ++ [r]) R) : Rd b a false [] done out R := by
  unfold parts at hb hR
  split at hb
  · rename_i h
    rw [if_pos h, piece_length] at hR
    exact .full (nxt_piece hb (by omega) (by decide)) rfl (.inl rfl) hR
  · rename_i h
    rw [if_neg h, List.length_append, piece_length] at hR
    rw [List.append_assoc] at hb
    have hl : (r.take n).length = n := by simp; omega
    refine .more (nxt_piece hb (by omega) (by decide)) rfl (.inl rfl) ?_
    have hb2 := drop_more hb (piece_length _ _)
    refine rd_tail (r.drop n) _ done ([] ++ r.take n) q out R (by unfold left at hn; omega) hb2 ?_
    rw [List.nil_append, List.take_append_drop, Nat.add_assoc a]
    exact hR
end Go.Proofs.YtnbknihaefkllaaGreatDoor.Fr
/- What number and appendNumber of package frame answer, and room. -/
namespace Go.Proofs.YtnbknihaefkllaaGreatDoor.Fr
set_option linter.unusedVariables false
set_option linter.unusedSimpArgs false
open Go.RowKit Lift Ik
theorem byte_front {p r : List Nat} (h8 : ∀ c, c ∈ r → c < 256) (h : ∀ c, c ∈ p → c ∈ r) : ∀ c, c ∈ p → c < 256 := fun c hc => h8 c (h c hc)
set_option maxRecDepth 100000 in
theorem room_any (a : Nat) (w : World) (ha : a ≤ 9223372036854775807) : Calls Tryz.prog 54 #[.int .i64 (a : Int)] w fun e w' => e = .returned (.int .i64 (left a : Nat)) ∧ w = w' := by
  have e : (128 : Int) - Int.tmod (a : Int) 128 = ((left a : Nat) : Int) := by
    unfold left
    rw [Int.tmod_eq_emod_of_nonneg (by omega)]
    omega
  go_enter Tryz.func54, Tryz.ntmps54
  go_wp2_with fail
  go_ret
  exact ⟨by first | rw [e] | (simp; unfold left; omega), rfl⟩
set_option maxRecDepth 100000 in
set_option maxHeartbeats 400000 in
theorem nums_any (base x n : Nat) (v : Value) (xs : List Nat) (w : World) (h : w.ownsRow base 5 1 v xs.length (xs.map vb)) (hbase : base ≤ w.heap.size) (hm : xs.length ≤ 140737488350000) (hx : x < 4294967296) (hn : n ≤ 4) :
    Calls Tryz.prog 76 #[v, .int .u32 (x : Int), .int .i64 (n : Int)] w (Grew base v w (xs ++ low x n)) := by
  have HO := Lib.hid h
  have HZ := Lib.hid hbase
  clear h hbase
  go_enter Tryz.func76, Tryz.ntmps76
  go_wp2_with fail
  go_loopw [0, 9] (fun o i wr => ∃ j : Nat, j ≤ n ∧ i = .int .i64 j ∧ wr.ownsRow base 5 1 o (xs ++ low x j).length ((xs ++ low x j).map vb) ∧ Hid (Onto v o w wr)) (fun _ i _ => 10 - (intOf i).toNat)
  case atStart => exact ⟨0, by omega, rfl, by simpa [low] using HO.out, Lib.hid (Onto.refl _ _)⟩
  case round =>
    obtain ⟨j, hj, rfl, hown, hb⟩ := hrel
    by_cases hlt : j < n
    · have hl := low_length x j
      obtain ⟨v', w1, hrun, hown1, hon1⟩ := append_byte (x / 256 ^ j % 256) hown (by rw [List.length_append]; omega) (Nat.le_trans HZ.out hb.out.keep.size)
      rw [List.append_assoc, ← low_snoc] at hown1
      rw [show vb (x / 256 ^ j % 256) = .int .u8 ((x : Int) / 2 ^ (8 * j) % 256) by rw [byte_at]] at hrun
      have HO1 := Lib.hid hown1
      have HB3 := Lib.hid (hb.out.trans hon1)
      have HR1 := Lib.hid hrun
      clear hown hown1 hon1 hrun hl
      go_wp2_with (at_builtin; refine wpList_append_run rfl _ _ 24 rfl rfl rfl HR1.out ?_)
      go_roundw
      case rel => exact ⟨j + 1, by omega, by go_num, HO1.out, HB3⟩
      case measure => simp [intOf]; omega
    · obtain rfl : j = n := by omega
      have HO1 := Lib.hid hown
      clear hown
      go_wp2_with fail
      go_ret
      exact ⟨_, rfl, HO1.out, hb.out⟩
theorem or_step32 (t c j : Nat) (hj : j < 4) (ht : t < 256 ^ j) (hc : c < 256) : bits .or .u32 (t : Int) ((c : Int) * 2 ^ (8 * j) % 4294967296) = ((t + c * 256 ^ j : Nat) : Int) := by
  have hp : 256 ^ j ≤ 256 ^ 3 := Nat.pow_le_pow_right (by decide) (by omega)
  have p7 : (256 : Nat) ^ 3 = 16777216 := by decide
  have hm : c * 256 ^ j ≤ 255 * 256 ^ 3 := Nat.mul_le_mul (by omega) hp
  rw [pow8_cast, ← Int.natCast_mul]
  rw [show ((c * 256 ^ j : Nat) : Int) % 4294967296 = ((c * 256 ^ j : Nat) : Int) by omega]
  rw [u32_or_nat _ _ (by omega) (by omega)]
  have e := Nat.two_pow_add_eq_or_of_lt (i := 8 * j) (b := t) (by rw [Nat.pow_mul]; exact ht) c
  rw [show 2 ^ (8 * j) * c = c * 256 ^ j by rw [Nat.pow_mul, Nat.mul_comm]] at e
  rw [Nat.or_comm, ← e, Nat.add_comm]
theorem num_take {bs : List Nat} {j c : Nat} (h : bs[j]? = some c) : num (bs.take (j + 1)) = num (bs.take j) + c * 256 ^ j := by
  have hl : (bs.take j).length = j := by
    have := (List.getElem?_eq_some_iff.1 h).1
    rw [List.length_take]; omega
  rw [List.take_add_one, h, Option.toList_some, num_snoc, hl]
set_option maxRecDepth 100000 in
set_option maxHeartbeats 400000 in
theorem number_any (A : Option Addr) (c B : Nat) (bs : List Nat) (w : World) (hl : Lies w B A (bs.map vb)) (hn : bs.length ≤ 4) (hc : bs.length ≤ c) (hm : c ≤ maxLen) (h8 : ∀ c, c ∈ bs → c < 256) :
    Calls Tryz.prog 82 #[.slice A bs.length c] w fun e w' => e = .returned (.int .u32 (num bs : Nat)) ∧ w = w' := by
  unfold maxLen at hm
  have HL := Lib.hid hl
  have H8 := Lib.hid h8
  clear hl h8
  go_enter Tryz.func82, Tryz.ntmps82
  go_wp2_with fail
  go_loop [3, 8] (fun x i => ∃ j y : Nat, j ≤ bs.length ∧ i = .int .i64 j ∧ x = .int .u32 y ∧ Hid (y = num (bs.take j)) ∧ Hid (y < 256 ^ j)) (fun _ i => bs.length + 1 - (intOf i).toNat)
  case atStart => exact ⟨0, 0, by omega, rfl, rfl, Lib.hid (by simp [num]), Lib.hid (by decide)⟩
  case round =>
    obtain ⟨j, y, hj, rfl, rfl, hy, hlt2⟩ := hrel
    by_cases hlt : j < bs.length
    · obtain ⟨ad, hA, _, hcell⟩ := HL.out.place (by simp; omega)
      subst hA
      obtain ⟨d, hd⟩ : ∃ d : Nat, bs[j]? = some d := ⟨_, List.getElem?_eq_getElem hlt⟩
      have d8 := H8.out d (List.mem_of_getElem? hd)
      have h1 := cells_at hcell _ d hd
      have e := or_step32 y d j (by omega) hlt2.out d8
      have HN := Lib.hid (num_take hd)
      have hnl : num (bs.take (j + 1)) < 256 ^ (j + 1) := by
        have := num_lt (bs.take (j + 1)) fun c hc => H8.out c (List.mem_of_mem_take hc)
        rwa [List.length_take, Nat.min_eq_left (by omega)] at this
      have hp : 256 ^ (j + 1) ≤ 256 ^ 4 := Nat.pow_le_pow_right (by decide) (by omega)
      have p4 : (256 : Nat) ^ 4 = 4294967296 := by decide
      have HP := Lib.hid (show y + d * 256 ^ j < 256 ^ (j + 1) by rw [hy.out, ← HN.out]; exact hnl)
      have hy32 : y + d * 256 ^ j < 4294967296 := by have := HP.out; omega
      have hy0 : y < 4294967296 := Nat.lt_of_le_of_lt (Nat.le_add_right _ _) hy32
      clear hcell hd hnl hp p4
      generalize hz : d * 256 ^ j = z at *
      go_wp2_with fail
      go_round
      case rel => exact ⟨j + 1, y + z, by omega, by go_num, by go_num, Lib.hid (by rw [HN.out, ← hy.out]), HP⟩
      case measure => simp [intOf]; omega
    · obtain rfl : j = bs.length := by omega
      have HY : Hid (y = num bs) := Lib.hid (by rw [hy.out, List.take_length])
      go_wp2_with fail
      go_ret
      exact ⟨by rw [HY.out]; rfl, rfl⟩
end Go.Proofs.YtnbknihaefkllaaGreatDoor.Fr
/- Parts of slices of bytes: b[p:], b[:k], b[p:p+k]. -/
namespace Go.Proofs.YtnbknihaefkllaaGreatDoor.Lift
set_option linter.unusedVariables false
set_option linter.unusedSimpArgs false
open Go.RowKit Ik
theorem cut_from (A : Option Addr) (n c p : Nat) (h : p ≤ n) (hc : n ≤ c) (hm : c ≤ maxLen) :
    ∃ A' : Option Addr, (0 < n - p → A' = A.map (·.add p)) ∧ (A'.isSome = A.isSome) ∧ ∀ W : World, Sem.run Tryz.prog (Instr.slice 24 (.slice A n c) (some (.int .i64 (p : Int))) none none) W = .ok (.slice A' (n - p) (c - p)) W := by
  unfold maxLen at hm
  by_cases hcp : c = p
  · refine ⟨A, fun h0 => by omega, rfl, fun W => ?_⟩
    obtain rfl : n = p := by omega
    subst hcp
    go_simp
  · refine ⟨A.map (·.add p), fun _ => rfl, by simp, fun W => ?_⟩
    go_simp
theorem cut_to (A : Option Addr) (n c k : Nat) (h : k ≤ c) (hc : n ≤ c) (hm : c ≤ maxLen) (W : World) : Sem.run Tryz.prog (Instr.slice 24 (.slice A n c) none (some (.int .i64 (k : Int))) none) W = .ok (.slice A k c) W := by
  unfold maxLen at hm
  go_simp
theorem cut_mid (A : Option Addr) (n c p k : Nat) (h : p + k ≤ n) (hc : n ≤ c) (hm : c ≤ maxLen) :
    ∃ A' : Option Addr, (0 < k → A' = A.map (·.add p)) ∧ (A'.isSome = A.isSome) ∧ ∀ (W : World) (q : Int), q = (p : Int) + (k : Int) → Sem.run Tryz.prog (Instr.slice 24 (.slice A n c) (some (.int .i64 (p : Int))) (some (.int .i64 q)) none) W = .ok (.slice A' k (c - p)) W := by
  unfold maxLen at hm
  by_cases hcp : c = p
  · refine ⟨A, fun h0 => by omega, rfl, fun W q hq => ?_⟩
    obtain rfl : k = 0 := by omega
    obtain rfl : n = p := by omega
    subst hcp hq
    go_simp
  · refine ⟨A.map (·.add p), fun _ => rfl, by simp, fun W q hq => ?_⟩
    subst hq
    go_simp
    rw [if_pos ⟨by omega, by omega⟩, if_pos (by omega), show ((p : Int) + (k : Int)).toNat - p = k by omega]
section
variable {w : World} {R : Nat → Prop} {B p k : Nat} {A A' : Option Addr} {xs ys : List Nat}
theorem LiesP.cut (h : LiesP w R A (xs.map vb)) (hA : 0 < ys.length → A' = A.map (·.add p)) (hy : ys <+: xs.drop p) : LiesP w R A' (ys.map vb) := by
  by_cases h0 : ys.length = 0
  · left; rw [List.eq_nil_of_length_eq_zero h0]; rfl
  · rcases h with h | ⟨ad, rfl, hb, hc⟩
    · have : xs = [] := by simpa using h
      subst this
      simp at hy
      subst hy
      simp at h0
    · refine .inr ⟨ad.add p, hA (by omega), by rw [add_block]; exact hb, fun j u hj => ?_⟩
      rw [add_add]
      refine hc _ u ?_
      obtain ⟨t, ht⟩ := hy
      rw [List.getElem?_map] at hj ⊢
      rw [← List.getElem?_drop, ← ht, List.getElem?_append_left (by simpa using (List.getElem?_eq_some_iff.1 (Option.map_eq_some_iff.1 hj).choose_spec.1).1)]
      exact hj
theorem Lies.cut (h : Lies w B A (xs.map vb)) (hA : 0 < ys.length → A' = A.map (·.add p)) (hy : ys <+: xs.drop p) : Lies w B A' (ys.map vb) :=
  LiesP.lies (R := (· < B)) (LiesP.cut (Lies.p h fun _ hk => hk) hA hy) fun _ hk => hk
end
/-- make([]byte, n). -/
theorem make_own (n : Nat) (hn : n ≤ 140737488350000) (W : World) : Sem.run Tryz.prog (Instr.makeSlice 24 (.int .i64 (n : Int)) (.int .i64 (n : Int))) W = .ok (.slice (some ⟨W.heap.size, 0, none⟩) n n) (W.alloc (.cells (madeCells #[.int .u8 0] n) 5)) ∧
    (W.alloc (.cells (madeCells #[.int .u8 0] n) 5)).ownsRow W.heap.size 5 1 (.slice (some ⟨W.heap.size, 0, none⟩) n n) (List.replicate n 0).length ((List.replicate n 0).map vb) := by
  obtain ⟨i, hi, hz, hs, hb⟩ := info_parts (P := Tryz.prog) (e := 5) (z := .int .u8 0) (size := 1) (bytes := 1) (by kernel_rfl)
  have h := run_make (P := Tryz.prog) W 24 5 i (.int .u8 0) Tryz.underlying24 hi hz .i64 .i64 (n : Int) (n : Int) (by omega) (by omega) (by rw [hb]; omega) (by omega)
  rw [hs, Nat.mul_one] at h
  have e := toList_madeCells_one (.int .u8 0) n
  refine ⟨h, by simp, .inr ⟨W.heap.size, n, _, by simp, Nat.le_refl _, heap_alloc_new W _, by simp, by unfold maxLen; omega, ?_, ?_⟩⟩
  · rw [← Array.length_toList, e]; simp
  · rw [e]; simp [List.take_of_length_le]
end Go.Proofs.YtnbknihaefkllaaGreatDoor.Lift
/- What bytes.TrimLeft answers where zeros are cut off. -/
namespace Go.Proofs.YtnbknihaefkllaaGreatDoor.Fr
set_option linter.unusedVariables false
set_option linter.unusedSimpArgs false
open Go.RowKit Lift Ik
def lenS : Value → Nat
  | .slice _ n _ => n
  | _ => 0
/-- Bytes without the zeros ahead. -/
def bare (bs : List Nat) : List Nat := bs.dropWhile (· == 0)
theorem bare_zero (bs : List Nat) : bare (0 :: bs) = bare bs := rfl
theorem bare_some {c : Nat} (h : c ≠ 0) (bs : List Nat) : bare (c :: bs) = c :: bs := by unfold bare; rw [List.dropWhile_cons, if_neg (by simpa using h)]
theorem bare_nil (bs : List Nat) : (bare bs).length = 0 ↔ ∀ c, c ∈ bs → c = 0 := by
  induction bs with
  | nil => simp [bare]
  | cons c bs ih =>
    by_cases h : c = 0
    · subst h
      rw [bare_zero, ih]
      simp
    · rw [bare_some h]
      simp [h]
set_option maxRecDepth 100000 in
set_option maxHeartbeats 400000 in
theorem ltb_any (A : Option Addr) (c B : Nat) (bs : List Nat) (w : World) (hl : Lies w B A (bs.map vb)) (hc : bs.length ≤ c) (hm : c ≤ maxLen) (h8 : ∀ c, c ∈ bs → c < 256) :
    Calls Tryz.prog 97 #[.slice A bs.length c, .int .u8 0] w fun e w' => (∃ A' c', e = .returned (.slice A' (bare bs).length c')) ∧ w = w' := by
  have HL := Lib.hid hl
  have H8 := Lib.hid h8
  clear hl h8
  go_enter Tryz.func97, Tryz.ntmps97
  go_wp2_with fail
  go_loop [0] (fun s => ∃ (xs : List Nat) (A' : Option Addr) (c' : Nat), s = .slice A' xs.length c' ∧ xs.length ≤ c' ∧ c' ≤ maxLen ∧ Hid (Lies w B A' (xs.map vb)) ∧ Hid (∀ c, c ∈ xs → c < 256) ∧ Hid (bare bs = bare xs)) (fun s => lenS s)
  case atStart => exact ⟨bs, A, c, rfl, hc, hm, HL, H8, Lib.hid rfl⟩
  case round =>
    clear hc hm HL H8
    obtain ⟨xs, A', c', rfl, k1, k2, KL, K8, KE⟩ := hrel
    rcases xs with _ | ⟨d, xs⟩
    · have HE : Hid ((bare bs).length = 0) := Lib.hid (by rw [KE.out]; rfl)
      rw [List.length_nil]
      go_wp2_with fail
      go_ret
      exact ⟨⟨none, 0, by rw [HE.out]; rfl⟩, rfl⟩
    · obtain ⟨ad, rfl, _, hcell⟩ := KL.out.place (by simp)
      have h0 := hcell 0 (vb d) rfl
      have d8 := K8.out d (by simp)
      have hpos : 0 < (d :: xs).length := by simp
      have HL1 : Hid ((d :: xs).length = xs.length + 1) := Lib.hid rfl
      rw [show ad.add 0 = ad by simp [Addr.add]] at h0
      obtain ⟨A2, hA2, _, hc2a⟩ := cut_from (some ad) (d :: xs).length c' 1 hpos k1 k2
      have hc2 : ∀ W : World, Sem.run Tryz.prog (Instr.slice 24 (.slice (some ad) (d :: xs).length c') (some (.int .i64 1)) none none) W = .ok (.slice A2 ((d :: xs).length - 1) (c' - 1)) W := hc2a
      have HLx : Hid (Lies w B A2 (xs.map vb)) := Lib.hid (KL.out.cut (p := 1) (fun h0 => hA2 (by have := HL1.out; omega)) (List.prefix_refl _))
      have H8x : Hid (∀ c, c ∈ xs → c < 256) := Lib.hid fun c hc => K8.out c (by simp [hc])
      by_cases hd : d = 0
      · subst hd
        have HE : Hid (bare bs = bare xs) := Lib.hid (by rw [KE.out, bare_zero])
        have hl2 : (0 :: xs).length - 1 = xs.length := rfl
        rw [hl2] at hc2
        generalize hL : (0 :: xs).length = L at *
        clear hL hcell hc2a
        go_wp2_with fail
        go_round
        case rel => exact ⟨xs, A2, c' - 1, rfl, by have := HL1.out; omega, by unfold maxLen at k2 ⊢; omega, HLx, H8x, HE⟩
        case measure => have := HL1.out; simp [lenS]; omega
      · have HE : Hid ((bare bs).length = (d :: xs).length) := Lib.hid (by rw [KE.out, bare_some hd])
        generalize hL : (d :: xs).length = L at *
        clear hL hcell hc2a
        go_wp2_with fail
        go_ret
        exact ⟨⟨some ad, c', by rw [HE.out]; rfl⟩, rfl⟩
set_option maxRecDepth 100000 in
set_option maxHeartbeats 400000 in
theorem trim_any (A : Option Addr) (c B : Nat) (bs : List Nat) (w : World) (hl : Lies w B A (bs.map vb)) (hc : bs.length ≤ c) (hm : c ≤ maxLen) (h8 : ∀ c, c ∈ bs → c < 256) :
    Calls Tryz.prog 90 #[.slice A bs.length c, .string ⟨#[0]⟩] w fun e w' => (∃ A' c', e = .returned (.slice A' (bare bs).length c')) ∧ w = w' := by
  by_cases h0 : bs.length = 0
  · have hb : bs = [] := List.eq_nil_of_length_eq_zero h0
    subst hb
    rw [List.length_nil]
    go_enter Tryz.func90, Tryz.ntmps90
    go_wp2_with fail
    go_ret
    exact ⟨⟨none, 0, rfl⟩, rfl⟩
  · have HT := Lib.hid (ltb_any A c B bs w hl hc hm h8)
    clear hl h8
    generalize hL : bs.length = L at *
    clear hL
    go_enter Tryz.func90, Tryz.ntmps90
    go_wp2_with fail
    refine HT.out.mono ?_
    rintro e w' ⟨⟨A', c', rfl⟩, rfl⟩
    go_wp2_with fail
    go_ret
    exact ⟨⟨A', c', rfl⟩, rfl⟩
end Go.Proofs.YtnbknihaefkllaaGreatDoor.Fr
/- What Table of package crc, and the document's own, make: the 256 numbers in a row. -/
namespace Go.Proofs.YtnbknihaefkllaaGreatDoor.Crc
set_option linter.unusedVariables false
open Go.RowKit Lift
/-- A number of 32 bits. -/
abbrev vw (c : Nat) : Value := .int .u32 (c : Int)
/-- A slice of the call's own that holds the numbers bs. -/
def Made (B : Nat) (w : World) (bs : List Nat) (e : Ending) (w' : World) : Prop :=
  ∃ v, e = .returned v ∧ w'.ownsRow B 123 1 v bs.length (bs.map vw) ∧ Below B w w'
theorem Made.parts {B : Nat} {w w' : World} {bs : List Nat} {e : Ending} (h : Made B w bs e w') :
    ∃ A c, e = .returned (.slice A bs.length c) ∧ bs.length ≤ c ∧ c ≤ maxLen ∧ Lies w' w'.heap.size A (bs.map vw) ∧ Below B w w' := by
  obtain ⟨v, rfl, ho, hb⟩ := h
  obtain ⟨A, c, rfl, h1, h2, h3⟩ := own_parts ho
  exact ⟨A, c, rfl, h1, h2, h3, hb⟩
theorem tab_take (k : Nat) (hk : k < 256) : tab.take (k + 1) = tab.take k ++ [ent k] := by
  rw [List.take_succ_eq_append_getElem (by rw [tab_length]; omega)]
  have := tab_at k hk
  rw [List.getElem?_eq_getElem (by rw [tab_length]; omega)] at this
  injection this with this
  rw [this]

/-- The block g, of which the first k cells are filled. -/
def Fill (w : World) (g k : Nat) : Prop := ∃ cur : List Value, w.heap[g]? = some (.cells cur.toArray 123 (0, 0)) ∧ cur.length = 256 ∧ cur.take k = (tab.take k).map vw
theorem Fill.next {w : World} {g k : Nat} (h : Fill w g k) (hk : k < 256) : Fill (w.setCell ⟨g, k, none⟩ (vw (ent k))) g (k + 1) := by
  obtain ⟨cur, h1, h2, h3⟩ := h
  refine ⟨cur.set k (vw (ent k)), ?_, by simpa using h2, ?_⟩
  · rw [heap_setCell_same w g k _ _ _ h1]; simp
  · rw [tab_take k hk, List.map_append, ← h3, List.take_succ_eq_append_getElem (by simp; omega)]
    congr 1
    · rw [List.take_set_of_le (by omega)]
    · simp
theorem Fill.cell {w : World} {g k j : Nat} (h : Fill w g k) (hj : j < 256) : ∃ u, w.cell? ⟨g, j, none⟩ = some u := by
  obtain ⟨cur, h1, h2, h3⟩ := h
  exact ⟨cur[j]'(by omega), by simp [World.cell?, h1]⟩
theorem Fill.free {w : World} {g k j : Nat} (h : Fill w g k) : w.frozen? ⟨g, j, none⟩ = false := by
  obtain ⟨cur, h1, _⟩ := h
  exact frozen_of_row w g j _ _ h1
theorem Fill.own {w : World} {B g : Nat} (h : Fill w g 256) (hB : B ≤ g) : w.ownsRow B 123 1 (.slice (some ⟨g, 0, none⟩) 256 256) 256 (tab.map vw) := by
  obtain ⟨cur, h1, h2, h3⟩ := h
  rw [List.take_of_length_le (by omega), List.take_of_length_le (by rw [tab_length]; omega)] at h3
  subst h3
  refine ⟨by rw [List.length_map, tab_length], .inr ⟨g, 256, _, rfl, hB, h1, by omega, by decide, ?_, ?_⟩⟩
  · simp [tab_length]
  · simp only [Nat.mul_one]
    exact List.take_of_length_le (by omega)
set_option maxRecDepth 100000 in
theorem table_any (w : World) : Calls Tryz.prog 55 #[] w (Made w.heap.size w tab) := by
  have hmk : ∀ W : World, Sem.run Tryz.prog (Instr.makeSlice 99 (.int .i64 256) (.int .i64 256)) W =
      .ok (.slice (some ⟨W.heap.size, 0, none⟩) 256 256) (W.alloc (.cells (madeCells #[.int .u32 0] 256) 123)) := fun W => by
    obtain ⟨i, hi, hz, hs, hb⟩ := info_parts (P := Tryz.prog) (e := 123) (z := .int .u32 0) (size := 1) (bytes := 4) (by kernel_rfl)
    have h := run_make (P := Tryz.prog) W 99 123 i (.int .u32 0) Tryz.underlying99 hi hz .i64 .i64 256 256 (by omega) (by omega) (by rw [hb]; omega) (by omega)
    rw [hs, Nat.mul_one] at h
    exact h
  have hz : (madeCells #[Value.int .u32 0] 256).toList.length = 256 := by rw [toList_madeCells_one]; simp
  have hf : ∀ W : World, Fill (W.alloc (.cells (madeCells #[.int .u32 0] 256) 123)) W.heap.size 0 := fun W =>
    ⟨(madeCells #[.int .u32 0] 256).toList, by rw [Array.toArray_toList]; exact heap_alloc_new W _, hz, by simp⟩
  have HF := Lib.hid (hf w)
  have HB := Lib.hid ((Below.refl w.heap.size w).alloc (Nat.le_refl _) (.cells (madeCells #[.int .u32 0] 256) 123))
  have hm := hmk w
  clear hf hz hmk
  go_enter Tryz.func55, Tryz.ntmps55
  go_wp2_with fail
  go_loopw [6] (fun i wr => ∃ k : Nat, i = .int .i64 k ∧ k ≤ 256 ∧ Hid (Fill wr w.heap.size k) ∧ Hid (Below w.heap.size w wr)) (fun i _ => 300 - (intOf i).toNat)
  case atStart => exact ⟨0, rfl, by omega, HF, HB⟩
  case round =>
    obtain ⟨k, rfl, hk, hf, hb⟩ := hrel
    by_cases hlt : k < 256
    · obtain ⟨u, hu⟩ := hf.out.cell hlt
      have hfr := hf.out.free (j := k)
      go_wp2_with (refine (entry_any k _ (by omega)).mono ?_; rintro e w' ⟨rfl, rfl⟩)
      go_roundw
      case rel => exact ⟨k + 1, by go_num, by omega, Lib.hid (hf.out.next hlt), Lib.hid (hb.out.setCell (Nat.le_refl _) _)⟩
      case measure => simp [intOf]; omega
    · have h256 : k = 256 := by omega
      have H256 := Lib.hid h256
      clear h256
      go_wp2_with fail
      go_ret
      have h := hf.out
      rw [H256.out] at h
      exact ⟨_, rfl, by rw [tab_length]; exact h.own (Nat.le_refl _), hb.out⟩

end Go.Proofs.YtnbknihaefkllaaGreatDoor.Crc
/- What Sum of package crc answers, by a table of 256 numbers and by any other. -/
namespace Go.Proofs.YtnbknihaefkllaaGreatDoor.Crc
set_option linter.unusedVariables false
open Go.RowKit Lift
/-- A byte. -/
abbrev vb (c : Nat) : Value := .int .u8 (c : Int)
theorem cells_at {w : World} {ad : Addr} {f : Nat → Value} {bs : List Nat} (h : ∀ (j : Nat) (u : Value), (bs.map f)[j]? = some u → w.cell? (ad.add j) = some u) :
    ∀ (j c : Nat), bs[j]? = some c → w.cell? (ad.add j) = some (f c) :=
  fun j c hj => h j _ (by rw [List.getElem?_map, hj]; rfl)
theorem take_snoc {bs : List Nat} {k c : Nat} (h : bs[k]? = some c) : bs.take (k + 1) = bs.take k ++ [c] := by
  rw [List.take_add_one, h]; rfl
/-- What stands in a table. -/
def look (ts : List Nat) (x : Nat) : Nat := (ts[x]?).getD 0
theorem look_at {ts : List Nat} {x v : Nat} (h : ts[x]? = some v) : v = look ts x := by unfold look; rw [h]; rfl
/-- Where in the table it is looked. -/
def spot (r c : Nat) : Nat := r % 256 ^^^ c
theorem spot_int {r c : Nat} (hc : c < 256) : bits .xor .u8 ((r : Int) % 256) (c : Int) = ((spot r c : Nat) : Int) := by
  have h := u8_xor_nat (r % 256) c (Nat.mod_lt _ (by decide)) hc
  rw [← show ((r % 256 : Nat) : Int) = (r : Int) % 256 from rfl, h]; rfl
theorem spot_lt {r c : Nat} (hc : c < 256) : spot r c < 256 := xor_lt8 (Nat.mod_lt _ (by decide)) hc
theorem turn_int {T : Nat → Nat} {r c v : Nat} (hr : r < 4294967296) (hv : v < 4294967296) (h : v = T (spot r c)) : bits .xor .u32 ((r : Int) / 256) (v : Int) = ((turn T r c : Nat) : Int) := by
  have h2 := u32_xor_nat (r / 256) v (by omega) hv
  rw [← show ((r / 256 : Nat) : Int) = (r : Int) / 256 from rfl, h2, h]; rfl
theorem turn_lt32 {T : Nat → Nat} {r c v : Nat} (hr : r < 4294967296) (hv : v < 4294967296) (h : v = T (spot r c)) : turn T r c < 4294967296 := by
  unfold turn
  exact xor_lt (by omega) (by have h' : v = T (r % 256 ^^^ c) := h; rw [← h']; exact hv)
theorem not_int {r : Nat} (hr : r < 4294967296) : bits .xor .u32 IntKind.u32.max (r : Int) = ((4294967295 - r : Nat) : Int) := by
  rw [not_xor hr, ← u32_xor_nat 4294967295 r (by decide) hr]
  rfl

set_option maxRecDepth 100000 in
set_option maxHeartbeats 400000 in
theorem sum_tab (ad : Addr) (Ab : Option Addr) (ct cb B : Nat) (ts bs : List Nat) (w : World) (ht : ts.length = 256) (hct : 256 ≤ ct) (hl : ∀ j u, (ts.map vw)[j]? = some u → w.cell? (ad.add j) = some u)
    (hb : Lies w B Ab (bs.map vb)) (hcb : bs.length ≤ cb) (hm : bs.length ≤ maxLen) (t32 : ∀ x, x ∈ ts → x < 4294967296) (b8 : ∀ c, c ∈ bs → c < 256) :
    Calls Tryz.prog 78 #[.slice (some ad) 256 ct, .slice Ab bs.length cb] w fun e w' => e = .returned (.int .u32 (crc (look ts) bs : Nat)) ∧ w = w' := by
  unfold maxLen at hm
  have HT := Lib.hid (cells_at hl)
  have HB := Lib.hid hb
  have T32 := Lib.hid t32
  have B8 := Lib.hid b8
  have HL := Lib.hid ht
  clear ht hl hb t32 b8
  have hat := run_arrayAt (P := Tryz.prog) w 175 123 256 (some ad) 256 ct Tryz.underlying175 (by omega)
  go_enter Tryz.func78, Tryz.ntmps78
  go_wp2_with fail
  go_loop [6, 17] (fun x i => ∃ k r : Nat, k ≤ bs.length ∧ r ≤ 4294967295 ∧ i = .int .i64 k ∧ x = .int .u32 r ∧ Hid (r = reg (look ts) 4294967295 (bs.take k))) (fun _ i => bs.length + 1 - (intOf i).toNat)
  case atStart => exact ⟨0, 4294967295, by omega, by omega, rfl, rfl, Lib.hid rfl⟩
  case round =>
    obtain ⟨k, r, hk, hr, rfl, rfl, hd⟩ := hrel
    by_cases hlt : k < bs.length
    · obtain ⟨ab, hab, _, hcell⟩ := HB.out.place (by simp; omega)
      subst hab
      obtain ⟨c, hc⟩ : ∃ c : Nat, bs[k]? = some c := ⟨_, List.getElem?_eq_getElem hlt⟩
      have c8 := B8.out c (List.mem_of_getElem? hc)
      have hs := spot_lt (r := r) c8
      obtain ⟨v, hv0⟩ : ∃ v : Nat, ts[spot r c]? = some v := ⟨_, List.getElem?_eq_getElem (by rw [HL.out]; exact hs)⟩
      have v32 := T32.out v (List.mem_of_getElem? hv0)
      have h2 := HT.out _ v hv0
      have hv := look_at hv0
      clear hv0
      have h1 := cells_at hcell k c hc
      have e := spot_int (r := r) c8
      have HC := Lib.hid hc
      have HV := Lib.hid hv
      clear hcell hc hv
      go_wp2_with fail
      go_round
      case rel =>
        have hr2 := turn_lt32 (T := (look ts)) (r := r) (c := c) (by omega) v32 HV.out
        exact ⟨k + 1, turn (look ts) r c, by omega, by omega, by go_num, by rw [turn_int (by omega) v32 HV.out], Lib.hid (by rw [take_snoc HC.out, reg_snoc, hd.out])⟩
      case measure => simp [intOf]; omega
    · have hk2 : k = bs.length := by omega
      have HK := Lib.hid hk2
      clear hk2
      go_wp2_with fail
      go_ret
      exact ⟨ret_u32 (by rw [not_int (by omega), hd.out, HK.out, List.take_length]; rfl), rfl⟩

theorem tab_look : ∀ x, x < 256 → look tab x = ent x := fun x h => by unfold look; rw [tab_at x h]; rfl
theorem tab32 : ∀ x, x ∈ tab → x < 4294967296 := fun x h => by
  obtain ⟨y, hy, rfl⟩ := List.mem_map.1 h
  exact ent_ok y (by simpa using hy)

set_option maxRecDepth 100000 in
set_option maxHeartbeats 400000 in
theorem sum_no (At Ab : Option Addr) (n ct cb B : Nat) (bs : List Nat) (w : World) (hn : n ≠ 256)
    (hb : Lies w B Ab (bs.map vb)) (hB : B ≤ w.heap.size) (hcb : bs.length ≤ cb) (hm : bs.length ≤ maxLen) (b8 : ∀ c, c ∈ bs → c < 256) :
    Calls Tryz.prog 78 #[.slice At n ct, .slice Ab bs.length cb] w fun e w' => e = .returned (.int .u32 (crc ent bs : Nat)) ∧ Below w.heap.size w w' := by
  unfold maxLen at hm
  have HB0 := Lib.hid (hb.up hB)
  have B8 := Lib.hid b8
  have hne : ((n : Int) != 256) = true := by rw [bne_iff_ne]; omega
  clear hb hB b8 hn
  go_enter Tryz.func78, Tryz.ntmps78
  go_wp2_with fail
  refine (table_any w).mono ?_
  intro e w1 hmade
  obtain ⟨A1, c1, rfl, hc1, hm1, hl1, hb1⟩ := hmade.parts
  clear hmade
  rw [tab_length] at hc1 ⊢
  obtain ⟨ad, rfl, _, hcells⟩ := hl1.place (by rw [List.length_map, tab_length]; decide)
  have HT := Lib.hid (cells_at hcells)
  have HB := Lib.hid (HB0.out.below hb1)
  have HB1 := Lib.hid hb1
  clear hl1 hcells hb1
  have hat := run_arrayAt (P := Tryz.prog) w1 175 123 256 (some ad) 256 c1 Tryz.underlying175 (by omega)
  go_wp2_with fail
  go_loop [6, 17] (fun x i => ∃ k r : Nat, k ≤ bs.length ∧ r ≤ 4294967295 ∧ i = .int .i64 k ∧ x = .int .u32 r ∧ Hid (r = reg ent 4294967295 (bs.take k))) (fun _ i => bs.length + 1 - (intOf i).toNat)
  case atStart => exact ⟨0, 4294967295, by omega, by omega, rfl, rfl, Lib.hid rfl⟩
  case round =>
    obtain ⟨k, r, hk, hr, rfl, rfl, hd⟩ := hrel
    by_cases hlt : k < bs.length
    · obtain ⟨ab, hab, _, hcell⟩ := HB.out.place (by simp; omega)
      subst hab
      obtain ⟨c, hc⟩ : ∃ c : Nat, bs[k]? = some c := ⟨_, List.getElem?_eq_getElem hlt⟩
      have c8 := B8.out c (List.mem_of_getElem? hc)
      have hs := spot_lt (r := r) c8
      obtain ⟨v, rfl⟩ : ∃ v : Nat, v = ent (spot r c) := ⟨_, rfl⟩
      have v32 := ent_ok _ hs
      have h2 := HT.out _ _ (tab_at _ hs)
      have hv : ent (spot r c) = ent (spot r c) := rfl
      have h1 := cells_at hcell k c hc
      have e := spot_int (r := r) c8
      have HC := Lib.hid hc
      have HV := Lib.hid hv
      clear hcell hc hv
      go_wp2_with fail
      go_round
      case rel =>
        have hr2 := turn_lt32 (T := ent) (r := r) (c := c) (by omega) v32 HV.out
        exact ⟨k + 1, turn ent r c, by omega, by omega, by go_num, by rw [turn_int (by omega) v32 HV.out], Lib.hid (by rw [take_snoc HC.out, reg_snoc, hd.out])⟩
      case measure => simp [intOf]; omega
    · have hk2 : k = bs.length := by omega
      have HK := Lib.hid hk2
      clear hk2
      go_wp2_with fail
      go_ret
      exact ⟨ret_u32 (by rw [not_int (by omega), hd.out, HK.out, List.take_length]; rfl), HB1.out⟩
end Go.Proofs.YtnbknihaefkllaaGreatDoor.Crc
/- What the document's own sums answer, when two tables are called the same, and the example of the document. -/
namespace Go.Proofs.YtnbknihaefkllaaGreatDoor.Crc
set_option linter.unusedVariables false
open Go.RowKit Lift
theorem spot_and {r c : Nat} (hr : r < 4294967296) (hc : c < 256) : bits .and .u32 (bits .xor .u32 (r : Int) (c : Int)) 255 = ((spot r c : Nat) : Int) := by
  have h1 := u32_xor_nat r c hr (by omega)
  have h2 := u32_and_nat (r ^^^ c) 255 (xor_lt hr (by omega)) (by decide)
  rw [show ((255 : Nat) : Int) = 255 from rfl] at h2
  rw [h1, h2, show (r ^^^ c) &&& 255 = (r ^^^ c) % 2 ^ 8 from Nat.and_two_pow_sub_one_eq_mod (r ^^^ c) 8, Nat.xor_mod_two_pow]
  unfold spot
  rw [show c % 2 ^ 8 = c from Nat.mod_eq_of_lt hc]

set_option maxRecDepth 100000 in
set_option maxHeartbeats 400000 in
theorem crc_any (Ab : Option Addr) (cb B : Nat) (bs : List Nat) (w : World) (hb : Lies w B Ab (bs.map vb)) (hcb : bs.length ≤ cb) (hm : bs.length ≤ maxLen) (b8 : ∀ c, c ∈ bs → c < 256) :
    Calls Tryz.prog 89 #[.slice Ab bs.length cb] w fun e w' => e = .returned (.int .u32 (crc ent bs : Nat)) ∧ w = w' := by
  unfold maxLen at hm
  have HB := Lib.hid hb
  have B8 := Lib.hid b8
  clear hb b8
  go_enter Tryz.func89, Tryz.ntmps89
  go_wp2_with fail
  go_loop [3, 4] (fun x i => ∃ k r : Nat, k ≤ bs.length ∧ r ≤ 4294967295 ∧ i = .int .i64 k ∧ x = .int .u32 r ∧ Hid (r = reg ent 4294967295 (bs.take k))) (fun _ i => bs.length + 1 - (intOf i).toNat)
  case atStart => exact ⟨0, 4294967295, by omega, by omega, rfl, rfl, Lib.hid rfl⟩
  case round =>
    obtain ⟨k, r, hk, hr, rfl, rfl, hd⟩ := hrel
    by_cases hlt : k < bs.length
    · obtain ⟨ab, hab, _, hcell⟩ := HB.out.place (by simp; omega)
      subst hab
      obtain ⟨c, hc⟩ : ∃ c : Nat, bs[k]? = some c := ⟨_, List.getElem?_eq_getElem hlt⟩
      have c8 := B8.out c (List.mem_of_getElem? hc)
      have hs := spot_lt (r := r) c8
      have hv := ent_ok _ hs
      have h1 := cells_at hcell k c hc
      have e := spot_and (r := r) (by omega) c8
      have HC := Lib.hid hc
      clear hcell hc
      go_wp2_with (refine (step_any (spot r c) _ (by omega)).mono ?_; rintro e w' ⟨rfl, rfl⟩)
      go_round
      case rel =>
        have hr2 := turn_lt32 (T := ent) (r := r) (c := c) (by omega) hv rfl
        exact ⟨k + 1, turn ent r c, by omega, by omega, by go_num, by rw [turn_int (by omega) hv rfl], Lib.hid (by rw [take_snoc HC.out, reg_snoc, hd.out])⟩
      case measure => simp [intOf]; omega
    · have hk2 : k = bs.length := by omega
      have HK := Lib.hid hk2
      clear hk2
      go_wp2_with fail
      go_ret
      exact ⟨ret_u32 (by rw [not_int (by omega), hd.out, HK.out, List.take_length]; rfl), rfl⟩

end Go.Proofs.YtnbknihaefkllaaGreatDoor.Crc
/- What skipPadding of package frame answers. -/
namespace Go.Proofs.YtnbknihaefkllaaGreatDoor.Fr
set_option linter.unusedVariables false
set_option linter.unusedSimpArgs false
open Go.RowKit Lift Ik
/-- A reader of the bytes b, at the place a. -/
structure Rr (w : World) (g : Nat) (A : Option Addr) (c : Nat) (b : List Nat) (a : Nat) (As : Option Addr) (cs : Nat) : Prop where
  box : Box w g 109 [.slice A b.length c, .int .i64 (a : Int), .slice As 256 cs]
  log : Lies w g A (b.map vb)
  sums : Lies w g As (Crc.tab.map Crc.vw)
  len : b.length ≤ c
  cap : c ≤ maxLen
  small : b.length ≤ 20000000
  byte : ∀ x, x ∈ b → x < 256
  place : a ≤ b.length
  cap2 : 256 ≤ cs
theorem Rr.moved {w w' : World} {g c a a' cs : Nat} {A As : Option Addr} {b : List Nat} (h : Rr w g A c b a As cs) (hk : Keep (· = g) w w') (hb : Box w' g 109 [.slice A b.length c, .int .i64 (a' : Int), .slice As 256 cs]) (ha : a' ≤ b.length) : Rr w' g A c b a' As cs :=
  ⟨hb, h.log.later fun p hp => World.cell?_of_block (hk.block _ (Nat.lt_trans hp h.box.lt) (by omega)), h.sums.later fun p hp => World.cell?_of_block (hk.block _ (Nat.lt_trans hp h.box.lt) (by omega)), h.len, h.cap, h.small, h.byte, ha, h.cap2⟩
theorem Rr.below {w w' : World} {g c a cs B : Nat} {A As : Option Addr} {b : List Nat} (h : Rr w g A c b a As cs) (hk : Below B w w') (hB : g < B) : Rr w' g A c b a As cs :=
  ⟨h.box.below hk hB, h.log.later fun p hp => hk.cell (Nat.lt_trans hp hB), h.sums.later fun p hp => hk.cell (Nat.lt_trans hp hB), h.len, h.cap, h.small, h.byte, h.place, h.cap2⟩
theorem clean_far {b : List Nat} {a : Nat} (h : ¬ left a < 7) : clean b a ∧ skip b a = a := by
  unfold clean padding skip
  rw [if_neg h, if_neg h]
  exact ⟨by simp, rfl⟩
set_option maxRecDepth 100000 in
set_option maxHeartbeats 800000 in
theorem skip_any (g c a cs : Nat) (A As : Option Addr) (b : List Nat) (w : World) (h : Rr w g A c b a As cs) :
    Calls Tryz.prog (81) #[.pointer (some ⟨g, 0, none⟩)] w fun e w' => e = .returned (.bool (decide (clean b a))) ∧ Keep (· = g) w w' ∧ Rr w' g A c b (skip b a) As cs := by
  have H := Lib.hid h
  obtain ⟨p0, p1, p2, f0, f1, f2⟩ := h.box.facts3
  have hpl := h.place
  have hsm := h.small
  have hlp := left_pos a
  have HRM := Lib.hid (room_any a w (by omega))
  by_cases h7 : left a < 7
  · obtain ⟨k, hk⟩ : ∃ k, k = min (left a) (b.length - a) := ⟨_, rfl⟩
    have hskip : Hid (skip b a = a + k) := Lib.hid (by unfold skip; rw [if_pos h7]; omega)
    have hpad : Hid (padding b a = (b.drop a).take (left a)) := Lib.hid (by unfold padding; rw [if_pos h7])
    have hpk : Hid ((padding b a).length = k) := Lib.hid (by rw [hpad.out, List.length_take, List.length_drop]; omega)
    have hclean : Hid (decide (clean b a) = decide (((bare (padding b a)).length : Int) = 0)) := Lib.hid (by
      have e := bare_nil (padding b a)
      by_cases hc : clean b a
      · rw [decide_eq_true hc, decide_eq_true (by have := e.2 hc; omega)]
      · rw [decide_eq_false hc, decide_eq_false (fun h0 => hc (e.1 (by omega)))])
    obtain ⟨A2, hA2, _, hcut⟩ := cut_mid A b.length c a k (by omega) h.len h.cap
    have HLp : Hid (Lies w g A2 ((padding b a).map vb)) := Lib.hid (h.log.cut (p := a) (fun h0 => hA2 (by rw [hpk.out] at h0; exact h0)) (by rw [hpad.out]; exact List.take_prefix _ _))
    have H8p : Hid (∀ x, x ∈ padding b a → x < 256) := Lib.hid (by rw [hpad.out]; exact fun x hx => h.byte x (List.mem_of_mem_drop (List.mem_of_mem_take hx)))
    have emin : min ((a : Int) + (left a : Int)) (b.length : Int) = (a : Int) + (k : Int) := by omega
    have hcut2 := fun W => hcut W ((a : Int) + (k : Int)) rfl
    have hkc : k ≤ c - a := by have := h.len; omega
    have hcm : c - a ≤ maxLen := by have := h.cap; unfold maxLen at this ⊢; omega
    have hka : a + k ≤ b.length := by omega
    clear hcut hk h
    generalize hL : left a = L at *
    go_enter (Tryz.func81), (Tryz.ntmps81)
    go_wp2_with fail
    refine HRM.out.mono ?_; rintro e w' ⟨rfl, rfl⟩
    go_wp2_with fail
    go_quiet (fail)
    go_wp2_with fail
    have hbd := Joins.below_draws w.heap.size w nq
    have hk1 : Keep (· = g) w ((w.drewN nq).setCell ⟨g, 1, none⟩ (.int .i64 ((a : Int) + (k : Int)))) := Keep.setCell (S := (· = g)) (p := ⟨g, 1, none⟩) (below_keep hbd) (.inr rfl) _
    have hb1 := (H.out.box.below hbd H.out.box.lt).set 1 (.int .i64 ((a : Int) + (k : Int)))
    have HR1 : Hid (Rr ((w.drewN nq).setCell ⟨g, 1, none⟩ (.int .i64 ((a : Int) + (k : Int)))) g A c b (a + k) As cs) := Lib.hid (H.out.moved hk1 hb1 hka)
    have HT := Lib.hid (trim_any A2 (c - a) g (padding b a) ((w.drewN nq).setCell ⟨g, 1, none⟩ (.int .i64 ((a : Int) + (k : Int)))) (HLp.out.later fun p hp => World.cell?_of_block (hk1.block _ (Nat.lt_trans hp H.out.box.lt) (by omega))) (by rw [hpk.out]; exact hkc) hcm H8p.out)
    rw [hpk.out] at HT
    have HK1 := Lib.hid hk1
    clear hbd hk1 hb1
    generalize (w.drewN nq).setCell ⟨g, 1, none⟩ (.int .i64 ((a : Int) + (k : Int))) = W1 at *
    refine HT.out.mono ?_
    rintro e w' ⟨⟨A', c', rfl⟩, rfl⟩
    go_wp2_with fail
    go_ret
    exact ⟨by rw [hclean.out]; rfl, HK1.out, by rw [hskip.out]; exact HR1.out⟩
  · obtain ⟨c1, c2⟩ := clean_far (b := b) h7
    have HC1 := Lib.hid c1
    have HC2 := Lib.hid c2
    clear c1 c2 h
    go_enter (Tryz.func81), (Tryz.ntmps81)
    go_wp2_with fail
    refine HRM.out.mono ?_; rintro e w' ⟨rfl, rfl⟩
    go_wp2_with fail
    go_ret
    exact ⟨by rw [decide_eq_true HC1.out]; rfl, Keep.refl _ _, by rw [HC2.out]; exact H.out⟩
end Go.Proofs.YtnbknihaefkllaaGreatDoor.Fr
/- A piece, written by package frame and by the document's own: what appendFragment and piece answer. -/
namespace Go.Proofs.YtnbknihaefkllaaGreatDoor.Fr
set_option linter.unusedVariables false
set_option linter.unusedSimpArgs false
open Go.RowKit Lift Ik
/-- The sum by the table of the package. -/
theorem sum_by_tab (At Ab : Option Addr) (ct cb B : Nat) (bs : List Nat) (w : World) (hct : 256 ≤ ct) (hl : Lies w w.heap.size At (Crc.tab.map Crc.vw))
    (hb : Lies w B Ab (bs.map vb)) (hcb : bs.length ≤ cb) (hm : bs.length ≤ maxLen) (b8 : ∀ c, c ∈ bs → c < 256) :
    Calls Tryz.prog 78 #[.slice At 256 ct, .slice Ab bs.length cb] w fun e w' => e = .returned (.int .u32 (Crc.crc Crc.ent bs : Nat)) ∧ w = w' := by
  obtain ⟨ad, rfl, _, hc⟩ := hl.place (by rw [List.length_map, Crc.tab_length]; decide)
  have h := Crc.sum_tab ad Ab ct cb B Crc.tab bs w Crc.tab_length hct hc hb hcb hm Crc.tab32 b8
  rw [Crc.crc_congr Crc.tab_look bs b8] at h
  exact h
/-- []byte{k}, and bytes behind it. -/
theorem one_then (k : Nat) (d : List Nat) (Ad : Option Addr) (c B : Nat) (w : World) (hd : Lies w B Ad (d.map vb)) (hB : B ≤ w.heap.size) (hn : d.length ≤ 1000000) :
    ∃ A c2 W, Sem.run Tryz.prog (Builtin.append_ #[24, 24] 24 #[.slice (some ⟨w.heap.size, 0, none⟩) 1 1, .slice Ad d.length c]) (w.alloc (.cells #[vb k] 5)) = .ok (.slice A (k :: d).length c2) W ∧
      (k :: d).length ≤ c2 ∧ c2 ≤ maxLen ∧ W.ownsRow w.heap.size 5 1 (.slice A (k :: d).length c2) (k :: d).length ((k :: d).map vb) ∧ Below w.heap.size w W := by
  have hb0 := Joins.below_alloc1 w (.cells #[vb k] 5)
  have hown : (w.alloc (.cells #[vb k] 5)).ownsRow w.heap.size 5 1 (.slice (some ⟨w.heap.size, 0, none⟩) 1 1) [k].length ([k].map vb) :=
    ⟨rfl, .inr ⟨w.heap.size, 1, #[vb k], rfl, Nat.le_refl _, heap_alloc_new w _, Nat.le_refl _, by decide, rfl, rfl⟩⟩
  obtain ⟨v, W, hr, ho, hon⟩ := append_bytes (c := c) hown ((hd.up hB).below hb0) (by simp; omega) hb0.size
  obtain ⟨A, c2, rfl, h1, h2, h3⟩ := own_parts ho
  exact ⟨A, c2, W, hr, h1, h2, ho, hb0.trans (hon.below hown hb0.size)⟩
theorem len_cons (k : Nat) (d : List Nat) : ((k :: d).length : Nat) = d.length + 1 := rfl
set_option maxRecDepth 100000 in
set_option maxHeartbeats 800000 in
theorem frag_any (base k cs cd : Nat) (v : Value) (As Ad : Option Addr) (xs d : List Nat) (w : World) (h : w.ownsRow base 5 1 v xs.length (xs.map vb)) (hbase : base ≤ w.heap.size) (hs : Lies w w.heap.size As (Crc.tab.map Crc.vw)) (hcs : 256 ≤ cs)
    (hd : Lies w base Ad (d.map vb)) (hcd : d.length ≤ cd) (hmd : cd ≤ maxLen) (hxn : xs.length ≤ 140737480000000) (hdn : d.length ≤ 1000000) (hk : k < 256) (d8 : ∀ c, c ∈ d → c < 256) :
    Calls Tryz.prog 56 #[v, .slice As 256 cs, .int .u8 (k : Int), .slice Ad d.length cd] w (Grew base v w (xs ++ piece k d)) := by
  obtain ⟨A1, c1, W1, hr1, hc1, hm1, ho1, hb1⟩ := one_then k d Ad cd base w hd hbase hdn
  have hl1 := Lies.of_own ho1
  have hoff : Off v W1 A1 ((k :: d).map vb) := LiesP.later (LiesP.of_own ho1) (fun _ _ => rfl) fun j hj => ⟨hj.2.1, fun he => by have := (h.lt j he).2; omega⟩
  have HOFF := Lib.hid hoff
  clear hoff ho1
  have s8 : ∀ c, c ∈ k :: d → c < 256 := fun c hc => by rcases List.mem_cons.1 hc with rfl | hc; exact hk; exact d8 c hc
  have hS := sum_by_tab As A1 cs c1 W1.heap.size (k :: d) W1 hcs ((hs.below hb1).up hb1.size) hl1 hc1 (Nat.le_trans hc1 hm1) s8
  have h32 : Crc.crc Crc.ent (k :: d) ≤ 4294967295 := by unfold Crc.crc; omega
  have hM := Crc.mask_any (Crc.crc Crc.ent (k :: d)) W1 h32
  have hN := nums_any base (sumB k d) 4 v xs W1 (own_later h hb1) (Nat.le_trans hbase hb1.size) (by omega) (sumB_lt k d) (by omega)
  have HS := Lib.hid hS
  have HM := Lib.hid hM
  have HN := Lib.hid hN
  have HR1 := Lib.hid hr1
  have HB1 := Lib.hid hb1
  have HL1 := Lib.hid hl1
  have HO := Lib.hid h
  have HZ := Lib.hid hbase
  have HD := Lib.hid hd
  have HK := Lib.hid (show piece k d = low (sumB k d) 4 ++ low d.length 2 ++ k :: d from rfl)
  have ec : ((k :: d).length : Nat) = d.length + 1 := rfl
  have HC1 := Lib.hid hc1
  have HSB : Hid (sumB k d = Crc.maskN (Crc.crc Crc.ent (k :: d))) := Lib.hid rfl
  have w32 : ((d.length : Int) % 4294967296) = (d.length : Int) := by omega
  clear hS hM hN hr1 hb1 hl1 h hbase hd hs s8 d8 hk hc1 ec
  have HTL0 : Hid ((k :: d).length = d.length + 1) := Lib.hid rfl
  generalize hT : k :: d = T at *
  clear hT
  have HTL : Hid (T.length = d.length + 1) := HTL0
  generalize hC : Crc.crc Crc.ent T = C at *
  clear hC
  generalize sumB k d = SB at *
  generalize piece k d = PC at *
  go_enter Tryz.func56, Tryz.ntmps56
  go_wp2_with (at_builtin; refine wpList_append_run rfl _ _ 24 rfl rfl rfl HR1.out ?_)
  refine HS.out.mono ?_; rintro e w' ⟨rfl, rfl⟩
  go_wp2_with fail
  refine HM.out.mono ?_; rintro e w' ⟨rfl, rfl⟩
  rw [← HSB.out]
  go_wp2_with fail
  refine HN.out.mono ?_; rintro e W2 ⟨v2, rfl, ho2, on2⟩
  have l4 := low_length SB 4
  have HN2 := Lib.hid (nums_any base d.length 2 v2 (xs ++ low SB 4) W2 ho2 (Nat.le_trans (Nat.le_trans HZ.out HB1.out.size) on2.keep.size) (by rw [List.length_append]; omega) (by omega) (by omega))
  have ON2 := Lib.hid on2
  have HO2 := Lib.hid ho2
  clear ho2 on2
  go_wp2_with fail
  refine HN2.out.mono ?_; rintro e W3 ⟨v3, rfl, ho3, on3⟩
  have l2 := low_length d.length 2
  have ON3 := Lib.hid (ON2.out.trans on3)
  have hz3 : base ≤ W3.heap.size := Nat.le_trans (Nat.le_trans HZ.out HB1.out.size) ON3.out.keep.size
  have e13 : (xs ++ low SB 4 ++ low d.length 2).length = xs.length + 6 := by rw [List.length_append, List.length_append]; omega
  obtain ⟨v4, W4, hr4, ho4, on4⟩ := append_bytes (c := c1) ho3 ((HOFF.out.onto ON3.out).lies) (by rw [e13]; have := HTL.out; omega) hz3
  have HR4 := Lib.hid hr4
  have HO4 := Lib.hid ho4
  have ON4 := Lib.hid (Onto.pre HB1.out (ON3.out.trans on4))
  clear ho3 on3 hr4 ho4 on4 e13 l2 l4
  go_wp2_with (at_builtin; refine wpList_append_run rfl _ _ 24 rfl rfl rfl HR4.out ?_)
  go_ret
  refine ⟨_, rfl, ?_, ON4.out⟩
  rw [HK.out, ← List.append_assoc, ← List.append_assoc]
  exact HO4.out
end Go.Proofs.YtnbknihaefkllaaGreatDoor.Fr
/- What next of package frame answers. -/
namespace Go.Proofs.YtnbknihaefkllaaGreatDoor.Fr
set_option linter.unusedVariables false
set_option linter.unusedSimpArgs false
open Go.RowKit Lift Ik
theorem Rr.drewn {w : World} {g c a cs : Nat} {A As : Option Addr} {b : List Nat} (h : Rr w g A c b a As cs) (m : Nat) : Rr (w.drewN m) g A c b a As cs :=
  h.below (Joins.below_draws w.heap.size w m) h.box.lt
/-- What next tells: the log's end, or a piece. -/
def Nx (w : World) (g : Nat) (A : Option Addr) (c : Nat) (b : List Nat) (a : Nat) (As : Option Addr) (cs : Nat) (e : Ending) (w' : World) : Prop :=
  Keep (· = g) w w' ∧ ((∃ cl a', nxt b a = .stop cl ∧ cl ≤ 2 ∧ e = .returned (.tuple #[.int .u8 0, .slice none 0 0, .int .i64 (cl : Int)]) ∧ Rr w' g A c b a' As cs) ∨
    (∃ k d a' ad cd, nxt b a = .frag k d a' ∧ e = .returned (.tuple #[.int .u8 (k : Int), .slice (some ad) d.length cd, .int .i64 0]) ∧ Lies w' g (some ad) (d.map vb) ∧ d.length ≤ cd ∧ cd ≤ maxLen ∧ (∀ x, x ∈ d → x < 256) ∧ Rr w' g A c b a' As cs))
theorem frg_stop {b : List Nat} {a : Nat} {r : List Nat} (hr : r = b.drop a) (ha : a ≤ b.length) :
    (r.length = 0 → frg b a = .stop 0) ∧ (0 < r.length → r.length < 7 → frg b a = .stop 1) ∧ (7 ≤ r.length → left a < 7 + num2 r → frg b a = .stop 2) ∧ (7 ≤ r.length → 7 + num2 r ≤ left a → r.length < 7 + num2 r → frg b a = .stop 1) ∧
    (7 ≤ r.length → 7 + num2 r ≤ left a → 7 + num2 r ≤ r.length → ¬ good r → frg b a = .stop 2) ∧ (7 ≤ r.length → 7 + num2 r ≤ left a → 7 + num2 r ≤ r.length → good r → frg b a = .frag (kindOf r) (dataOf r) (a + (7 + num2 r))) := by
  subst hr
  rw [List.length_drop]
  unfold frg
  refine ⟨fun h => ?_, fun h h1 => ?_, fun h h1 => ?_, fun h h1 h2 => ?_, fun h h1 h2 h3 => ?_, fun h h1 h2 h3 => ?_⟩
  · rw [if_pos (by omega)]
  · rw [if_neg (by omega), if_pos (by omega)]
  · rw [if_neg (by omega), if_neg (by omega), if_pos (by omega)]
  · rw [if_neg (by omega), if_neg (by omega), if_neg (by omega), if_pos (by omega)]
  · rw [if_neg (by omega), if_neg (by omega), if_neg (by omega), if_neg (by omega), if_neg h3]
  · rw [if_neg (by omega), if_neg (by omega), if_neg (by omega), if_neg (by omega), if_pos h3]
theorem split6 {r : List Nat} (h : 7 + num2 r ≤ r.length) : (r.drop 6).take (1 + num2 r) = kindOf r :: dataOf r ∧ (dataOf r).length = num2 r ∧ r[6]? = some (kindOf r) := by
  obtain ⟨k, hk⟩ : ∃ k, r[6]? = some k := ⟨_, List.getElem?_eq_getElem (by omega)⟩
  have e : kindOf r = k := by unfold kindOf; rw [hk]; rfl
  refine ⟨?_, ?_, by rw [e]; exact hk⟩
  · rw [drop_cons hk, Nat.add_comm 1, List.take_succ_cons, e]
    rfl
  · unfold dataOf
    rw [List.length_take, List.length_drop]
    omega
set_option maxRecDepth 100000 in
set_option maxHeartbeats 3200000 in
theorem next_any (g c a cs : Nat) (A As : Option Addr) (b : List Nat) (w : World) (h : Rr w g A c b a As cs) :
    Calls Tryz.prog (65) #[.pointer (some ⟨g, 0, none⟩)] w (Nx w g A c b a As cs) := by
  have HSK := Lib.hid (skip_any g c a cs A As b w h)
  clear h
  go_enter (Tryz.func65), (Tryz.ntmps65)
  go_wp2_with fail
  refine HSK.out.mono ?_; rintro e W1 ⟨rfl, hk1, hr1⟩
  have HK1 := Lib.hid hk1
  have HR1 := Lib.hid hr1
  clear hk1 hr1 HSK
  by_cases hcl : clean b a
  · have HX : Hid (nxt b a = frg b (skip b a)) := Lib.hid (by unfold nxt; rw [if_pos hcl])
    rw [decide_eq_true hcl]
    clear hcl
    generalize skip b a = a1 at *
    have hpl := HR1.out.place
    have hsm := HR1.out.small
    have hcap := HR1.out.cap
    have hlen := HR1.out.len
    obtain ⟨p0, p1, p2, f0, f1, f2⟩ := HR1.out.box.facts3
    obtain ⟨A1, hA1, hsome, hcut⟩ := cut_from A b.length c a1 (by omega) hlen hcap
    obtain ⟨r, hr⟩ : ∃ r, r = b.drop a1 := ⟨_, rfl⟩
    have hrl : b.length - a1 = r.length := by rw [hr, List.length_drop]
    rw [hrl] at hcut
    obtain ⟨F0, F1, F2, F3, F4, F5⟩ := frg_stop hr hpl
    have G0 := Lib.hid F0
    have G1 := Lib.hid F1
    have G2 := Lib.hid F2
    have G3 := Lib.hid F3
    have G4 := Lib.hid F4
    have G5 := Lib.hid F5
    have HLr : Hid (∀ m, Lies (W1.drewN m) g A1 (r.map vb)) := Lib.hid fun m => (HR1.out.drewn m).log.cut (p := a1) (fun h0 => hA1 (by omega)) (by rw [hr]; exact List.prefix_refl _)
    have H8r : Hid (∀ x, x ∈ r → x < 256) := Lib.hid (by rw [hr]; exact fun x hx => HR1.out.byte x (List.mem_of_mem_drop hx))
    have hrc : r.length ≤ c - a1 := by omega
    have hcm : c - a1 ≤ maxLen := by unfold maxLen at hcap ⊢; omega
    have HRI := Lib.hid hr
    have hrs : r.length ≤ 20000000 := by omega
    clear F0 F1 F2 F3 F4 F5 hr hrl hA1
    go_wp2_with fail
    go_quiet (fail)
    have HK2 := Lib.hid (HK1.out.trans (below_keep (S := (· = g)) (Joins.below_draws _ W1 nq)) fun _ _ h => h)
    have HR2 := Lib.hid (HR1.out.drewn nq)
    have HLr2 := Lib.hid (HLr.out nq)
    clear HK1 HR1 HLr p0 p1 p2 f0 f1 f2
    generalize W1.drewN nq = W2 at *
    obtain ⟨p0, p1, p2, f0, f1, f2⟩ := HR2.out.box.facts3
    have HLr : Hid (∀ m, Lies (W2.drewN m) g A1 (r.map vb)) := Lib.hid fun m => HLr2.out.later fun p hp => (Joins.below_draws W2.heap.size W2 m).cell (Nat.lt_trans hp HR2.out.box.lt)
    by_cases h0 : r.length = 0
    · have E := Lib.hid (HX.out.trans (G0.out h0))
      clear hcut
      go_wp2_with fail
      go_returns
      exact ⟨HK2.out, .inl ⟨0, a1, E.out, by decide, rfl, HR2.out⟩⟩
    · by_cases h7 : r.length < 7
      · have E := Lib.hid (HX.out.trans (G1.out (by omega) h7))
        clear hcut
        go_wp2_with fail
        go_returns
        exact ⟨HK2.out, .inl ⟨1, a1, E.out, by decide, rfl, HR2.out⟩⟩
      · obtain ⟨ad1, rfl, hb1, hcell⟩ := HLr2.out.place (by rw [List.length_map]; omega)
        obtain ⟨A2, hA2, _, hmid⟩ := cut_mid (some ad1) r.length (c - a1) 4 2 (by omega) hrc hcm
        have hc46 : ∀ W : World, Sem.run Tryz.prog (Instr.slice 24 (.slice (some ad1) r.length (c - a1)) (some (.int .i64 4)) (some (.int .i64 6)) none) W = .ok (.slice A2 2 (c - a1 - 4)) W := fun W => hmid W 6 (by decide)
        have l2 : ((r.drop 4).take 2).length = 2 := by rw [List.length_take, List.length_drop]; omega
        have HN : Hid (Calls Tryz.prog 82 #[.slice A2 2 (c - a1 - 4)] W2 fun e w' => e = .returned (.int .u32 (num2 r : Nat)) ∧ W2 = w') := Lib.hid <| by
          have hh := number_any A2 (c - a1 - 4) g ((r.drop 4).take 2) W2 (HLr2.out.cut (p := 4) (fun h0 => hA2 (by omega)) (List.take_prefix _ _)) (by omega) (by rw [l2]; omega) (by unfold maxLen at hcm ⊢; omega) (byte_front H8r.out fun x hx => List.mem_of_mem_drop (List.mem_of_mem_take hx))
          rw [l2] at hh
          exact hh
        have hn2 : num2 r < 65536 := by
          have := num_lt ((r.drop 4).take 2) (byte_front H8r.out fun x hx => List.mem_of_mem_drop (List.mem_of_mem_take hx))
          rw [l2] at this
          exact this
        have HRM := Lib.hid (room_any a1 W2 (by omega))
        have HSP := Lib.hid (split6 (r := r))
        have hlp := left_pos a1
        have HGD : Hid (good r ↔ num (r.take 4) = sumB (kindOf r) (dataOf r) ∧ 1 ≤ kindOf r ∧ kindOf r ≤ 4) := Lib.hid (by unfold good; exact Iff.rfl)
        have HD8 : Hid (∀ x, x ∈ dataOf r → x < 256) := Lib.hid (byte_front H8r.out fun x hx => List.mem_of_mem_drop (List.mem_of_mem_take hx))
        have HDT : Hid (dataOf r = (r.drop 7).take (num2 r)) := Lib.hid rfl
        clear hmid l2 hA2
        generalize num2 r = n at *
        generalize left a1 = L at *
        go_wp2_with fail
        refine HN.out.mono ?_; rintro e w' ⟨rfl, rfl⟩
        go_wp2_with fail
        refine HRM.out.mono ?_; rintro e w' ⟨rfl, rfl⟩
        by_cases hL : L < 7 + n
        · have E := Lib.hid (HX.out.trans (G2.out (by omega) hL))
          have d1 : decide ((L : Int) < 7 + (n : Int)) = true := by simp; omega
          clear hcut hc46
          go_wp2_with fail
          go_returns
          exact ⟨HK2.out, .inl ⟨2, a1, E.out, by decide, rfl, HR2.out⟩⟩
        · have d1 : decide ((L : Int) < 7 + (n : Int)) = false := by simp; omega
          by_cases hR : r.length < 7 + n
          · have E := Lib.hid (HX.out.trans (G3.out (by omega) (by omega) hR))
            have d2 : decide ((r.length : Int) < 7 + (n : Int)) = true := by simp; omega
            clear hcut hc46
            go_wp2_with fail
            go_returns
            exact ⟨HK2.out, .inl ⟨1, a1, E.out, by decide, rfl, HR2.out⟩⟩
          · have d2 : decide ((r.length : Int) < 7 + (n : Int)) = false := by simp; omega
            obtain ⟨s1, s2, s3⟩ := HSP.out (by omega)
            have hcf := cut_to (some ad1) r.length (c - a1) (7 + n) (by omega) hrc hcm
            rw [show ((7 + n : Nat) : Int) = 7 + (n : Int) by omega] at hcf
            have hc4 : ∀ W : World, Sem.run Tryz.prog (Instr.slice 24 (.slice (some ad1) (7 + n) (c - a1)) none (some (.int .i64 4)) none) W = .ok (.slice (some ad1) 4 (c - a1)) W := cut_to (some ad1) (7 + n) (c - a1) 4 (by omega) (by omega) hcm
            obtain ⟨A6, hA6, hs6, hc6a⟩ := cut_from (some ad1) (7 + n) (c - a1) 6 (by omega) (by omega) hcm
            obtain ⟨A7, hA7, hs7, hc7a⟩ := cut_from (some ad1) (7 + n) (c - a1) 7 (by omega) (by omega) hcm
            obtain ⟨k6, hk6⟩ : ∃ k6, k6 = 7 + n - 6 := ⟨_, rfl⟩
            have e7 : 7 + n - 7 = n := by omega
            rw [← hk6] at hc6a hA6
            rw [e7] at hc7a hA7
            have hc6 : ∀ W : World, Sem.run Tryz.prog (Instr.slice 24 (.slice (some ad1) (7 + n) (c - a1)) (some (.int .i64 6)) none none) W = .ok (.slice A6 k6 (c - a1 - 6)) W := hc6a
            have hc7 : ∀ W : World, Sem.run Tryz.prog (Instr.slice 24 (.slice (some ad1) (7 + n) (c - a1)) (some (.int .i64 7)) none none) W = .ok (.slice A7 n (c - a1 - 7)) W := hc7a
            have l4 : (r.take 4).length = 4 := by rw [List.length_take]; omega
            have k8 : kindOf r < 256 := H8r.out _ (List.mem_of_getElem? s3)
            have l6 : (kindOf r :: dataOf r).length = k6 := by rw [List.length_cons, s2]; omega
            have HN4 : Hid (∀ m, Calls Tryz.prog 82 #[.slice (some ad1) 4 (c - a1)] (W2.drewN m) fun e w' => e = .returned (.int .u32 (num (r.take 4) : Nat)) ∧ W2.drewN m = w') := Lib.hid fun m => by
              have hh := number_any (some ad1) (c - a1) g (r.take 4) (W2.drewN m) ((HLr.out m).front (by rw [List.map_take]; exact List.take_prefix _ _)) (by omega) (by rw [l4]; omega) hcm (byte_front H8r.out fun x hx => List.mem_of_mem_take hx)
              rw [l4] at hh
              exact hh
            have HS6 : Hid (∀ m, Calls Tryz.prog 78 #[.slice As 256 cs, .slice A6 k6 (c - a1 - 6)] (W2.drewN m) fun e w' => e = .returned (.int .u32 (Crc.crc Crc.ent (kindOf r :: dataOf r) : Nat)) ∧ W2.drewN m = w') := Lib.hid fun m => by
              have hh := sum_by_tab As A6 cs (c - a1 - 6) g (kindOf r :: dataOf r) (W2.drewN m) HR2.out.cap2 ((HR2.out.drewn m).sums.up (Nat.le_of_lt (HR2.out.drewn m).box.lt)) ((HLr.out m).cut (p := 6) (fun h0 => hA6 (by omega)) (by rw [← s1]; exact List.take_prefix _ _)) (by omega) (by unfold maxLen; omega) (fun x hx => by rcases List.mem_cons.1 hx with rfl | hx; exact k8; exact HD8.out x hx)
              rw [l6] at hh
              exact hh
            have h32 : Crc.crc Crc.ent (kindOf r :: dataOf r) ≤ 4294967295 := by unfold Crc.crc; omega
            have HM6 : Hid (∀ m, Calls Tryz.prog 77 #[.int .u32 (Crc.crc Crc.ent (kindOf r :: dataOf r) : Nat)] (W2.drewN m) fun e w' => e = .returned (.int .u32 (sumB (kindOf r) (dataOf r) : Nat)) ∧ W2.drewN m = w') := Lib.hid fun m => Crc.mask_any _ (W2.drewN m) h32
            have hsb := sumB_lt (kindOf r) (dataOf r)
            have h6 : W2.cell? ⟨ad1.block, ad1.off + 6, none⟩ = some (vb (kindOf r)) := by
              have := hcell 6 (vb (kindOf r)) (by rw [List.getElem?_map, s3]; rfl)
              rw [show ad1.add 6 = ⟨ad1.block, ad1.off + 6, none⟩ by simp [Addr.add]] at this
              exact this
            have HLD : Hid (∀ m, Lies (W2.drewN m) g A7 ((dataOf r).map vb)) := Lib.hid fun m => (HLr.out m).cut (p := 7) (fun h0 => hA7 (by omega)) (by rw [HDT.out]; exact List.take_prefix _ _)
            have HLN : Hid ((dataOf r).length = n) := Lib.hid s2
            have hn4 : num (r.take 4) < 4294967296 := by
              have := num_lt (r.take 4) (byte_front H8r.out fun x hx => List.mem_of_mem_take hx)
              rw [l4] at this
              exact this
            obtain ⟨ad7, rfl⟩ : ∃ ad7, A7 = some ad7 := Option.isSome_iff_exists.1 (by rw [hs7]; rfl)
            clear hc6a hc7a hcut hc46 s1 s2 s3 l4 l6 hcell hk6 e7 hs6 hs7 hA6 hA7
            generalize Crc.crc Crc.ent (kindOf r :: dataOf r) = C at *
            generalize sumB (kindOf r) (dataOf r) = SB at *
            generalize num (r.take 4) = N4 at *
            generalize kindOf r = k at *
            generalize dataOf r = d at *
            go_wp2_with fail
            go_quiet (first | (go_at_call 82; refine Calls.quiet_of_same ((HN4.out _).mono fun e w' hh => ⟨hh.1, hh.2.symm⟩)) | (go_at_call 78; refine Calls.quiet_of_same ((HS6.out _).mono fun e w' hh => ⟨hh.1, hh.2.symm⟩)) | (go_at_call 77; refine Calls.quiet_of_same ((HM6.out _).mono fun e w' hh => ⟨hh.1, hh.2.symm⟩)))
            have HK3 := Lib.hid (HK2.out.trans (below_keep (S := (· = g)) (Joins.below_draws _ W2 nq)) fun _ _ h => h)
            have HR3 := Lib.hid (HR2.out.drewn nq)
            have HL3 := Lib.hid (HLD.out nq)
            have h63 : (W2.drewN nq).cell? ⟨ad1.block, ad1.off + 6, none⟩ = some (vb k) := (Below.cell (p := ⟨ad1.block, ad1.off + 6, none⟩) (Joins.below_draws W2.heap.size W2 nq) (Nat.lt_trans hb1 HR2.out.box.lt)).trans h6
            clear HK2 HR2 HLD HLr HLr2 p0 p1 p2 f0 f1 f2 h6 HN HRM HN4 HS6 HM6
            generalize W2.drewN nq = W3 at *
            obtain ⟨p0, p1, p2, f0, f1, f2⟩ := HR3.out.box.facts3
            by_cases hs : N4 = SB
            · have d3 : ((N4 : Int) != (SB : Int)) = false := by rw [bne_eq_false_iff_eq]; omega
              have HS := Lib.hid hs
              clear hs
              by_cases hk1 : k < 1
              · have E := Lib.hid (HX.out.trans (G4.out (by omega) (by omega) (by omega) fun hg => by have := HGD.out.1 hg; omega))
                have d4 : decide ((k : Int) < 1) = true := by simp; omega
                go_wp2_with fail
                go_returns
                exact ⟨HK3.out, .inl ⟨2, a1, E.out, by decide, rfl, HR3.out⟩⟩
              · have d4 : decide ((k : Int) < 1) = false := by simp; omega
                by_cases hk4 : 4 < k
                · have E := Lib.hid (HX.out.trans (G4.out (by omega) (by omega) (by omega) fun hg => by have := HGD.out.1 hg; omega))
                  have d5 : decide (4 < (k : Int)) = true := by simp; omega
                  go_wp2_with fail
                  go_returns
                  exact ⟨HK3.out, .inl ⟨2, a1, E.out, by decide, rfl, HR3.out⟩⟩
                · have d5 : decide (4 < (k : Int)) = false := by simp; omega
                  have E := Lib.hid (HX.out.trans (G5.out (by omega) (by omega) (by omega) (HGD.out.2 ⟨HS.out, by omega, by omega⟩)))
                  have hpn : a1 + (7 + n) ≤ b.length := by have := congrArg List.length HRI.out; rw [List.length_drop] at this; omega
                  have hk1' : Keep (· = g) w (W3.setCell ⟨g, 1, none⟩ (.int .i64 ((a1 : Int) + (7 + (n : Int))))) := Keep.setCell (S := (· = g)) (p := ⟨g, 1, none⟩) HK3.out (.inr rfl) _
                  have hk2' : Keep (· = g) W3 (W3.setCell ⟨g, 1, none⟩ (.int .i64 ((a1 : Int) + (7 + (n : Int))))) := Keep.setCell (S := (· = g)) (p := ⟨g, 1, none⟩) (Keep.refl _ _) (.inr rfl) _
                  have hb4 := HR3.out.box.set 1 (.int .i64 ((a1 : Int) + (7 + (n : Int))))
                  have HR4 : Hid (Rr (W3.setCell ⟨g, 1, none⟩ (.int .i64 ((a1 : Int) + (7 + (n : Int))))) g A c b (a1 + (7 + n)) As cs) := Lib.hid (HR3.out.moved hk2' hb4 hpn)
                  have HK4 := Lib.hid hk1'
                  have HL4 := Lib.hid (HL3.out.later (w' := W3.setCell ⟨g, 1, none⟩ (.int .i64 ((a1 : Int) + (7 + (n : Int))))) fun p hp => World.cell?_of_block (hk2'.block _ (Nat.lt_trans hp HR3.out.box.lt) (by omega)))
                  have hln : n ≤ c - a1 - 7 := by omega
                  clear hk1' hk2' hb4
                  go_wp2_with fail
                  clear hcf hc4 hc6
                  go_quiet (fail)
                  go_wp2_with fail
                  go_returns
                  have hd := HLN.out
                  subst hd
                  exact ⟨HK4.out.trans (below_keep (S := (· = g)) (Joins.below_draws _ _ _)) fun _ _ h => h, .inr ⟨k, d, a1 + (7 + d.length), ad7, c - a1 - 7, E.out, rfl, HL4.out.below (Joins.below_draws _ _ _), hln, by unfold maxLen at hcm ⊢; omega, HD8.out, HR4.out.drewn _⟩⟩
            · have d3 : ((N4 : Int) != (SB : Int)) = true := by rw [bne_iff_ne]; omega
              have E := Lib.hid (HX.out.trans (G4.out (by omega) (by omega) (by omega) fun hg => hs (HGD.out.1 hg).1))
              clear hs
              go_wp2_with fail
              go_returns
              exact ⟨HK3.out, .inl ⟨2, a1, E.out, by decide, rfl, HR3.out⟩⟩
  · have E : Hid (nxt b a = .stop 2) := Lib.hid (by unfold nxt; rw [if_neg hcl])
    rw [decide_eq_false hcl]
    clear hcl
    go_wp2_with fail
    go_returns
    exact ⟨HK1.out, .inl ⟨2, _, E.out, by decide, rfl, HR1.out⟩⟩
end Go.Proofs.YtnbknihaefkllaaGreatDoor.Fr
/- A slice of slices of bytes, as it came in. -/
namespace Go.Proofs.YtnbknihaefkllaaGreatDoor.Sq
set_option linter.unusedVariables false
set_option linter.unusedSimpArgs false
open Go.ChangeShapes Go.WideShapes Go.ChangeAt Go.RowKit Lift Ik

/-- Bytes as they lie. -/
structure E where
  a : Option Addr
  c : Nat
  bs : List Nat
abbrev E.v (e : E) : Value := .slice e.a e.bs.length e.c
structure E.Ok (w : World) (B : Nat) (e : E) : Prop where
  lies : Lies w B e.a (e.bs.map vb)
  cap : e.bs.length ≤ e.c
  max : e.c ≤ maxLen
  byte : ∀ x, x ∈ e.bs → x < 256
/-- A slice of slices of bytes. -/
structure Seqs (w : World) (B : Nat) (A : Option Addr) (c : Nat) (L : List E) : Prop where
  lies : Lies w B A (L.map E.v)
  len : L.length ≤ c
  cap : c ≤ maxLen
  ok : ∀ e, e ∈ L → e.Ok w B
section
variable {w w' : World} {B : Nat} {A : Option Addr} {c : Nat} {L : List E}
theorem E.Ok.below {e : E} (h : e.Ok w B) (hb : Below B w w') : e.Ok w' B := ⟨h.lies.below hb, h.cap, h.max, h.byte⟩
theorem Seqs.up {B' : Nat} (h : Seqs w B A c L) (hB : B ≤ B') : Seqs w B' A c L := ⟨h.lies.up hB, h.len, h.cap, fun e he => ⟨(h.ok e he).lies.up hB, (h.ok e he).cap, (h.ok e he).max, (h.ok e he).byte⟩⟩
theorem Seqs.below (h : Seqs w B A c L) (hb : Below B w w') : Seqs w' B A c L := ⟨h.lies.below hb, h.len, h.cap, fun e he => (h.ok e he).below hb⟩
theorem Seqs.place (h : Seqs w B A c L) {i : Nat} {e : E} (he : L[i]? = some e) : ∃ ad : Addr, A = some ad ∧ ad.block < B ∧ w.cell? (ad.add i) = some (.slice e.a e.bs.length e.c) := by
  have hl := (List.getElem?_eq_some_iff.1 he).1
  obtain ⟨ad, ha, hb, hc⟩ := h.lies.place (by rw [List.length_map]; omega)
  exact ⟨ad, ha, hb, hc i _ (by rw [List.getElem?_map, he]; rfl)⟩
end
theorem open_seqs_at {H : Type} {enc : TypeId × Value → H} {W : World} {v : Value} {y : DataW H × List MemPlace} {n : Nat} (h : DataW.trod enc Tryz.prog W 0 (fun _ => true) true n 82 [v] = some y)
    (hlt : ∀ x, x ∈ y.2 → x.block < W.heap.size) : ∃ (A : Option Addr) (c : Nat) (L : List E), v = .slice A L.length c ∧ Seqs W W.heap.size A c L := by
  have c2 : Tryz.prog.cellsOf 24 = 1 := by kernel_rfl
  rcases Deep.open_slice Tryz.underlying82 h with ⟨hcs, _⟩ | ⟨a, len, cap, m, n', Y, Pl, hcs, _, hl, hm, hmm, rfl, hx⟩
  · simp at hcs
    subst hcs
    exact ⟨none, 0, [], rfl, .inl rfl, Nat.le_refl _, by decide, by simp⟩
  · simp at hcs hmm
    subst hcs hmm
    rw [c2] at hx hlt
    have each : ∀ i, i < len → ∃ e : E, W.cell? (a.add i) = some e.v ∧ e.Ok W W.heap.size := by
      intro i hi
      obtain ⟨cs', h1, h2⟩ := hx i (by omega)
      obtain ⟨_, hlen, hcell⟩ := World.cells?_some h1
      match cs', hlen with
      | [v0], _ =>
        obtain ⟨A1, q1, zs1, rfl, hc1, hm1, hl1, hw1⟩ := open_nums_at Tryz.underlying24 Tryz.underlying5 (by kernel_rfl) (v := v0) h2 (fun x hx2 => hlt x (List.mem_append_right _ (List.mem_flatMap.2 ⟨i, List.mem_range.2 (by omega), hx2⟩)))
        obtain ⟨bs1, rfl, hz1⟩ := as_nat zs1 fun n hn => (u8_of (hw1 n hn)).1
        rw [List.map_map] at hl1
        rw [List.length_map] at hc1 hcell
        refine ⟨⟨A1, q1, bs1⟩, ?_, hl1, hc1, hm1, fun x hx2 => ?_⟩
        · have := hcell 0 (by decide)
          rw [Lift.add_add] at this
          simpa using this
        · have := (u8_of (hw1 _ (hz1 x hx2))).2; omega
    obtain ⟨f, hf⟩ : ∃ f : Nat → E, ∀ i, i < len → W.cell? (a.add i) = some (f i).v ∧ (f i).Ok W W.heap.size := by
      by_cases h0 : len = 0
      · exact ⟨fun _ => ⟨none, 0, []⟩, fun i hi => by omega⟩
      · haveI : Inhabited E := ⟨⟨none, 0, []⟩⟩
        exact Deep.choose_lt each
    have hL : ((List.range len).map f).length = len := by simp
    refine ⟨some a, m, (List.range len).map f, by rw [hL], ?_, by rw [hL]; exact hl, hm, fun e he => ?_⟩
    · by_cases h0 : len = 0
      · left; subst h0; rfl
      · refine .inr ⟨a, rfl, ?_, fun j u hu => ?_⟩
        · exact hlt (.cell a.block (a.off + 0)) (List.mem_append_left _ (by unfold MemPlace.row; exact List.mem_map.2 ⟨0, by simp; omega, rfl⟩))
        · have hj := (List.getElem?_eq_some_iff.1 hu).1
          rw [List.length_map, hL] at hj
          rw [List.getElem?_map, List.getElem?_map, List.getElem?_range hj] at hu
          cases hu
          exact (hf j hj).1
    · obtain ⟨i, hi, rfl⟩ := List.mem_map.1 he
      exact (hf i (by simpa using hi)).2
set_option maxRecDepth 100000 in
theorem open_seqs {H : Type} {enc : TypeId × Value → H} {W : World} {v : Value} {d : DataW H} {p : List MemPlace} {base : Nat} (hok : Value.okWide Tryz.prog W .any base 82 v)
    (h : DataW.Trod enc Tryz.prog W 0 (fun _ => true) true 82 v d p) (hlt : ∀ x, x ∈ p → x.block < W.heap.size) : ∃ (A : Option Addr) (c : Nat) (L : List E), v = .slice A L.length c ∧ Seqs W W.heap.size A c L := by
  obtain ⟨a0, len, cap, rfl⟩ := okWide_slice Tryz.underlying82 hok
  obtain ⟨fuel, hf⟩ := h
  exact open_seqs_at (n := fuel) (y := (d, p)) (by simpa [Value.cells] using hf) hlt
end Go.Proofs.YtnbknihaefkllaaGreatDoor.Sq
/- A scope with several labels: what holds at every jump, and a measure that every pass lowers. -/
namespace Go.Proofs.YtnbknihaefkllaaGreatDoor.Lift
open Go
/-- As Q; by a goto: J of the label. -/
def jumps (J : Nat → Act → World → Prop) (Q : Exit → Act → World → Prop) : Exit → Act → World → Prop
  | .goto l, a, w => J l a w
  | e, a, w => Q e a w
section
variable {P : Program} {a : Act} {w : World} {Q : Exit → Act → World → Prop}
theorem jumps_ret (J : Nat → Act → World → Prop) : jumps J Q .ret a w = Q .ret a w := rfl
theorem jumps_goto (J : Nat → Act → World → Prop) (l : Nat) : jumps J Q (.goto l) a w = J l a w := rfl
theorem wp_scope_labels {c : Code} (J : Nat → Act → World → Prop) (μ : Nat → Act → World → Nat) (first : c.wp P (jumps J Q) a w)
    (pass : ∀ l a w, J l a w → ∃ rest, findLabel c l = some rest ∧ rest.wp P (jumps (fun l' a' w' => J l' a' w' ∧ μ l' a' w' < μ l a w) Q) a w) : (Code.scope c).wp P Q a w := by
  intro b k cs
  have hg : ∀ l rest, findLabel c l = some rest → gotoIn l (.inScope c :: k) = some (.code rest :: .inScope c :: k) := fun l rest hf => by simp [gotoIn, hf]
  have key : ∀ n l a w, μ l a w = n → J l a w → ∃ rest, findLabel c l = some rest ∧ ∃ e a' w', Q e a' w' ∧ Arrives P (lone (b.at a (.code rest :: .inScope c :: k)) cs w) b k cs e a' w' := by
    intro n
    induction n using Nat.strongRecOn with
    | _ n ih =>
      intro l a w hn hJ
      obtain ⟨rest, hf, hp⟩ := pass l a w hJ
      refine ⟨rest, hf, ?_⟩
      obtain ⟨e, a₁, w₁, hq, harr⟩ := hp b (.inScope c :: k) cs
      cases e with
      | normal => exact ⟨.normal, a₁, w₁, hq, Steps.trans harr (.one step_inScope)⟩
      | exit id => exact ⟨.exit id, a₁, w₁, hq, fun k' hk => harr k' (by simp [exitTo, hk])⟩
      | goto l' =>
        obtain ⟨hJ', hlt⟩ := hq
        obtain ⟨rest₂, hf₂, e₂, a₂, w₂, hq₂, harr₂⟩ := ih _ (by omega) l' a₁ w₁ rfl hJ'
        exact ⟨e₂, a₂, w₂, hq₂, .of_steps (harr _ (hg l' rest₂ hf₂)) harr₂⟩
      | ret => exact ⟨_, a₁, w₁, hq, harr⟩
      | panic ch => exact ⟨_, a₁, w₁, hq, harr⟩
      | outgrown => exact ⟨_, a₁, w₁, hq, harr⟩
  obtain ⟨e, a₁, w₁, hq, harr⟩ := first b (.inScope c :: k) cs
  cases e with
  | normal => exact ⟨.normal, a₁, w₁, hq, .head step_scope (Steps.trans harr (.one step_inScope))⟩
  | exit id => exact ⟨.exit id, a₁, w₁, hq, fun k' hk => .head step_scope (harr k' (by simp [exitTo, hk]))⟩
  | goto l' =>
    obtain ⟨rest₂, hf₂, e₂, a₂, w₂, hq₂, harr₂⟩ := key _ l' a₁ w₁ rfl hq
    exact ⟨e₂, a₂, w₂, hq₂, .of_steps (.head step_scope (harr _ (hg l' rest₂ hf₂))) harr₂⟩
  | ret => exact ⟨_, a₁, w₁, hq, .of_steps (.one step_scope) harr⟩
  | panic ch => exact ⟨_, a₁, w₁, hq, .of_steps (.one step_scope) harr⟩
  | outgrown => exact ⟨_, a₁, w₁, hq, .of_steps (.one step_scope) harr⟩
end
end Go.Proofs.YtnbknihaefkllaaGreatDoor.Lift
/- The records that All has read, in memory, and one more. -/
namespace Go.Proofs.YtnbknihaefkllaaGreatDoor.Fr
set_option linter.unusedVariables false
set_option linter.unusedSimpArgs false
open Go.RowKit Lift Ik Sq
/-- Records in a slice vr of the call's own, outside of the blocks of vn and g. -/
structure Acc (B : Nat) (w : World) (g : Option Nat) (vr vn : Value) (L : List E) : Prop where
  own : w.ownsRow B 24 1 vr L.length (L.map E.v)
  each : ∀ e, e ∈ L → LiesP w (fun k => k < w.heap.size ∧ ¬ vr.ownBlock = some k ∧ ¬ vn.ownBlock = some k ∧ ¬ g = some k) e.a (e.bs.map vb) ∧ e.bs.length ≤ e.c ∧ e.c ≤ maxLen ∧ ∀ x, x ∈ e.bs → x < 256
  gr : ∀ j, g = some j → ¬ vr.ownBlock = some j
section
variable {B : Nat} {g : Option Nat} {w w' : World} {vr vn vn' : Value} {L : List E}
theorem Acc.nil (B : Nat) (g : Option Nat) (w : World) (vn : Value) : Acc B w g (.slice none 0 0) vn [] := ⟨World.ownsRow_nil _ _ _ _, by simp, by simp [Value.ownBlock]⟩
/-- Other blocks are written: g's, or new ones. -/
theorem Acc.keep (h : Acc B w g vr vn L) (hk : Keep (fun k => g = some k) w w') : Acc B w' g vr vn L :=
  ⟨own_kept h.own hk fun k hk2 e => h.gr k e hk2, fun e he => ⟨LiesP.later (h.each e he).1 (fun k hh => hk.block k hh.1 hh.2.2.2) fun k hh => ⟨Nat.lt_of_lt_of_le hh.1 hk.size, hh.2⟩, (h.each e he).2⟩, h.gr⟩
/-- The record under way is another one, in new memory or none. -/
theorem Acc.other (h : Acc B w g vr vn L) (hn : ∀ k, vn'.ownBlock = some k → w.heap.size ≤ k) : Acc B w g vr vn' L :=
  ⟨h.own, fun e he => ⟨LiesP.later (h.each e he).1 (fun _ _ => rfl) fun k hh => ⟨hh.1, hh.2.1, fun e2 => by have := hn k e2; omega, hh.2.2.2⟩, (h.each e he).2⟩, h.gr⟩
theorem Acc.fresh (h : Acc B w g vr vn L) (hb : Below w.heap.size w w') : Acc B w' g vr vn L :=
  ⟨own_later h.own hb, fun e he => ⟨LiesP.later (h.each e he).1 (fun k hh => hb.block k hh.1) fun k hh => ⟨Nat.lt_of_lt_of_le hh.1 hb.size, hh.2⟩, (h.each e he).2⟩, h.gr⟩
/-- The record under way grew. -/
theorem Acc.grew {n : Nat} {xs : List Value} (h : Acc B w g vr vn L) (ho : Onto vn vn' w w') (hown : w.ownsRow B 5 1 vn n xs) : Acc B w' g vr vn' L :=
  ⟨own_kept h.own ho.keep fun k hk e => own_two h.own hown (by decide) hk e,
   fun e he => ⟨LiesP.later (h.each e he).1 (fun k hh => ho.at_block hh.1 hh.2.2.1) fun k hh => ⟨Nat.lt_of_lt_of_le hh.1 ho.keep.size, hh.2.1, ho.off hh.1 hh.2.2.1, hh.2.2.2⟩, (h.each e he).2⟩, h.gr⟩
/-- One record more: append(records, record). -/
theorem Acc.more {A : Option Addr} {c : Nat} {bs : List Nat} (h : Acc B w g vr (.slice A bs.length c) L) (hown : w.ownsRow B 5 1 (.slice A bs.length c) bs.length (bs.map vb)) (hgB : ∀ j, g = some j → j < B)
    (hc : bs.length ≤ c) (hcm : c ≤ maxLen) (h8 : ∀ x, x ∈ bs → x < 256) (hB : B ≤ w.heap.size) (hL : L.length ≤ 40000000) :
    ∃ v' w', Sem.run Tryz.prog (Builtin.append_ #[82, 82] 82 #[vr, .slice (some ⟨w.heap.size, 0, none⟩) 1 1]) (w.alloc (.cells #[.slice A bs.length c] 24)) = .ok v' w' ∧ Acc B w' g v' (.slice none 0 0) (L ++ [⟨A, c, bs⟩]) ∧ Onto vr v' w w' := by
  have hb := Joins.below_alloc1 w (.cells #[.slice A bs.length c] 24)
  have hl : Lies (w.alloc (.cells #[.slice A bs.length c] 24)) (w.heap.size + 1) (some ⟨w.heap.size, 0, none⟩) [.slice A bs.length c] :=
    lies_block (cs := #[.slice A bs.length c]) (heap_alloc_new w _) (Nat.lt_succ_self _)
  obtain ⟨v', w', h1, h2, h3⟩ := run_append_onto (P := Tryz.prog) (m := 1) (c := 1) 82 82 24 (.slice none 0 0) 1 24 Tryz.underlying82 (by kernel_rfl) rfl (by decide)
      (fun u hu => by simp at hu; subst hu; rfl) (own_later h.own hb) hl (by simp) (by unfold maxLen; omega) (by omega) (Nat.le_trans hB hb.size)
  have hon := Onto.pre hb h3
  refine ⟨v', w', h1, ⟨?_, fun e he => ?_, fun j hj => hon.off (Nat.lt_of_lt_of_le (hgB j hj) hB) (h.gr j hj)⟩, hon⟩
  · rw [List.length_append, List.map_append]
    exact h2
  · rcases List.mem_append.1 he with he | he
    · obtain ⟨e1, e2⟩ := h.each e he
      exact ⟨LiesP.later e1 (fun k hh => hon.at_block hh.1 hh.2.1) fun k hh => ⟨Nat.lt_of_lt_of_le hh.1 hon.keep.size, hon.off hh.1 hh.2.1, by simp [Value.ownBlock], hh.2.2.2⟩, e2⟩
    · simp at he
      subst he
      refine ⟨?_, hc, hcm, h8⟩
      have typed : ∀ k, (B ≤ k ∧ k < w.heap.size ∧ ∃ cs fr, w.heap[k]? = some (.cells cs 5 fr)) → ¬ vr.ownBlock = some k ∧ ¬ g = some k := by
        rintro k ⟨hBk, _, cs, fr, hk⟩
        constructor
        · intro e
          rcases h.own.2 with ⟨h0, _⟩ | ⟨g', cap, cur, hv, _, hh, _⟩
          · rw [h0] at e; simp [Value.ownBlock] at e
          · rw [hv] at e
            simp [Value.ownBlock] at e
            subst e
            rw [hh] at hk
            injection hk with hk
            injection hk with _ h5
            exact absurd h5 (by decide)
        · intro e
          have := hgB k e
          omega
      refine LiesP.later (LiesP.of_own hown) (fun k hh => hon.at_block hh.2.1 (typed k hh).1) fun k hh => ⟨Nat.lt_of_lt_of_le hh.2.1 hon.keep.size, hon.off hh.2.1 (typed k hh).1, by simp [Value.ownBlock], (typed k hh).2⟩
theorem Acc.seqs (h : Acc B w g vr vn L) : ∃ A c, vr = .slice A L.length c ∧ Seqs w w.heap.size A c L := by
  obtain ⟨A, c, rfl, h1, h2, h3⟩ := own_parts h.own
  exact ⟨A, c, rfl, h3, h1, h2, fun e he => ⟨LiesP.lies (h.each e he).1 fun k hk => hk.1, (h.each e he).2.1, (h.each e he).2.2.1, (h.each e he).2.2.2⟩⟩
end
/-- What All tells of bytes. -/
def Told (w : World) (b : List Nat) (e : Ending) (w' : World) : Prop :=
  ∃ (A : Option Addr) (c : Nat) (L : List E) (n cl : Nat), e = .returned (.tuple #[.slice A L.length c, .int .i64 (n : Int), .int .i64 (cl : Int)]) ∧ Seqs w' w'.heap.size A c L ∧ Rd b 0 false [] 0 [] (L.map (·.bs), n, cl) ∧ Below w.heap.size w w'
/-- The place of the reader in memory. -/
def pos (g : Nat) (w : World) : Nat := match w.cell? ⟨g, 1, none⟩ with | some (.int _ n) => n.toNat | _ => 0
theorem pos_of {w : World} {g c a cs : Nat} {A As : Option Addr} {b : List Nat} (h : Rr w g A c b a As cs) : pos g w = a := by
  unfold pos
  rw [h.box.cell 1]
  simp
/-- What holds at the labels. -/
def At (B : Nat) (g : Nat) (A : Option Addr) (c : Nat) (b : List Nat) (As : Option Addr) (cs : Nat) (l : Nat) (v5 v6 v7 v8 v9 : Value) (w : World) : Prop :=
  (l = 0 ∧ ∃ (L : List E) (n a : Nat), v8 = .int .i64 (n : Int) ∧ Acc B w (some g) v5 (.slice none 0 0) L ∧ Rr w g A c b a As cs ∧ L.length ≤ a ∧ ∀ R, Rd b a false [] n (L.map (·.bs)) R → Rd b 0 false [] 0 [] R) ∨
  (l = 3 ∧ ∃ (L : List E) (n a : Nat) (now : List Nat), v8 = .int .i64 (n : Int) ∧ w.ownsRow B 5 1 v6 now.length (now.map vb) ∧ Acc B w (some g) v5 v6 L ∧ Rr w g A c b a As cs ∧ L.length + 1 ≤ a ∧ now.length ≤ a ∧ (∀ x, x ∈ now → x < 256) ∧ ∀ R, Rd b a true now n (L.map (·.bs)) R → Rd b 0 false [] 0 [] R) ∨
  (l = 2 ∧ ∃ (L : List E) (n a : Nat) (now d : List Nat) (ad : Addr) (cd : Nat), v8 = .int .i64 (n : Int) ∧ v7 = .slice (some ad) d.length cd ∧ w.ownsRow B 5 1 v6 now.length (now.map vb) ∧ Lies w g (some ad) (d.map vb) ∧ (∀ x, x ∈ d → x < 256) ∧ Acc B w (some g) v5 v6 L ∧ Rr w g A c b a As cs ∧ L.length + 1 ≤ a ∧ now.length + d.length ≤ a ∧ (∀ x, x ∈ now → x < 256) ∧ ∀ R, Rd b a false [] a (L.map (·.bs) ++ [now ++ d]) R → Rd b 0 false [] 0 [] R) ∨
  (l = 4 ∧ ∃ (L : List E) (n : Nat) (vn : Value), v8 = .int .i64 (n : Int) ∧ Acc B w (some g) v5 vn L ∧ Rd b 0 false [] 0 [] (L.map (·.bs), n, 2)) ∨
  (l = 1 ∧ ∃ (L : List E) (n cl : Nat) (vn : Value), v8 = .int .i64 (n : Int) ∧ v9 = .int .i64 (cl : Int) ∧ Acc B w (some g) v5 vn L ∧ Rd b 0 false [] 0 [] (L.map (·.bs), n, cl))
def rank (g n l : Nat) (w : World) : Nat := match l with
  | 0 => 10 * (n - pos g w) + 2
  | 3 => 10 * (n - pos g w) + 2
  | 2 => 10 * (n - pos g w) + 3
  | 4 => 1
  | _ => 0
end Go.Proofs.YtnbknihaefkllaaGreatDoor.Fr
/- What All of package frame answers. -/
namespace Go.Proofs.YtnbknihaefkllaaGreatDoor.Fr
set_option linter.unusedVariables false
set_option linter.unusedSimpArgs false
open Go.RowKit Lift Ik Sq
theorem nxt_len {b : List Nat} {a k a' : Nat} {d : List Nat} (ha : a ≤ b.length) (h : nxt b a = .frag k d a') : a + 7 + d.length ≤ a' ∧ a' ≤ b.length ∧ 1 ≤ k ∧ k ≤ 4 := by
  unfold nxt at h
  split at h
  · have := skip_le ha
    have := frg_frag h
    omega
  · cases h
/-- What holds at the labels, with the frame. -/
def JF (w : World) (A : Option Addr) (c : Nat) (b : List Nat) (l : Nat) (a' : Act) (w' : World) : Prop :=
  ∃ (g : Nat) (As : Option Addr) (cs : Nat) (v5 v6 v7 v8 v9 u1 u2 u3 u4 u10 u12 u13 u14 u15 u16 u17 u18 u19 u20 u21 u22 u23 u24 u25 u26 u27 u28 u29 u30 u31 u32 u33 u34 u35 u36 u37 u38 u39 u40 u41 u42 u43 u44 u45 u46 u47 u48 u49 u50 u51 u52 u53 u54 u55 u56 : Value), a' = { tmps := #[.slice A b.length c, u1, u2, u3, u4, v5, v6, v7, v8, v9, u10, .pointer (some ⟨g, 0, none⟩), u12, u13, u14, u15, u16, u17, u18, u19, u20, u21, u22, u23, u24, u25, u26, u27, u28, u29, u30, u31, u32, u33, u34, u35, u36, u37, u38, u39, u40, u41, u42, u43, u44, u45, u46, u47, u48, u49, u50, u51, u52, u53, u54, u55, u56], defers := [] } ∧ w.heap.size ≤ g ∧ At (g + 1) g A c b As cs l v5 v6 v7 v8 v9 w' ∧ Below w.heap.size w w'
theorem jf_mk {w w' : World} {A As : Option Addr} {c cs g l : Nat} {b : List Nat} {v5 v6 v7 v8 v9 u1 u2 u3 u4 u10 u12 u13 u14 u15 u16 u17 u18 u19 u20 u21 u22 u23 u24 u25 u26 u27 u28 u29 u30 u31 u32 u33 u34 u35 u36 u37 u38 u39 u40 u41 u42 u43 u44 u45 u46 u47 u48 u49 u50 u51 u52 u53 u54 u55 u56 : Value} (hg : w.heap.size ≤ g) (h : At (g + 1) g A c b As cs l v5 v6 v7 v8 v9 w') (hb : Below w.heap.size w w') :
    JF w A c b l { tmps := #[.slice A b.length c, u1, u2, u3, u4, v5, v6, v7, v8, v9, u10, .pointer (some ⟨g, 0, none⟩), u12, u13, u14, u15, u16, u17, u18, u19, u20, u21, u22, u23, u24, u25, u26, u27, u28, u29, u30, u31, u32, u33, u34, u35, u36, u37, u38, u39, u40, u41, u42, u43, u44, u45, u46, u47, u48, u49, u50, u51, u52, u53, u54, u55, u56], defers := [] } w' := ⟨g, As, cs, v5, v6, v7, v8, v9, u1, u2, u3, u4, u10, u12, u13, u14, u15, u16, u17, u18, u19, u20, u21, u22, u23, u24, u25, u26, u27, u28, u29, u30, u31, u32, u33, u34, u35, u36, u37, u38, u39, u40, u41, u42, u43, u44, u45, u46, u47, u48, u49, u50, u51, u52, u53, u54, u55, u56, rfl, hg, h, hb⟩
def gOf (a : Act) : Nat := match a.tmps.getD 11 undef with | .pointer (some p) => p.block | _ => 0
def muF (n : Nat) (l : Nat) (a : Act) (w : World) : Nat := rank (gOf a) n l w
set_option maxRecDepth 1000000 in
set_option maxHeartbeats 8000000 in
theorem all_any (A : Option Addr) (c : Nat) (b : List Nat) (w : World) (hl : Lies w w.heap.size A (b.map vb)) (hc : b.length ≤ c) (hm : c ≤ maxLen) (hn : b.length ≤ 20000000) (h8 : ∀ x, x ∈ b → x < 256) :
    Calls Tryz.prog 40 #[.slice A b.length c] w (Told w b) := by
  have HL := Lib.hid hl
  have H8 := Lib.hid h8
  clear hl h8
  go_enter Tryz.func40, Tryz.ntmps40
  go_wp2_with fail
  refine wp_scope_labels (JF w A c b) (muF b.length) ?_ ?_
  · go_wp2_with fail
    refine (Crc.table_any _).mono ?_
    rintro e W0 ⟨vT, rfl, hoT, hbT⟩
    obtain ⟨As, cs, rfl, hc1, hm1, hlT⟩ := own_parts hoT
    rw [Crc.tab_length] at hc1 ⊢
    go_wp2_with fail
    have hbx := Joins.below_alloc1 W0 (.cells #[.slice A b.length c, .int .i64 0, .slice As 256 cs] 109)
    have hrr : Rr (W0.alloc (.cells #[.slice A b.length c, .int .i64 0, .slice As 256 cs] 109)) W0.heap.size A c b 0 As cs :=
      ⟨Box.new W0 109 [.slice A b.length c, .int .i64 0, .slice As 256 cs], ((HL.out.below hbT).up hbT.size).below hbx, hlT.below hbx, hc, hm, hn, H8.out, Nat.zero_le _, hc1⟩
    obtain ⟨g, hgg⟩ : ∃ g, g = W0.heap.size := ⟨_, rfl⟩
    rw [← hgg] at hrr ⊢
    have hg : Hid (w.heap.size ≤ g) := Lib.hid (by rw [hgg]; exact hbT.size)
    have HB := Lib.hid (hbT.trans (hbx.mono hbT.size))
    have HR := Lib.hid hrr
    clear hbx hrr hgg hbT hoT hlT hc1 hm1
    generalize W0.alloc (.cells #[.slice A b.length c, .int .i64 0, .slice As 256 cs] 109) = W00 at *
    obtain ⟨a, ha⟩ : ∃ a : Nat, a = 0 := ⟨_, rfl⟩
    rw [show (0 : Nat) = a from ha.symm] at HR
    obtain ⟨L, hL⟩ : ∃ L : List E, L = [] := ⟨_, rfl⟩
    obtain ⟨n, hn0⟩ : ∃ n : Nat, n = 0 := ⟨_, rfl⟩
    have hLa : L.length ≤ a := by rw [hL]; exact Nat.zero_le _
    have HRd : Hid (∀ R, Rd b a false [] n (L.map (·.bs)) R → Rd b 0 false [] 0 [] R) := Lib.hid (by rw [ha, hL, hn0]; exact fun R h => h)
    go_step3
    have HA : Hid (Acc (g + 1) W00 (some g) (.slice none 0 0) (.slice none 0 0) L) := Lib.hid (by rw [hL]; exact Acc.nil _ _ _ _)
    rw [show (Value.int .i64 0) = .int .i64 ((n : Nat) : Int) by rw [hn0]; rfl]
    clear ha hL hn0
    go_wp2_with fail
    refine (next_any g c a cs A As b _ HR.out).mono ?_
    rintro e W1 ⟨hk, hx⟩
    have HB1 := Lib.hid (HB.out.trans (hk.below HB.out.size fun k e => e ▸ hg.out))
    have HA1 := Lib.hid (HA.out.keep (hk.mono fun i h => by rw [h]))
    have hpl := HR.out.place
    rcases hx with ⟨cl, a', hx, hcl, rfl, hr⟩ | ⟨k, d, a', ad, cd, hx, rfl, hld, hdc, hdm, hd8, hr⟩
    · have HE := Lib.hid (HRd.out _ (Rd.stop hx))
      clear hk hx hr
      go_wp2_with fail
      go_step3
      change JF w A c b _ _ _
      exact jf_mk (As := As) (cs := cs) hg.out (.inr (.inr (.inr (.inr ⟨rfl, L, n, cl, .slice none 0 0, rfl, rfl, HA1.out, by simpa using HE.out⟩)))) HB1.out
    · obtain ⟨q1, q2, q3, q4⟩ := nxt_len hpl hx
      have hk4 : k = 1 ∨ k = 2 ∨ k = 3 ∨ k = 4 := by omega
      have HX := Lib.hid hx
      have HR1 := Lib.hid hr
      have HLD := Lib.hid hld
      clear hk hx hr hld
      rcases hk4 with rfl | rfl | rfl | rfl
      · go_wp2_with fail
        go_step3
        change JF w A c b _ _ _
        exact jf_mk (As := As) (cs := cs) hg.out (.inr (.inr (.inl ⟨rfl, L, n, a', [], d, ad, cd, rfl, rfl, World.ownsRow_nil _ _ _ _, HLD.out, hd8, HA1.out, HR1.out, by omega, by simp; omega, by simp, fun R hR => HRd.out R (.full HX.out rfl (.inl rfl) hR)⟩))) HB1.out
      · have hcl := clone_any ad cd d W1 (HLD.out.up (Nat.le_of_lt HR1.out.box.lt)) (by omega)
        have HC := Lib.hid hcl
        clear hcl
        go_wp2_with fail
        refine HC.out.mono ?_; rintro e W2 ⟨v2, rfl, ho2, hb2⟩
        have HO2 := Lib.hid (own_lower ho2 HR1.out.box.lt)
        have HB2 := Lib.hid (HB1.out.trans (hb2.mono HB1.out.size))
        have HR2 := Lib.hid (HR1.out.below hb2 HR1.out.box.lt)
        have HA2 := Lib.hid ((HA1.out.other fun k hk => (ho2.lt k hk).1).fresh hb2)
        clear ho2 hb2
        go_wp2_with fail
        go_step3
        change JF w A c b _ _ _
        exact jf_mk (As := As) (cs := cs) hg.out (.inr (.inl ⟨rfl, L, n, a', d, rfl, HO2.out, HA2.out, HR2.out, by omega, by omega, hd8, fun R hR => HRd.out R (.more HX.out rfl (.inl rfl) hR)⟩)) HB2.out
      · go_wp2_with fail
        go_step3
        change JF w A c b _ _ _
        exact jf_mk (As := As) (cs := cs) hg.out (.inr (.inr (.inr (.inl ⟨rfl, L, n, .slice none 0 0, rfl, HA1.out, HRd.out _ (.bad HX.out rfl)⟩)))) HB1.out
      · go_wp2_with fail
        go_step3
        change JF w A c b _ _ _
        exact jf_mk (As := As) (cs := cs) hg.out (.inr (.inr (.inr (.inl ⟨rfl, L, n, .slice none 0 0, rfl, HA1.out, HRd.out _ (.bad HX.out rfl)⟩)))) HB1.out
  · rintro l a' w1 ⟨g, As, cs, v5, v6, v7, v8, v9, u1, u2, u3, u4, u10, u12, u13, u14, u15, u16, u17, u18, u19, u20, u21, u22, u23, u24, u25, u26, u27, u28, u29, u30, u31, u32, u33, u34, u35, u36, u37, u38, u39, u40, u41, u42, u43, u44, u45, u46, u47, u48, u49, u50, u51, u52, u53, u54, u55, u56, rfl, hg0, hat, hb⟩
    have hg := Lib.hid hg0
    have HB := Lib.hid hb
    clear hg0 hb
    rcases hat with ⟨rfl, L, n, a, rfl, hA, hR, hLa, hRd⟩ | ⟨rfl, L, n, a, now, rfl, hO, hA, hR, hLa, hna, hn8, hRd⟩ | ⟨rfl, L, n, a, now, d, ad, cd, rfl, rfl, hO, hld, hd8, hA, hR, hLa, hna, hn8, hRd⟩ | ⟨rfl, L, n, vn, rfl, hA, hRd⟩ | ⟨rfl, L, n, cl, vn, rfl, rfl, hA, hRd⟩
    · have HA := Lib.hid hA
      have HR := Lib.hid hR
      have HRd := Lib.hid hRd
      clear hA hR hRd
      refine ⟨_, rfl, ?_⟩
      go_wp2_with fail
      refine (next_any g c a cs A As b _ HR.out).mono ?_
      rintro e W1 ⟨hk, hx⟩
      have HB1 := Lib.hid (HB.out.trans (hk.below HB.out.size fun k e => e ▸ hg.out))
      have HA1 := Lib.hid (HA.out.keep (hk.mono fun i h => by rw [h]))
      have hpl := HR.out.place
      rcases hx with ⟨cl, a', hx, hcl, rfl, hr⟩ | ⟨k, d, a', ad, cd, hx, rfl, hld, hdc, hdm, hd8, hr⟩
      · have HE := Lib.hid (HRd.out _ (Rd.stop hx))
        clear hk hx hr
        go_wp2_with fail
        go_step3
        change JF w A c b _ _ _ ∧ muF b.length _ _ _ < muF b.length _ _ _
        refine ⟨jf_mk (As := As) (cs := cs) hg.out (.inr (.inr (.inr (.inr ⟨rfl, L, n, cl, .slice none 0 0, rfl, rfl, HA1.out, by simpa using HE.out⟩)))) HB1.out, ?_⟩
        show rank g b.length 1 _ < rank g b.length 0 _
        simp only [rank, pos_of HR.out]
        omega
      · obtain ⟨q1, q2, q3, q4⟩ := nxt_len hpl hx
        have hk4 : k = 1 ∨ k = 2 ∨ k = 3 ∨ k = 4 := by omega
        have HX := Lib.hid hx
        have HR1 := Lib.hid hr
        have HLD := Lib.hid hld
        clear hk hx hr hld
        rcases hk4 with rfl | rfl | rfl | rfl
        · go_wp2_with fail
          go_step3
          change JF w A c b _ _ _ ∧ muF b.length _ _ _ < muF b.length _ _ _
          refine ⟨jf_mk (As := As) (cs := cs) hg.out (.inr (.inr (.inl ⟨rfl, L, n, a', [], d, ad, cd, rfl, rfl, World.ownsRow_nil _ _ _ _, HLD.out, hd8, HA1.out, HR1.out, by omega, by simp; omega, by simp, fun R hR => HRd.out R (.full HX.out rfl (.inl rfl) hR)⟩))) HB1.out, ?_⟩
          show rank g b.length 2 _ < rank g b.length 0 _
          simp only [rank, pos_of HR.out, pos_of HR1.out]
          omega
        · have hcl := clone_any ad cd d W1 (HLD.out.up (Nat.le_of_lt HR1.out.box.lt)) (by omega)
          have HC := Lib.hid hcl
          clear hcl
          go_wp2_with fail
          refine HC.out.mono ?_; rintro e W2 ⟨v2, rfl, ho2, hb2⟩
          have HO2 := Lib.hid (own_lower ho2 HR1.out.box.lt)
          have HB2 := Lib.hid (HB1.out.trans (hb2.mono HB1.out.size))
          have HR2 := Lib.hid (HR1.out.below hb2 HR1.out.box.lt)
          have HA2 := Lib.hid ((HA1.out.other fun k hk => (ho2.lt k hk).1).fresh hb2)
          clear ho2 hb2
          go_wp2_with fail
          go_step3
          change JF w A c b _ _ _ ∧ muF b.length _ _ _ < muF b.length _ _ _
          refine ⟨jf_mk (As := As) (cs := cs) hg.out (.inr (.inl ⟨rfl, L, n, a', d, rfl, HO2.out, HA2.out, HR2.out, by omega, by omega, hd8, fun R hR => HRd.out R (.more HX.out rfl (.inl rfl) hR)⟩)) HB2.out, ?_⟩
          show rank g b.length 3 _ < rank g b.length 0 _
          simp only [rank, pos_of HR.out, pos_of HR2.out]
          omega
        · go_wp2_with fail
          go_step3
          change JF w A c b _ _ _ ∧ muF b.length _ _ _ < muF b.length _ _ _
          refine ⟨jf_mk (As := As) (cs := cs) hg.out (.inr (.inr (.inr (.inl ⟨rfl, L, n, .slice none 0 0, rfl, HA1.out, HRd.out _ (.bad HX.out rfl)⟩)))) HB1.out, ?_⟩
          show rank g b.length 4 _ < rank g b.length 0 _
          simp only [rank, pos_of HR.out]
          omega
        · go_wp2_with fail
          go_step3
          change JF w A c b _ _ _ ∧ muF b.length _ _ _ < muF b.length _ _ _
          refine ⟨jf_mk (As := As) (cs := cs) hg.out (.inr (.inr (.inr (.inl ⟨rfl, L, n, .slice none 0 0, rfl, HA1.out, HRd.out _ (.bad HX.out rfl)⟩)))) HB1.out, ?_⟩
          show rank g b.length 4 _ < rank g b.length 0 _
          simp only [rank, pos_of HR.out]
          omega
    · have HA := Lib.hid hA
      have HR := Lib.hid hR
      have HRd := Lib.hid hRd
      have HO := Lib.hid hO
      clear hA hR hRd hO
      refine ⟨_, rfl, ?_⟩
      go_wp2_with fail
      refine (next_any g c a cs A As b _ HR.out).mono ?_
      rintro e W1 ⟨hk, hx⟩
      have HB1 := Lib.hid (HB.out.trans (hk.below HB.out.size fun k e => e ▸ hg.out))
      have HA1 := Lib.hid (HA.out.keep (hk.mono fun i h => by rw [h]))
      have hpl := HR.out.place
      have HK := Lib.hid hk
      have HO1 := Lib.hid (own_kept HO.out hk fun k hk1 e => by have := (HO.out.lt k hk1).1; omega)
      rcases hx with ⟨cl, a', hx, hcl, rfl, hr⟩ | ⟨k, d, a', ad, cd, hx, rfl, hld, hdc, hdm, hd8, hr⟩
      · have HE := Lib.hid (HRd.out _ (Rd.stop hx))
        clear hk hx hr
        have hcl3 : cl = 0 ∨ cl = 1 ∨ cl = 2 := by omega
        rcases hcl3 with rfl | rfl | rfl
        · go_wp2_with fail
          go_step3
          change JF w A c b _ _ _ ∧ muF b.length _ _ _ < muF b.length _ _ _
          refine ⟨jf_mk (As := As) (cs := cs) hg.out (.inr (.inr (.inr (.inr ⟨rfl, L, n, 1, v6, rfl, rfl, HA1.out, by simpa using HE.out⟩)))) HB1.out, ?_⟩
          show rank g b.length 1 _ < rank g b.length 3 _
          simp only [rank, pos_of HR.out]
          omega
        · go_wp2_with fail
          go_step3
          change JF w A c b _ _ _ ∧ muF b.length _ _ _ < muF b.length _ _ _
          refine ⟨jf_mk (As := As) (cs := cs) hg.out (.inr (.inr (.inr (.inr ⟨rfl, L, n, 1, v6, rfl, rfl, HA1.out, by simpa using HE.out⟩)))) HB1.out, ?_⟩
          show rank g b.length 1 _ < rank g b.length 3 _
          simp only [rank, pos_of HR.out]
          omega
        · go_wp2_with fail
          go_step3
          change JF w A c b _ _ _ ∧ muF b.length _ _ _ < muF b.length _ _ _
          refine ⟨jf_mk (As := As) (cs := cs) hg.out (.inr (.inr (.inr (.inr ⟨rfl, L, n, 2, v6, rfl, rfl, HA1.out, by simpa using HE.out⟩)))) HB1.out, ?_⟩
          show rank g b.length 1 _ < rank g b.length 3 _
          simp only [rank, pos_of HR.out]
          omega
      · obtain ⟨q1, q2, q3, q4⟩ := nxt_len hpl hx
        have hk4 : k = 1 ∨ k = 2 ∨ k = 3 ∨ k = 4 := by omega
        have HX := Lib.hid hx
        have HR1 := Lib.hid hr
        have HLD := Lib.hid hld
        clear hk hx hr hld
        rcases hk4 with rfl | rfl | rfl | rfl
        · go_wp2_with fail
          go_step3
          change JF w A c b _ _ _ ∧ muF b.length _ _ _ < muF b.length _ _ _
          refine ⟨jf_mk (As := As) (cs := cs) hg.out (.inr (.inr (.inr (.inl ⟨rfl, L, n, v6, rfl, HA1.out, HRd.out _ (.bad HX.out rfl)⟩)))) HB1.out, ?_⟩
          show rank g b.length 4 _ < rank g b.length 3 _
          simp only [rank, pos_of HR.out]
          omega
        · go_wp2_with fail
          go_step3
          change JF w A c b _ _ _ ∧ muF b.length _ _ _ < muF b.length _ _ _
          refine ⟨jf_mk (As := As) (cs := cs) hg.out (.inr (.inr (.inr (.inl ⟨rfl, L, n, v6, rfl, HA1.out, HRd.out _ (.bad HX.out rfl)⟩)))) HB1.out, ?_⟩
          show rank g b.length 4 _ < rank g b.length 3 _
          simp only [rank, pos_of HR.out]
          omega
        · obtain ⟨v2, W2, hr2, ho2, on2⟩ := append_bytes (c := cd) HO1.out HLD.out (by omega) HR1.out.box.lt
          have HQ := Lib.hid hr2
          have HO2 := Lib.hid ho2
          have hb2 := on2.below HO1.out HR1.out.box.lt
          have HB2 := Lib.hid (HB1.out.trans (hb2.mono (Nat.le_succ_of_le hg.out)))
          have HR2 := Lib.hid (HR1.out.below hb2 (Nat.lt_succ_self _))
          have HA2 := Lib.hid (HA1.out.grew on2 HO1.out)
          clear hr2 ho2 on2 hb2
          go_wp2_with (at_builtin; refine wpList_append_run rfl _ _ 24 rfl rfl rfl HQ.out ?_)
          go_step3
          change JF w A c b _ _ _ ∧ muF b.length _ _ _ < muF b.length _ _ _
          refine ⟨jf_mk (As := As) (cs := cs) hg.out (.inr (.inl ⟨rfl, L, n, a', (now ++ d), rfl, HO2.out, HA2.out, HR2.out, by omega, by rw [List.length_append]; omega, fun x hx => (List.mem_append.1 hx).elim (hn8 x) (hd8 x), fun R hR => HRd.out R (.more HX.out rfl (.inr rfl) hR)⟩)) HB2.out, ?_⟩
          show rank g b.length 3 _ < rank g b.length 3 _
          simp only [rank, pos_of HR.out, pos_of HR2.out]
          omega
        · go_wp2_with fail
          go_step3
          change JF w A c b _ _ _ ∧ muF b.length _ _ _ < muF b.length _ _ _
          refine ⟨jf_mk (As := As) (cs := cs) hg.out (.inr (.inr (.inl ⟨rfl, L, n, a', now, d, ad, cd, rfl, rfl, HO1.out, HLD.out, hd8, HA1.out, HR1.out, by omega, by omega, hn8, fun R hR => HRd.out R (.full HX.out rfl (.inr rfl) hR)⟩))) HB1.out, ?_⟩
          show rank g b.length 2 _ < rank g b.length 3 _
          simp only [rank, pos_of HR.out, pos_of HR1.out]
          omega
    · have HA := Lib.hid hA
      have HR := Lib.hid hR
      have HRd := Lib.hid hRd
      have HO := Lib.hid hO
      have HLD := Lib.hid hld
      clear hA hR hRd hO hld
      refine ⟨_, rfl, ?_⟩
      have hpl := HR.out.place
      have hsm := HR.out.small
      obtain ⟨v2, W2, hr2, ho2, on2⟩ := append_bytes (c := cd) HO.out HLD.out (by omega) HR.out.box.lt
      have hb2 := on2.below HO.out HR.out.box.lt
      have HA2 := HA.out.grew on2 HO.out
      obtain ⟨A6, c6, rfl, k1, k2, k3⟩ := own_parts ho2
      have HR2 := HR.out.below hb2 (Nat.lt_succ_self _)
      obtain ⟨v3, W3, hr3, HA3, on3⟩ := Acc.more HA2 ho2 (fun j hj => by cases hj; exact Nat.lt_succ_self _) k1 k2 (fun x hx => (List.mem_append.1 hx).elim (hn8 x) (hd8 x)) HR2.box.lt (by omega)
      have hb3 := on3.below HA2.own HR2.box.lt
      have HQ2 := Lib.hid hr2
      have HQ3 := Lib.hid hr3
      have HB3 := Lib.hid (HB.out.trans ((hb2.trans hb3).mono (Nat.le_succ_of_le hg.out)))
      have HR3 := Lib.hid (HR2.below hb3 (Nat.lt_succ_self _))
      have HAA := Lib.hid HA3
      clear hr2 ho2 on2 hb2 HA2 HR2 hr3 HA3 on3 hb3 k3
      obtain ⟨p0, p1, p2, f0, f1, f2⟩ := HR3.out.box.facts3
      generalize now ++ d = nd at *
      go_wp2_with (at_builtin; first | refine wpList_append_run rfl _ _ 24 rfl rfl rfl HQ2.out ?_ | refine wpList_append_run rfl _ _ 82 rfl rfl rfl HQ3.out ?_)
      go_step3
      change JF w A c b _ _ _ ∧ muF b.length _ _ _ < muF b.length _ _ _
      refine ⟨jf_mk (As := As) (cs := cs) hg.out (.inl ⟨rfl, L ++ [⟨A6, c6, nd⟩], a, a, rfl, HAA.out, HR3.out, by simp; omega, fun R hR => HRd.out R (by simpa using hR)⟩) HB3.out, ?_⟩
      show rank g b.length 0 _ < rank g b.length 2 _
      simp only [rank, pos_of HR.out, pos_of HR3.out]
      omega
    · have HA := Lib.hid hA
      have HRd := Lib.hid hRd
      clear hA hRd
      refine ⟨_, rfl, ?_⟩
      go_wp2_with fail
      go_step3
      go_wp2_with fail
      rw [jumps_ret]
      go_returns
      obtain ⟨Ar, cr, rfl, hs⟩ := HA.out.seqs
      exact ⟨Ar, cr, L, n, 2, rfl, hs, HRd.out, HB.out⟩
    · have HA := Lib.hid hA
      have HRd := Lib.hid hRd
      clear hA hRd
      refine ⟨_, rfl, ?_⟩
      go_wp2_with fail
      rw [jumps_ret]
      go_returns
      obtain ⟨Ar, cr, rfl, hs⟩ := HA.out.seqs
      exact ⟨Ar, cr, L, n, cl, rfl, hs, HRd.out, HB.out⟩
end Go.Proofs.YtnbknihaefkllaaGreatDoor.Fr
/- What Put of package frame answers. -/
namespace Go.Proofs.YtnbknihaefkllaaGreatDoor.Fr
set_option linter.unusedVariables false
set_option linter.unusedSimpArgs false
open Go.RowKit Lift Ik
/-- How long a slice is. -/
def lenV : Value → Nat
  | .slice _ n _ => n
  | _ => 0
set_option maxRecDepth 100000 in
set_option maxHeartbeats 1600000 in
theorem put_any (s : Int) (A : Option Addr) (c : Nat) (r : List Nat) (w : World) (hs : -9223372036854775808 ≤ s ∧ s ≤ 9223372036854775807) (hl : Lies w w.heap.size A (r.map vb)) (hc : r.length ≤ c) (hm : c ≤ maxLen) (hn : r.length ≤ 1000000) (h8 : ∀ c, c ∈ r → c < 256) :
    Calls Tryz.prog 32 #[.int .i64 s, .slice A r.length c] w (Made w.heap.size w (put s.toNat r)) := by
  obtain ⟨a, ha⟩ : ∃ a : Nat, a = s.toNat := ⟨_, rfl⟩
  rw [← ha]
  have hmax : max s 0 = (a : Int) := by omega
  have hmax' : max 0 s = (a : Int) := by omega
  have hrm := room_any a w (by omega)
  have hlp := left_pos a
  have hcl := cap_le a
  have hmk := make_own (left a) (by omega) w
  have HL := Lib.hid hl
  have H8 := Lib.hid h8
  have HPL := Lib.hid (put_len a r)
  have HP : Hid (put a r = List.replicate (pad a) 0 ++ parts (cap a) r) := Lib.hid rfl
  clear hl h8 ha
  by_cases h7 : left a < 7
  case' pos =>
    have hcap : cap a = 121 := by unfold cap; rw [if_pos h7]
    have hpad : pad a = left a := by unfold pad; rw [if_pos h7]
    rw [hcap, hpad] at HP
    have HB0 := Lib.hid (Joins.below_alloc1 w (.cells (madeCells #[.int .u8 0] (left a)) 5))
    have HO0 := Lib.hid hmk.2
    have hm1 := hmk.1
    clear hmk hcap hpad hcl
    generalize put a r = P at *
    generalize left a = L at *
    have HRM := Lib.hid hrm
    clear hrm
    have HX0 : Hid ((List.replicate L 0).length ≤ 6) := Lib.hid (by simp; omega)
    go_enter Tryz.func32, Tryz.ntmps32
    go_wp2_with fail
    refine HRM.out.mono ?_; rintro e w' ⟨rfl, rfl⟩
    go_wp2_with fail
    obtain ⟨N, hN⟩ : ∃ N : Nat, N = 121 := ⟨_, rfl⟩
    rw [show (121 : Nat) = N from hN.symm] at HP
    rw [show (Value.int .i64 128) = .int .i64 ((N + 7 : Nat) : Int) by rw [hN]; rfl]
    have hN1 : N ≤ 121 := by omega
    clear hN hm1
    generalize List.replicate L 0 = xs0 at *
  case' neg =>
    have hcap : left a = cap a + 7 := by unfold cap; rw [if_neg h7]; omega
    have hpad : pad a = 0 := by unfold pad; rw [if_neg h7]
    rw [hpad] at HP
    have HB0 := Lib.hid (Below.refl w.heap.size w)
    have HO0 : Hid (w.ownsRow w.heap.size 5 1 (.slice none 0 0) (List.replicate 0 0).length ((List.replicate 0 0).map vb)) := Lib.hid (World.ownsRow_nil _ _ _ _)
    have HX0 : Hid ((List.replicate 0 0 : List Nat).length ≤ 6) := Lib.hid (by simp)
    rw [hcap] at hrm h7
    have hN1 := hcl
    generalize List.replicate 0 0 = xs0 at *
    generalize put a r = P at *
    clear hmk hpad hcl hcap hlp
    generalize cap a = N at *
    have HRM := Lib.hid hrm
    clear hrm
    go_enter Tryz.func32, Tryz.ntmps32
    go_wp2_with fail
    refine HRM.out.mono ?_; rintro e w' ⟨rfl, rfl⟩
    go_wp2_with fail
  all_goals
    refine (Crc.table_any _).mono ?_
    rintro e W1 ⟨vT, rfl, hoT, hbT⟩
    obtain ⟨A1, c1, rfl, hc1, hm1, hlT⟩ := own_parts hoT
    rw [Crc.tab_length] at hc1 hoT ⊢
    have hoff := LiesP.of_own hoT
    have HT1 := Lib.hid (LiesP.later (w' := W1) (R' := fun k => k < W1.heap.size ∧ ¬ Value.ownBlock _ = some k) hoff (fun _ _ => rfl) fun j hj => ⟨hj.2.1, fun he => by have := (HO0.out.lt j he).2; omega⟩)
    have HO1 := Lib.hid (own_later HO0.out hbT)
    have HB1 := Lib.hid (HB0.out.trans (hbT.mono HB0.out.size))
    have HTL := Lib.hid hlT
    clear hoT hlT hoff hbT HO0 HB0 hm1
    have hx0 := HX0.out
    by_cases hr : r.length ≤ N
    · have hF := frag_any w.heap.size 1 c1 c _ A1 A xs0 r W1 HO1.out HB1.out.size HTL.out hc1 (HL.out.below HB1.out) hc hm (by omega) hn (by decide) H8.out
      rw [show ((1 : Nat) : Int) = 1 from rfl] at hF
      have HF := Lib.hid hF
      have HQ : Hid (P = xs0 ++ piece 1 r) := Lib.hid (by rw [HP.out]; unfold parts; rw [if_pos hr])
      clear hF
      go_wp2_with fail
      refine HF.out.mono ?_; rintro e W2 ⟨v2, rfl, ho2, on2⟩
      have HO2 := Lib.hid ho2
      have HB2 := Lib.hid (HB1.out.trans (on2.below HO1.out HB1.out.size))
      clear ho2 on2
      go_wp2_with fail
      go_ret
      exact ⟨_, rfl, by rw [HQ.out]; exact HO2.out, HB2.out⟩
    · have htl : (r.take N).length = N := by rw [List.length_take]; omega
      have hF := frag_any w.heap.size 2 c1 c _ A1 A xs0 (r.take N) W1 HO1.out HB1.out.size HTL.out hc1 ((HL.out.below HB1.out).front (by rw [List.map_take]; exact List.take_prefix _ _)) (by omega) hm (by omega) (by omega) (by decide) (byte_front H8.out fun x hx => List.mem_of_mem_take hx)
      rw [show ((2 : Nat) : Int) = 2 from rfl, htl] at hF
      have HF := Lib.hid hF
      have HQ : Hid (P = (xs0 ++ piece 2 (r.take N)) ++ tail (r.drop N)) := Lib.hid (by rw [HP.out]; unfold parts; rw [if_neg hr, List.append_assoc])
      have hc1' := cut_to A r.length c N (by omega) hc hm
      obtain ⟨A2, hA2, _, hc2'⟩ := cut_from A r.length c N (by omega) hc hm
      have hdl : (r.drop N).length = r.length - N := List.length_drop
      clear hF htl
      go_wp2_with fail
      refine HF.out.mono ?_; rintro e W2 ⟨v2, rfl, ho2, on2⟩
      have HO2 := Lib.hid ho2
      have HB2 := Lib.hid (HB1.out.trans (on2.below HO1.out HB1.out.size))
      have HT2 := Lib.hid (Off.onto HT1.out on2)
      have HL2 : Hid (Lies W2 w.heap.size A2 ((r.drop N).map vb)) := Lib.hid ((HL.out.below HB2.out).cut (p := N) (fun h0 => hA2 (by omega)) (List.prefix_refl _))
      have H82 : Hid (∀ x, x ∈ r.drop N → x < 256) := Lib.hid (byte_front H8.out fun x hx => List.mem_of_mem_drop hx)
      have hpl := HPL.out
      clear ho2 on2 HT1 HO1 HB1 HTL HF HL H8 HPL HP
      go_wp2_with fail
      rw [← hdl]
      have hdc : (r.drop N).length ≤ c - N := by omega
      have hdm : (r.drop N).length ≤ 1000000 := by omega
      have hcm2 : c - N ≤ maxLen := by unfold maxLen at hm ⊢; omega
      generalize hR : r.drop N = R at *
      clear hR
      generalize hQ0 : xs0 ++ piece 2 (r.take N) = Q0 at *
      clear hQ0
      go_loopw [1, 5] (fun rec out wr => ∃ (r' : List Nat) (A' : Option Addr) (c' : Nat) (done : List Nat), rec = .slice A' r'.length c' ∧ r'.length ≤ c' ∧ c' ≤ maxLen ∧ r'.length ≤ 1000000 ∧ Hid (Lies wr w.heap.size A' (r'.map vb)) ∧ Hid (∀ x, x ∈ r' → x < 256) ∧
        Hid (wr.ownsRow w.heap.size 5 1 out done.length (done.map vb)) ∧ Hid (P = done ++ tail r') ∧ Hid (Below w.heap.size w wr) ∧ Hid (Off out wr A1 (Crc.tab.map Crc.vw))) (fun rec _ _ => lenV rec)
      case atStart => exact ⟨R, A2, c - N, Q0, rfl, hdc, hcm2, hdm, HL2, H82, HO2, HQ, HB2, HT2⟩
      case round =>
        clear hdc hcm2 hdm HL2 H82 HO2 HQ HB2 HT2 hA2 hc1' hc2' hdl hx0
        obtain ⟨r', A', c', done, rfl, k1, k2, k3, KL, K8, KO, KP, KB, KT⟩ := hrel
        have kd : done.length ≤ 3000000 := by have := congrArg List.length KP.out; rw [List.length_append] at this; omega
        by_cases hlt : 121 < r'.length
        · have htl : (r'.take 121).length = 121 := by rw [List.length_take]; omega
          have hF := frag_any w.heap.size 3 c1 c' _ A1 A' done (r'.take 121) wr KO.out KB.out.size (Off.lies KT.out) hc1 (KL.out.front (by rw [List.map_take]; exact List.take_prefix _ _)) (by omega) k2 (by omega) (by omega) (by decide) (byte_front K8.out fun x hx => List.mem_of_mem_take hx)
          rw [show ((3 : Nat) : Int) = 3 from rfl, htl] at hF
          have HF := Lib.hid hF
          have HQ : Hid (P = (done ++ piece 3 (r'.take 121)) ++ tail (r'.drop 121)) := Lib.hid (by rw [KP.out, tail_more (by omega), List.append_assoc])
          have hc1' : ∀ W : World, Sem.run Tryz.prog (Instr.slice 24 (.slice A' r'.length c') none (some (.int .i64 121)) none) W = .ok (.slice A' 121 c') W := cut_to A' r'.length c' 121 (by omega) k1 k2
          obtain ⟨A2, hA2, _, hc2a⟩ := cut_from A' r'.length c' 121 (by omega) k1 k2
          have hc2' : ∀ W : World, Sem.run Tryz.prog (Instr.slice 24 (.slice A' r'.length c') (some (.int .i64 121)) none none) W = .ok (.slice A2 (r'.length - 121) (c' - 121)) W := hc2a
          have hdl : (r'.drop 121).length = r'.length - 121 := List.length_drop
          clear hF htl hc2a
          go_wp2_with fail
          refine HF.out.mono ?_; rintro e W3 ⟨v3, rfl, ho3, on3⟩
          have HO3 := Lib.hid ho3
          have HB3 := Lib.hid (KB.out.trans (on3.below KO.out KB.out.size))
          have HT3 := Lib.hid (Off.onto KT.out on3)
          have HL3 : Hid (Lies W3 w.heap.size A2 ((r'.drop 121).map vb)) := Lib.hid ((KL.out.below (on3.below KO.out KB.out.size)).cut (p := 121) (fun h0 => hA2 (by omega)) (List.prefix_refl _))
          have H83 : Hid (∀ x, x ∈ r'.drop 121 → x < 256) := Lib.hid (byte_front K8.out fun x hx => List.mem_of_mem_drop hx)
          clear ho3 on3
          go_wp2_with fail
          go_roundw
          case rel => exact ⟨r'.drop 121, A2, c' - 121, done ++ piece 3 (r'.take 121), by rw [hdl], by omega, by unfold maxLen at k2 ⊢; omega, by omega, HL3, H83, HO3, HQ, HB3, HT3⟩
          case measure => simp [lenV]; omega
        · have hF := frag_any w.heap.size 4 c1 c' _ A1 A' done r' wr KO.out KB.out.size (Off.lies KT.out) hc1 KL.out k1 k2 (by omega) (by omega) (by decide) K8.out
          rw [show ((4 : Nat) : Int) = 4 from rfl] at hF
          have HF := Lib.hid hF
          have HQ : Hid (P = done ++ piece 4 r') := Lib.hid (by rw [KP.out, tail_end (by omega)])
          clear hF
          go_wp2_with fail
          refine HF.out.mono ?_; rintro e W3 ⟨v3, rfl, ho3, on3⟩
          have HO3 := Lib.hid ho3
          have HB3 := Lib.hid (KB.out.trans (on3.below KO.out KB.out.size))
          clear ho3 on3
          go_wp2_with fail
          go_ret
          exact ⟨_, rfl, by rw [HQ.out]; exact HO3.out, HB3.out⟩
end Go.Proofs.YtnbknihaefkllaaGreatDoor.Fr
/- What the document's own piece answers. -/
namespace Go.Proofs.YtnbknihaefkllaaGreatDoor.Fr
set_option linter.unusedVariables false
set_option linter.unusedSimpArgs false
open Go.RowKit Lift Ik
set_option maxRecDepth 100000 in
theorem masked_any (A : Option Addr) (c B : Nat) (bs : List Nat) (w : World) (hl : Lies w B A (bs.map vb)) (hc : bs.length ≤ c) (hm : c ≤ maxLen) (h8 : ∀ c, c ∈ bs → c < 256) :
    Calls Tryz.prog 80 #[.slice A bs.length c] w (Made w.heap.size w (low (Crc.maskN (Crc.crc Crc.ent bs)) 4)) := by
  have h32 : Crc.crc Crc.ent bs ≤ 4294967295 := by unfold Crc.crc; omega
  have HS := Lib.hid (Crc.crc_any A c B bs w hl hc (Nat.le_trans hc hm) h8)
  have HM := Lib.hid (Crc.rmask_any (Crc.crc Crc.ent bs) w h32)
  have hml := Crc.maskN_lt (Crc.crc Crc.ent bs)
  have HL := Lib.hid (low_any none 0 0 (Crc.maskN (Crc.crc Crc.ent bs)) 4 [] w (.inl rfl) (by simp) (by omega) (by omega))
  clear hl h8
  generalize Crc.crc Crc.ent bs = C at *
  generalize Crc.maskN C = M at *
  go_enter Tryz.func80, Tryz.ntmps80
  go_wp2_with fail
  refine HS.out.mono ?_; rintro e w' ⟨rfl, rfl⟩
  go_wp2_with fail
  refine HM.out.mono ?_; rintro e w' ⟨rfl, rfl⟩
  go_wp2_with fail
  refine HL.out.mono ?_; rintro e W2 ⟨v, rfl, ho, hb⟩
  have HO := Lib.hid ho
  have HB := Lib.hid hb
  clear ho hb
  go_wp2_with fail
  go_ret
  exact ⟨_, rfl, HO.out, HB.out⟩
set_option maxRecDepth 100000 in
set_option maxHeartbeats 800000 in
theorem rpiece_any (k cd B : Nat) (Ad : Option Addr) (d : List Nat) (w : World) (hd : Lies w B Ad (d.map vb)) (hB : B ≤ w.heap.size) (hcd : d.length ≤ cd) (hmd : cd ≤ maxLen) (hdn : d.length ≤ 1000000) (hk : k < 256) (d8 : ∀ c, c ∈ d → c < 256) :
    Calls Tryz.prog 62 #[.int .u8 (k : Int), .slice Ad d.length cd] w (Made w.heap.size w (piece k d)) := by
  obtain ⟨A1, c1, W1, hr1, hc1, hm1, ho1, hb1⟩ := one_then k d Ad cd B w hd hB hdn
  have hl1 := Lies.of_own ho1
  have s8 : ∀ c, c ∈ k :: d → c < 256 := fun c hc => by rcases List.mem_cons.1 hc with rfl | hc; exact hk; exact d8 c hc
  have HM := Lib.hid (masked_any A1 c1 W1.heap.size (k :: d) W1 hl1 hc1 hm1 s8)
  have HR1 := Lib.hid hr1
  have HB1 := Lib.hid hb1
  have HD := Lib.hid (hd.up hB)
  have HK : Hid (piece k d = low (sumB k d) 4 ++ low d.length 2 ++ k :: d) := Lib.hid (by unfold piece; exact Eq.refl _)
  have HSB : Hid (Crc.maskN (Crc.crc Crc.ent (k :: d)) = sumB k d) := Lib.hid (by unfold sumB; exact Eq.refl _)
  have w64 : ((d.length : Int) % 18446744073709551616) = (d.length : Int) := by omega
  rw [HSB.out] at HM
  have HL4 := Lib.hid (low_length (sumB k d) 4)
  have HLL2 := Lib.hid (low_length d.length 2)
  generalize hS4 : low (sumB k d) 4 = S4 at *
  clear hr1 hb1 hd hB s8 d8 hk hl1 ho1 HSB hS4
  generalize piece k d = PC at *
  go_enter Tryz.func62, Tryz.ntmps62
  go_wp2_with (at_builtin; refine wpList_append_run rfl _ _ 24 rfl rfl rfl HR1.out ?_)
  refine HM.out.mono ?_; rintro e W2 ⟨v2, rfl, ho2, hb2⟩
  obtain ⟨A2, c2, rfl, h21, h22, hl2⟩ := own_parts ho2
  have HB2 := Lib.hid (HB1.out.trans (hb2.mono HB1.out.size))
  have HL2 := Lib.hid (low_any A2 c2 W2.heap.size d.length 2 S4 W2 hl2 (by have := HL4.out; omega) (by omega) (by omega))
  clear ho2 hb2 hl2
  go_wp2_with fail
  refine HL2.out.mono ?_; rintro e W3 ⟨v3, rfl, ho3, hb3⟩
  have HB3 := Lib.hid (HB2.out.trans (hb3.mono HB2.out.size))
  have e6 : (S4 ++ low d.length 2).length = 6 := by rw [List.length_append, HL4.out, HLL2.out]
  obtain ⟨v4, W4, hr4, ho4, on4⟩ := append_byte k ho3 (by rw [e6]; omega) hb3.size
  have hb4 := hb3.trans (on4.below ho3 hb3.size)
  obtain ⟨v5, W5, hr5, ho5, on5⟩ := append_bytes (c := cd) ho4 (HD.out.below (HB2.out.trans (hb4.mono HB2.out.size))) (by rw [List.length_append, e6]; simp; omega) (by exact hb4.size)
  have HB5 := Lib.hid (HB2.out.trans ((hb4.trans (on5.below ho4 hb4.size)).mono HB2.out.size))
  have HR4 := Lib.hid hr4
  have HR5 := Lib.hid hr5
  have HO5 := Lib.hid ho5
  clear ho3 hb3 hr4 ho4 on4 hr5 ho5 on5 hb4 e6
  go_wp2_with (at_builtin; first | refine wpList_append_run rfl _ _ 24 rfl rfl rfl HR4.out ?_ | refine wpList_append_run rfl _ _ 24 rfl rfl rfl HR5.out ?_)
  go_ret
  refine ⟨_, rfl, ?_, HB5.out⟩
  have e : PC = S4 ++ low d.length 2 ++ [k] ++ d := by rw [HK.out]; simp
  rw [e]
  exact own_lower HO5.out HB2.out.size
end Go.Proofs.YtnbknihaefkllaaGreatDoor.Fr
/- Two lists of bytes are one; are all bytes zeros; a header that fits. -/
namespace Go.Proofs.YtnbknihaefkllaaGreatDoor.Fr
set_option linter.unusedVariables false
set_option linter.unusedSimpArgs false
open Go.RowKit Lift Ik Sq
set_option maxRecDepth 100000 in
set_option maxHeartbeats 400000 in
theorem zeros_any (A : Option Addr) (c B : Nat) (bs : List Nat) (w : World) (hl : Lies w B A (bs.map vb)) (hn : bs.length ≤ 20000000) (h8 : ∀ c, c ∈ bs → c < 256) :
    Calls Tryz.prog 67 #[.slice A bs.length c] w fun e w' => e = .returned (.bool (decide (∀ c, c ∈ bs → c = 0))) ∧ w = w' := by
  have HL := Lib.hid hl
  have H8 := Lib.hid h8
  clear hl h8
  go_enter Tryz.func67, Tryz.ntmps67
  go_wp2_with fail
  go_loop [3] (fun i => ∃ j : Nat, j ≤ bs.length ∧ i = .int .i64 j ∧ Hid (∀ c, c ∈ bs.take j → c = 0)) (fun i => bs.length + 1 - (intOf i).toNat)
  case atStart => exact ⟨0, by omega, rfl, Lib.hid (by simp)⟩
  case round =>
    obtain ⟨j, hj, rfl, hz⟩ := hrel
    by_cases hlt : j < bs.length
    · obtain ⟨ad, hA, _, hcell⟩ := HL.out.place (by simp; omega)
      subst hA
      obtain ⟨d, hd⟩ : ∃ d : Nat, bs[j]? = some d := ⟨_, List.getElem?_eq_getElem hlt⟩
      have d8 := H8.out d (List.mem_of_getElem? hd)
      have h1 := cells_at hcell _ d hd
      have HD := Lib.hid hd
      clear hcell hd
      by_cases h0 : d = 0
      · subst h0
        go_wp2_with fail
        go_round
        case rel => exact ⟨j + 1, by omega, by go_num, Lib.hid (by
          rw [List.take_add_one, HD.out]
          intro c hc
          rcases List.mem_append.1 hc with hc | hc
          · exact hz.out c hc
          · simpa using hc)⟩
        case measure => simp [intOf]; omega
      · have E : Hid (decide (∀ c, c ∈ bs → c = 0) = false) := Lib.hid (decide_eq_false fun h => h0 (h d (List.mem_of_getElem? HD.out)))
        have hne : ((d : Int) != 0) = true := by rw [bne_iff_ne]; omega
        go_wp2_with fail
        go_ret
        exact ⟨by rw [E.out]; rfl, rfl⟩
    · obtain rfl : j = bs.length := by omega
      have E : Hid (decide (∀ c, c ∈ bs → c = 0) = true) := Lib.hid (decide_eq_true (by rw [List.take_length] at hz; exact hz.out))
      go_wp2_with fail
      go_ret
      exact ⟨by rw [E.out]; rfl, rfl⟩
theorem head7 {r : List Nat} (h7 : 7 ≤ r.length) (h8 : ∀ x, x ∈ r → x < 256) (hd : (dataOf r).length = num2 r) :
    (r.take 7 = (piece (kindOf r) (dataOf r)).take 7) ↔ num (r.take 4) = sumB (kindOf r) (dataOf r) := by
  obtain ⟨k, hk⟩ : ∃ k, r[6]? = some k := ⟨_, List.getElem?_eq_getElem (by omega)⟩
  have ek : kindOf r = k := by unfold kindOf; rw [hk]; rfl
  have l2 : ((r.drop 4).take 2).length = 2 := by rw [List.length_take, List.length_drop]; omega
  have l4 : (r.take 4).length = 4 := by rw [List.length_take]; omega
  have b1 : (r.drop 4).take 2 ++ r.drop 6 = r.drop 4 := by
    have := List.take_append_drop 2 (r.drop 4)
    rwa [List.drop_drop] at this
  have b2 : r.take 4 ++ ((r.drop 4).take 2 ++ [k]) ++ r.drop 7 = r := by
    have e6 : r.drop 6 = [k] ++ r.drop 7 := drop_cons hk
    rw [e6] at b1
    rw [List.append_assoc, List.append_assoc, b1]
    exact List.take_append_drop 4 r
  have e1 : r.take 7 = r.take 4 ++ ((r.drop 4).take 2 ++ [k]) := by
    have := List.take_left' (l₁ := r.take 4 ++ ((r.drop 4).take 2 ++ [k])) (l₂ := r.drop 7) (i := 7) (by rw [List.length_append, List.length_append, l4, l2]; rfl)
    exact (congrArg (List.take 7) b2).symm.trans this
  have e2 : (piece (kindOf r) (dataOf r)).take 7 = low (sumB (kindOf r) (dataOf r)) 4 ++ ((r.drop 4).take 2 ++ [k]) := by
    have e3 : piece (kindOf r) (dataOf r) = (low (sumB (kindOf r) (dataOf r)) 4 ++ (low (dataOf r).length 2 ++ [kindOf r])) ++ dataOf r := by simp [piece]
    have e5 : low (num2 r) 2 = (r.drop 4).take 2 := by
      have := low_num ((r.drop 4).take 2) fun c hc => h8 c (List.mem_of_mem_drop (List.mem_of_mem_take hc))
      rw [l2] at this
      exact this
    rw [e3, List.take_left' (by simp [low_length]), hd, ek, e5]
  rw [e1, e2]
  constructor
  · intro h
    have := List.append_inj_left h (by rw [l4, low_length])
    rw [this, num_low _ _ (by have := sumB_lt (kindOf r) (dataOf r); omega)]
  · intro h
    have := low_num (r.take 4) fun c hc => h8 c (List.mem_of_mem_take hc)
    rw [l4, h] at this
    rw [this]
end Go.Proofs.YtnbknihaefkllaaGreatDoor.Fr
/- What the laws on package frame share: the example of the document. -/
namespace Go.Proofs.YtnbknihaefkllaaGreatDoor.Fr
set_option linter.unusedVariables false
set_option linter.unusedSimpArgs false
open Go.RowKit Lift Ik Sq
/-- true, and all old memory as it was. -/
def Yes (w : World) (e : Ending) (w' : World) : Prop := e = .returned (.bool true) ∧ Below w.heap.size w w'
theorem nxt_end {b : List Nat} : nxt b b.length = .stop 0 := by
  have hs : skip b b.length = b.length := by unfold skip; split <;> omega
  have hp : clean b b.length := by unfold clean padding; split <;> simp
  unfold nxt
  rw [if_pos hp, hs]
  unfold frg
  rw [if_pos (Nat.le_refl _)]
theorem rd_end {b : List Nat} {n : Nat} {out : List (List Nat)} : Rd b b.length false [] n out (out, n, 0) := Rd.stop nxt_end
theorem pad_step {b : List Nat} {a n : Nat} {r q : List Nat} {out : List (List Nat)} {R : List (List Nat) × Nat × Nat} (ha : a ≤ b.length) (hb : b.drop a = put a r ++ q) : Rd b (a + pad a) false [] n out R → Rd b a false [] n out R := by
  intro h
  by_cases h7 : left a < 7
  · have hpad : pad a = left a := by unfold pad; rw [if_pos h7]
    have hcl : clean b a := by
      unfold clean padding
      rw [if_pos h7, hb]
      unfold put
      rw [hpad, List.append_assoc, List.take_left' (by simp)]
      intro c hc
      exact (List.mem_replicate.1 hc).2
    have hl := congrArg List.length hb
    rw [List.length_drop, List.length_append] at hl
    have hpl : left a ≤ (put a r).length := by unfold put; rw [hpad]; simp
    have hsk : skip b a = a + pad a := by unfold skip; rw [if_pos h7, hpad]; omega
    have hlf : ¬ left (a + pad a) < 7 := by rw [hpad]; unfold left; omega
    have e2 : nxt b (a + pad a) = frg b (a + pad a) := by
      unfold nxt
      rw [if_pos (by unfold clean padding; rw [if_neg hlf]; simp)]
      unfold skip
      rw [if_neg hlf]
    have e : nxt b a = nxt b (a + pad a) := by
      rw [e2]
      unfold nxt
      rw [if_pos hcl, hsk]
    cases h with
    | stop h1 => exact .stop (e.trans h1)
    | bad h1 h2 => exact .bad (e.trans h1) h2
    | more h1 h2 h3 h4 => exact .more (e.trans h1) h2 h3 h4
    | full h1 h2 h3 h4 => exact .full (e.trans h1) h2 h3 h4
  · have hpad : pad a = 0 := by unfold pad; rw [if_neg h7]
    rw [hpad] at h
    exact h
/-- A record that stands there is read. -/
theorem rd_put {b : List Nat} {a n : Nat} {r q : List Nat} {out : List (List Nat)} {R : List (List Nat) × Nat × Nat} (ha : a ≤ b.length) (hb : b.drop a = put a r ++ q)
    (hR : Rd b (a + (put a r).length) false [] (a + (put a r).length) (out ++ [r]) R) : Rd b a false [] n out R := by
  refine pad_step ha hb ?_
  have hpl : (put a r).length = pad a + (parts (cap a) r).length := by unfold put; simp
  have hb2 : b.drop (a + pad a) = parts (cap a) r ++ q := by
    have h0 := hb
    unfold put at h0
    rw [List.append_assoc] at h0
    exact drop_more h0 (by simp)
  have hn : 7 + cap a = left (a + pad a) := by
    unfold cap pad
    by_cases h7 : left a < 7
    · rw [if_pos h7, if_pos h7]; unfold left; omega
    · rw [if_neg h7, if_neg h7, Nat.add_zero]; omega
  refine rd_parts hn hb2 ?_
  rw [Nat.add_assoc, ← hpl]
  exact hR
/-- Records, one behind the other. -/
def logOf (l : List (List Nat)) : List Nat := l.foldl (fun b r => b ++ put b.length r) []
theorem logOf_snoc (l : List (List Nat)) (r : List Nat) : logOf (l ++ [r]) = logOf l ++ put (logOf l).length r := by unfold logOf; rw [List.foldl_append]; rfl
theorem rd_log (l : List (List Nat)) : ∀ (q : List Nat) (R : List (List Nat) × Nat × Nat), Rd (logOf l ++ q) (logOf l).length false [] (logOf l).length l R → Rd (logOf l ++ q) 0 false [] 0 [] R := by
  have key : ∀ (m : Nat) (l : List (List Nat)), l.length = m → ∀ (q : List Nat) (R : List (List Nat) × Nat × Nat), Rd (logOf l ++ q) (logOf l).length false [] (logOf l).length l R → Rd (logOf l ++ q) 0 false [] 0 [] R := by
    intro m
    induction m with
    | zero =>
      intro l hl q R h
      have : l = [] := List.eq_nil_of_length_eq_zero hl
      subst this
      exact h
    | succ m ih =>
      intro l hl q R h
      obtain ⟨l', r, rfl⟩ : ∃ l' r, l = l' ++ [r] := ⟨l.dropLast, l.getLast (by intro h0; rw [h0] at hl; simp at hl), (List.dropLast_concat_getLast _).symm⟩
      have hl' : l'.length = m := by simpa using hl
      rw [logOf_snoc] at h ⊢
      rw [List.append_assoc]
      rw [List.append_assoc] at h
      refine ih l' hl' _ R ?_
      refine rd_put (a := (logOf l').length) (r := r) (q := q) (by simp) (by rw [List.drop_left' rfl]) ?_
      rw [List.length_append] at h
      exact h
  exact key l.length l rfl
theorem logOf_byte {l : List (List Nat)} (h : ∀ r, r ∈ l → ∀ x, x ∈ r → x < 256) : ∀ x, x ∈ logOf l → x < 256 := by
  have key : ∀ (m : Nat) (l : List (List Nat)), l.length = m → (∀ r, r ∈ l → ∀ x, x ∈ r → x < 256) → ∀ x, x ∈ logOf l → x < 256 := by
    intro m
    induction m with
    | zero =>
      intro l hl _ x hx
      have : l = [] := List.eq_nil_of_length_eq_zero hl
      subst this
      simp [logOf] at hx
    | succ m ih =>
      intro l hl h x hx
      obtain ⟨l', r, rfl⟩ : ∃ l' r, l = l' ++ [r] := ⟨l.dropLast, l.getLast (by intro h0; rw [h0] at hl; simp at hl), (List.dropLast_concat_getLast _).symm⟩
      rw [logOf_snoc] at hx
      rcases List.mem_append.1 hx with hx | hx
      · exact ih l' (by simpa using hl) (fun r hr => h r (by simp [hr])) x hx
      · exact put_byte (h r (by simp)) x hx
  exact key l.length l rfl h
end Go.Proofs.YtnbknihaefkllaaGreatDoor.Fr
/- Plain mathematics of a log whose end is torn off, and of one whose bytes are turned behind a place. -/
namespace Go.Proofs.YtnbknihaefkllaaGreatDoor.Fr
open Ik Crc
theorem frg_torn {b : List Nat} {a k m : Nat} {d : List Nat} (h : b.drop a = (piece k d).take m) (hm : m < 7 + d.length) (hd : 7 + d.length ≤ left a) : ∃ c, frg b a = .stop c ∧ c ≠ 2 := by
  have hl := congrArg List.length h
  rw [List.length_drop, List.length_take, piece_length, Nat.min_eq_left (by omega)] at hl
  have hlp := left_pos a
  by_cases h0 : b.length ≤ a
  · exact ⟨0, by unfold frg; rw [if_pos h0], by decide⟩
  · by_cases h7 : b.length - a < 7
    · exact ⟨1, by unfold frg; rw [if_neg h0, if_pos h7], by decide⟩
    · have hn : num2 (b.drop a) = d.length := by
        have h1 := (piece_parts (k := k) (d := d) (q := []) (by omega)).1
        rw [List.append_nil] at h1
        rw [h, ← h1]
        unfold num2
        rw [List.drop_take, List.take_take, Nat.min_eq_left (by omega)]
      refine ⟨1, ?_, by decide⟩
      unfold frg
      rw [if_neg h0, if_neg h7, hn, if_neg (by omega), if_pos (by omega)]
theorem nxt_far {b : List Nat} {a : Nat} (h : 7 ≤ left a) : nxt b a = frg b a := by
  have h7 : ¬ left a < 7 := by omega
  unfold nxt
  rw [if_pos (by unfold clean padding; rw [if_neg h7]; simp)]
  unfold skip
  rw [if_neg h7]
theorem rd_tail_torn {b : List Nat} : ∀ (r : List Nat) (a done m : Nat) (now : List Nat) (out : List (List Nat)), a % 128 = 0 → b.drop a = (tail r).take m → m < (tail r).length →
    ∃ c, c ≠ 2 ∧ Rd b a true now done out (out, done, c) := by
  intro r
  induction hn : r.length using Nat.strongRecOn generalizing r with
  | _ n ih =>
    intro a done m now out ha hb hm
    subst hn
    have hla : left a = 128 := by unfold left; omega
    have fin : ∀ c, frg b a = .stop c → c ≠ 2 → ∃ c, c ≠ 2 ∧ Rd b a true now done out (out, done, c) := fun c h1 h2 =>
      ⟨_, by split <;> omega, Rd.stop ((nxt_far (by omega)).trans h1)⟩
    by_cases h : r.length ≤ 121
    · rw [tail_end h] at hb hm
      rw [piece_length] at hm
      obtain ⟨c, h1, h2⟩ := frg_torn hb hm (by omega)
      exact fin c h1 h2
    · rw [tail_more h] at hb hm
      have hl : (r.take 121).length = 121 := by rw [List.length_take]; omega
      have hpl : (piece 3 (r.take 121)).length = 128 := by rw [piece_length, hl]
      by_cases h128 : m < 128
      · rw [List.take_append_of_le_length (by omega)] at hb
        obtain ⟨c, h1, h2⟩ := frg_torn hb (by omega) (by omega)
        exact fin c h1 h2
      · rw [List.take_append, List.take_of_length_le (by omega), hpl] at hb
        rw [List.length_append, hpl] at hm
        obtain ⟨c, h1, h2⟩ := ih _ (by simp; omega) (r.drop 121) rfl (a + 128) done (m - 128) (now ++ r.take 121) out (by omega) (drop_more hb hpl) (by omega)
        refine ⟨c, h1, .more (nxt_piece hb (by omega) (by decide)) rfl (.inr rfl) ?_⟩
        rw [hl]
        exact h2
theorem pad_step2 {b : List Nat} {a n : Nat} {t : List Nat} {out : List (List Nat)} {R : List (List Nat) × Nat × Nat} (ha : a ≤ b.length) (hb : b.drop a = List.replicate (pad a) 0 ++ t) (h : Rd b (a + pad a) false [] n out R) : Rd b a false [] n out R := by
  by_cases h7 : left a < 7
  · have hpad : pad a = left a := by unfold pad; rw [if_pos h7]
    have hcl : clean b a := by
      unfold clean padding
      rw [if_pos h7, hb, hpad, List.take_left' (by simp)]
      intro c hc
      exact (List.mem_replicate.1 hc).2
    have hl := congrArg List.length hb
    rw [List.length_drop, List.length_append, List.length_replicate, hpad] at hl
    have hsk : skip b a = a + pad a := by unfold skip; rw [if_pos h7, hpad]; omega
    have hlf : 7 ≤ left (a + pad a) := by rw [hpad]; unfold left; omega
    have e : nxt b a = nxt b (a + pad a) := by
      rw [nxt_far hlf]
      unfold nxt
      rw [if_pos hcl, hsk]
    cases h with
    | stop h1 => exact .stop (e.trans h1)
    | bad h1 h2 => exact .bad (e.trans h1) h2
    | more h1 h2 h3 h4 => exact .more (e.trans h1) h2 h3 h4
    | full h1 h2 h3 h4 => exact .full (e.trans h1) h2 h3 h4
  · have hpad : pad a = 0 := by unfold pad; rw [if_neg h7]
    rw [hpad] at h
    exact h
theorem rd_put_torn {b : List Nat} {a done m : Nat} {r : List Nat} {out : List (List Nat)} (ha : a ≤ b.length) (hb : b.drop a = (put a r).take m) (hm : m < (put a r).length) : ∃ c, c ≠ 2 ∧ Rd b a false [] done out (out, done, c) := by
  have hl := congrArg List.length hb
  rw [List.length_drop, List.length_take, Nat.min_eq_left (by omega)] at hl
  by_cases hp : m ≤ pad a
  · have hz : ∀ x, x ∈ b.drop a → x = 0 := by
      rw [hb]
      unfold put
      rw [List.take_append_of_le_length (by rw [List.length_replicate]; exact hp)]
      exact fun x hx => (List.mem_replicate.1 (List.mem_of_mem_take hx)).2
    have hcl : clean b a := by
      unfold clean padding
      split
      · exact fun x hx => hz x (List.mem_of_mem_take hx)
      · simp
    have hsk : b.length ≤ skip b a := by
      unfold skip
      unfold pad at hp
      split
      · rename_i h7; rw [if_pos h7] at hp; omega
      · rename_i h7; rw [if_neg h7] at hp; omega
    refine ⟨0, by decide, ?_⟩
    have e : nxt b a = .stop 0 := by
      unfold nxt
      rw [if_pos hcl]
      unfold frg
      rw [if_pos hsk]
    exact Rd.stop e
  · have hb2 : b.drop a = List.replicate (pad a) 0 ++ (parts (cap a) r).take (m - pad a) := by
      rw [hb]
      unfold put
      rw [List.take_append, List.take_of_length_le (by rw [List.length_replicate]; omega), List.length_replicate]
    have hb3 := drop_more hb2 List.length_replicate
    have hn : 7 + cap a = left (a + pad a) := by
      unfold cap pad
      by_cases h7 : left a < 7
      · rw [if_pos h7, if_pos h7]; unfold left; omega
      · rw [if_neg h7, if_neg h7, Nat.add_zero]; omega
    have hpl : (put a r).length = pad a + (parts (cap a) r).length := by unfold put; simp
    have fin : ∀ c, frg b (a + pad a) = .stop c → c ≠ 2 → ∃ c, c ≠ 2 ∧ Rd b a false [] done out (out, done, c) := fun c h1 h2 =>
      ⟨c, h2, pad_step2 ha hb2 (by simpa using Rd.stop (b := b) (wi := false) (now := []) (done := done) (out := out) ((nxt_far (by omega)).trans h1))⟩
    generalize hq : m - pad a = q at *
    unfold parts at hb3 hpl
    split at hb3
    · rename_i h
      rw [if_pos h, piece_length] at hpl
      obtain ⟨c, h1, h2⟩ := frg_torn hb3 (by omega) (by omega)
      exact fin c h1 h2
    · rename_i h
      have hl2 : (r.take (cap a)).length = cap a := by rw [List.length_take]; omega
      have hp2 : (piece 2 (r.take (cap a))).length = 7 + cap a := by rw [piece_length, hl2]
      rw [if_neg h, List.length_append, hp2] at hpl
      by_cases hc : q < 7 + cap a
      · rw [List.take_append_of_le_length (by omega)] at hb3
        obtain ⟨c, h1, h2⟩ := frg_torn hb3 (by omega) (by omega)
        exact fin c h1 h2
      · rw [List.take_append, List.take_of_length_le (by omega), hp2] at hb3
        obtain ⟨c, h1, h2⟩ := rd_tail_torn (r.drop (cap a)) (a + pad a + (7 + cap a)) done (q - (7 + cap a)) ([] ++ r.take (cap a)) out (by unfold left at hn; omega) (drop_more hb3 hp2) (by omega)
        refine ⟨c, h1, pad_step2 ha hb2 (.more (nxt_piece hb3 (by omega) (by decide)) rfl (.inl rfl) ?_)⟩
        rw [hl2]
        exact h2
/-- Where the records of a log end. -/
theorem logOf_take (l : List (List Nat)) : ∀ (j : Nat), ∃ q, logOf l = logOf (l.take j) ++ q := by
  intro j
  have key : ∀ (l' : List (List Nat)) (b : List Nat), ∃ q, l'.foldl (fun b r => b ++ put b.length r) b = b ++ q := by
    intro l'
    induction l' with
    | nil => exact fun b => ⟨[], by simp⟩
    | cons r l' ih =>
      intro b
      obtain ⟨q, hq⟩ := ih (b ++ put b.length r)
      exact ⟨put b.length r ++ q, by rw [List.foldl_cons, hq, List.append_assoc]⟩
  obtain ⟨q, hq⟩ := key (l.drop j) (logOf (l.take j))
  refine ⟨q, ?_⟩
  rw [← hq]
  unfold logOf
  rw [← List.foldl_append, List.take_append_drop]
theorem logOf_at {l : List (List Nat)} {j : Nat} {r : List Nat} (hr : l[j]? = some r) : ∃ q, logOf l = logOf (l.take j) ++ (put (logOf (l.take j)).length r ++ q) := by
  obtain ⟨q, hq⟩ := logOf_take l (j + 1)
  refine ⟨q, ?_⟩
  rw [hq, List.take_add_one, hr, Option.toList_some, logOf_snoc, List.append_assoc]
/-- A log that is torn off within its record j: the records ahead of it are read, and the end is no damage. -/
theorem rd_log_torn {l : List (List Nat)} {j to : Nat} {r : List Nat} (hr : l[j]? = some r) (h1 : (logOf (l.take j)).length ≤ to) (h2 : to < (logOf (l.take (j + 1))).length) :
    ∃ n c, c ≠ 2 ∧ Rd ((logOf l).take to) 0 false [] 0 [] (l.take j, n, c) := by
  obtain ⟨q, hq⟩ := logOf_at hr
  rw [List.take_add_one, hr, Option.toList_some, logOf_snoc, List.length_append] at h2
  have e : (logOf l).take to = logOf (l.take j) ++ (put (logOf (l.take j)).length r).take (to - (logOf (l.take j)).length) := by
    rw [hq, List.take_append, List.take_of_length_le h1, List.take_append_of_le_length (by omega)]
  rw [e]
  obtain ⟨c, h3, h4⟩ := rd_put_torn (b := logOf (l.take j) ++ (put (logOf (l.take j)).length r).take (to - (logOf (l.take j)).length)) (a := (logOf (l.take j)).length) (done := (logOf (l.take j)).length) (out := l.take j)
    (by rw [List.length_append]; omega) (by rw [List.drop_left' rfl]) (by omega)
  exact ⟨_, c, h3, rd_log _ _ _ h4⟩
/-- A log that is as it was up to a place within its record j: the records ahead of it are read first. -/
theorem rd_log_same {l : List (List Nat)} {j : Nat} {b : List Nat} {R : List (List Nat) × Nat × Nat} (h1 : logOf (l.take j) <+: b) (hR : Rd b 0 false [] 0 [] R) : l.take j <+: R.1 := by
  obtain ⟨q, rfl⟩ := h1
  obtain ⟨R', hR'⟩ := Rd.total (b := logOf (l.take j) ++ q) _ (logOf (l.take j)).length (logOf (l.take j)).length false [] (l.take j) (by rw [List.length_append]; omega) (Nat.le_refl _)
  have := hR.det (rd_log _ _ _ hR')
  subst this
  exact hR'.onto
end Go.Proofs.YtnbknihaefkllaaGreatDoor.Fr
/- Package disk: what a disk holds, and how it lies in memory. -/
namespace Go.Proofs.YtnbknihaefkllaaGreatDoor.Dk
set_option linter.unusedVariables false
set_option linter.unusedSimpArgs false
open Go.RowKit Go.Maps Lift Ik

/-- A file, as it is told. -/
structure FM where
  nm : ByteArray
  bs : List Nat
  syn : Nat
/-- A file, and where it lies. -/
structure Fi where
  nm : ByteArray
  blk : Nat
  v : Value
  bs : List Nat
  syn : Nat
def Fi.m (f : Fi) : FM := ⟨f.nm, f.bs, f.syn⟩
/-- A disk, as it is told. -/
structure MS where
  room : Nat
  fs : List FM
  armed : List Int
  failed : Nat
def used (l : List FM) : Nat := (l.map fun f => f.bs.length).sum
abbrev kl (s : ByteArray) : Lit := .string s.data.toList
abbrev dat (b : Nat) : DataW Unit := .lit (.int .i64 (b : Int))
def ent (f : Fi) : Lit × DataW Unit := (kl f.nm, dat f.blk)
/-- How a pointer to a file reads. -/
def ptrR : Value → Option (DataW Unit × List MemPlace)
  | .pointer none => some (.nil, [])
  | .pointer (some ⟨b, 0, none⟩) => some (dat b, [])
  | _ => none
theorem ptrR_nil {v : Value} {ps : List MemPlace} (h : ptrR v = some (.nil, ps)) : v = .pointer none := by
  unfold ptrR at h
  split at h
  · rfl
  · simp [dat] at h
  · cases h
theorem ptrR_some {v : Value} {b : Nat} {ps : List MemPlace} (h : ptrR v = some (dat b, ps)) : v = .pointer (some ⟨b, 0, none⟩) := by
  unfold ptrR at h
  split at h
  · simp [dat] at h
  · rename_i b0
    simp [dat] at h
    obtain ⟨h1, _⟩ := h
    obtain rfl : b0 = b := by omega
    rfl
  · cases h
abbrev Ty.disk : TypeId := 54
abbrev Ty.file : TypeId := 61
abbrev Ty.map : TypeId := 52
theorem law : Keyed Tryz.prog 9 := string_keyed Tryz.underlying9
theorem zeroE (w : World) : (zeroValue 59).run Tryz.prog w = .ok (.pointer none) w := by kernel_rfl

/-- A file in memory, in the blocks S. -/
structure Fi.ok (w : World) (S : Nat → Prop) (f : Fi) : Prop where
  box : Box w f.blk Ty.file [f.v, .int .i64 (f.syn : Int)]
  own : w.ownsRow 0 5 1 f.v f.bs.length (f.bs.map vb)
  sb : S f.blk
  sv : ∀ k, f.v.ownBlock = some k → S k
  syn : f.syn ≤ f.bs.length
  len : f.bs.length ≤ 16777216
  byte : ∀ x, x ∈ f.bs → x < 256
  nm : f.nm.size ≤ 40
/-- Two files share no memory. -/
def sep (f g : Fi) : Prop := f.blk ≠ g.blk ∧ f.nm ≠ g.nm ∧ ∀ k, f.v.ownBlock = some k → g.v.ownBlock ≠ some k
theorem sep_symm {f g : Fi} (h : sep f g) : sep g f := ⟨fun e => h.1 e.symm, fun e => h.2.1 e.symm, fun k hk hf => h.2.2 k hf hk⟩
/-- The map of the files, and the files. -/
structure Files (w : World) (S : Nat → Prop) (M : Option Nat) (fs : List Fi) : Prop where
  map : (M = none ∧ fs = []) ∨ ∃ b, M = some b ∧ S b ∧ w.ownsMap Tryz.prog 9 ptrR b fs.length (.map (fs.map ent))
  ok : ∀ f, f ∈ fs → f.ok w S
  sep : fs.Pairwise sep
/-- The armed failures. -/
def Armed (w : World) (S : Nat → Prop) (A : Option Addr) (l : List Int) : Prop := LiesP w (fun k => S k ∧ ∃ cs fr, w.heap[k]? = some (.cells cs 3 fr)) A (l.map (Value.int .i64))
/-- A disk in memory: its struct in block g, all of it in the blocks S. -/
structure Lay (w : World) (g : Nat) (S : Nat → Prop) (m : MS) (fs : List Fi) (M : Option Nat) (A : Option Addr) (c : Nat) : Prop where
  box : Box w g Ty.disk [.int .i64 (m.room : Int), .int .i64 (used m.fs : Int), .map M, .slice A m.armed.length c, .int .i64 (m.failed : Int)]
  sg : S g
  files : Files w S M fs
  told : m.fs = fs.map Fi.m
  armed : Armed w S A m.armed
  cap : m.armed.length ≤ c
  capm : c ≤ maxLen
  wf : ∀ x, x ∈ m.armed → (Lit.int .i64 x).wf = true
  lt : ∀ k, S k → k < w.heap.size
  room : m.room ≤ 9223372036854775807
  fits : used m.fs ≤ m.room
  many : m.fs.length ≤ 1000
def At (w : World) (g : Nat) (S : Nat → Prop) (m : MS) : Prop := ∃ fs M A c, Lay w g S m fs M A c

section
variable {w w' : World} {g : Nat} {S S' T : Nat → Prop} {m : MS} {fs : List Fi} {M : Option Nat} {A : Option Addr} {c : Nat}
/-- T are blocks of which no file and no map lies. -/
def Off (w : World) (S T : Nat → Prop) : Prop := ∀ k, T k → k < w.heap.size → ¬ S k ∨ ∃ us fr, w.heap[k]? = some (.cells us Ty.disk fr)
theorem off_apart (h : ∀ k, S k → ¬ T k) : Off w S T := fun k hk _ => .inl fun hs => h k hs hk
theorem off_box {us : List Value} (hb : Box w g Ty.disk us) : Off w S (· = g) := fun k hk _ => by subst hk; exact .inr ⟨_, _, hb⟩
theorem Fi.ok.keep {f : Fi} (h : f.ok w S) (hk : Keep T w w') (hT : Off w S T) (hS : ∀ k, S k → S' k) : f.ok w' S' := by
  have n1 : ¬ T f.blk := fun ht => (hT _ ht h.box.lt).elim (fun h1 => h1 h.sb) fun ⟨us, fr, h1⟩ => by
    have h2 := h.box
    unfold Box at h2
    rw [h1] at h2
    injection h2 with h2
    injection h2 with _ h2 _
    exact absurd h2 (by decide)
  have n2 : ∀ k, f.v.ownBlock = some k → ¬ T k := fun k hv ht => by
    rcases h.own.2 with ⟨h0, _⟩ | ⟨b, cap, cur, hv', _, hh, _⟩
    · rw [h0] at hv; simp [Value.ownBlock] at hv
    · rw [hv'] at hv
      simp [Value.ownBlock] at hv
      subst hv
      refine (hT _ ht (Array.getElem?_eq_some_iff.1 hh).1).elim (fun h1 => h1 (h.sv _ (by rw [hv']; simp [Value.ownBlock]))) fun ⟨us, fr, h1⟩ => ?_
      rw [h1] at hh
      injection hh with hh
      injection hh with _ hh _
      exact absurd hh (by decide)
  refine ⟨h.box.keep hk n1, ?_, hS _ h.sb, fun k hv => hS _ (h.sv k hv), h.syn, h.len, h.byte, h.nm⟩
  refine ⟨h.own.1, ?_⟩
  rcases h.own.2 with h0 | ⟨b, cap, cur, hv, hB, hh, r⟩
  · exact .inl h0
  · exact .inr ⟨b, cap, cur, hv, hB, (hk.block b (Array.getElem?_eq_some_iff.1 hh).1 (n2 b (by rw [hv]; simp [Value.ownBlock]))).trans hh, r⟩
theorem map_keep {b n : Nat} {D : DataW Unit} (h : w.ownsMap Tryz.prog 9 ptrR b n D) (hk : Keep T w w') (hT : ¬ T b) : w'.ownsMap Tryz.prog 9 ptrR b n D := by
  have hlt := h.lt
  obtain ⟨es, clock, hb, r⟩ := h
  exact ⟨es, clock, (hk.block b hlt hT).trans hb, r⟩
theorem map_not {b n : Nat} {D : DataW Unit} (h : w.ownsMap Tryz.prog 9 ptrR b n D) (hT : Off w S T) (hs : S b) : ¬ T b := fun ht => by
  have hlt := h.lt
  obtain ⟨es, clock, hb, _⟩ := h
  refine (hT b ht hlt).elim (fun h1 => h1 hs) fun ⟨us, fr, h1⟩ => ?_
  rw [hb] at h1
  cases h1
theorem Files.keep (h : Files w S M fs) (hk : Keep T w w') (hT : Off w S T) (hS : ∀ k, S k → S' k) : Files w' S' M fs := by
  refine ⟨?_, fun f hf => (h.ok f hf).keep hk hT hS, h.sep⟩
  rcases h.map with h0 | ⟨b, hM, hs, hm⟩
  · exact .inl h0
  · exact .inr ⟨b, hM, hS b hs, map_keep hm hk (map_not hm hT hs)⟩
theorem Armed.keep {l : List Int} (h : Armed w S A l) (hk : Keep T w w') (hT : ∀ k, T k → S k → ¬ ∃ cs fr, w.heap[k]? = some (.cells cs 3 fr)) (hS : ∀ k, S k → S' k) : Armed w' S' A l := by
  refine LiesP.later h (fun k hk1 => ?_) fun k hk1 => ?_
  · obtain ⟨hs, cs, fr, hh⟩ := hk1
    exact hk.block k (Array.getElem?_eq_some_iff.1 hh).1 fun ht => hT k ht hs ⟨cs, fr, hh⟩
  · obtain ⟨hs, cs, fr, hh⟩ := hk1
    exact ⟨hS k hs, cs, fr, (hk.block k (Array.getElem?_eq_some_iff.1 hh).1 fun ht => hT k ht hs ⟨cs, fr, hh⟩).trans hh⟩
/-- What happens elsewhere leaves a disk as it is. -/
theorem Lay.keep (h : Lay w g S m fs M A c) (hk : Keep T w w') (hT : ∀ k, S k → ¬ T k) : Lay w' g S m fs M A c :=
  ⟨h.box.keep hk (hT g h.sg), h.sg, h.files.keep hk (off_apart hT) fun _ => id, h.told, h.armed.keep hk (fun k ht hs => absurd ht (hT k hs)) fun _ => id, h.cap, h.capm, h.wf,
    fun k hs => Nat.lt_of_lt_of_le (h.lt k hs) hk.size, h.room, h.fits, h.many⟩
theorem At.keep (h : At w g S m) (hk : Keep T w w') (hT : ∀ k, S k → ¬ T k) : At w' g S m := by
  obtain ⟨fs, M, A, c, h⟩ := h
  exact ⟨fs, M, A, c, h.keep hk hT⟩
theorem At.below (h : At w g S m) (hk : Below w.heap.size w w') : At w' g S m :=
  h.keep (T := fun _ => False) (below_keep hk) fun _ _ => id
theorem At.lt (h : At w g S m) (k : Nat) (hk : S k) : k < w.heap.size := by
  obtain ⟨fs, M, A, c, h⟩ := h
  exact h.lt k hk
/-- The blocks S, and the new ones. -/
def Gr (S : Nat → Prop) (w w' : World) (k : Nat) : Prop := S k ∨ (w.heap.size ≤ k ∧ k < w'.heap.size)
theorem Lay.facts (h : Lay w g S m fs M A c) : w.cell? ⟨g, 0, none⟩ = some (.int .i64 (m.room : Int)) ∧ w.cell? ⟨g, 1, none⟩ = some (.int .i64 (used m.fs : Int)) ∧ w.cell? ⟨g, 2, none⟩ = some (.map M) ∧
    w.cell? ⟨g, 3, none⟩ = some (.slice A m.armed.length c) ∧ w.cell? ⟨g, 4, none⟩ = some (.int .i64 (m.failed : Int)) ∧
    w.frozen? ⟨g, 1, none⟩ = false ∧ w.frozen? ⟨g, 2, none⟩ = false ∧ w.frozen? ⟨g, 3, none⟩ = false ∧ w.frozen? ⟨g, 4, none⟩ = false :=
  ⟨h.box.cell 0, h.box.cell 1, h.box.cell 2, h.box.cell 3, h.box.cell 4, h.box.free 1, h.box.free 2, h.box.free 3, h.box.free 4⟩
end
end Go.Proofs.YtnbknihaefkllaaGreatDoor.Dk
/- Which bytes and which names the disk takes. -/
namespace Go.Proofs.YtnbknihaefkllaaGreatDoor.Dk
set_option linter.unusedVariables false
set_option linter.unusedSimpArgs false
open Go.RowKit Go.Maps Lift Ik

def inN (c : Nat) : Bool := (decide (97 ≤ c) && decide (c ≤ 122)) || (decide (65 ≤ c) && decide (c ≤ 90)) || (decide (48 ≤ c) && decide (c ≤ 57)) || decide (c = 46) || decide (c = 45)

set_option maxHeartbeats 1000000 in
theorem inNames_any (c : Nat) (h : c < 256) (w : World) : Calls Tryz.prog 71 #[.int .u8 (c : Int)] w fun e w' => e = .returned (.bool (inN c)) ∧ w = w' := by
  rcases (show (0 ≤ c ∧ c ≤ 44) ∨ c = 45 ∨ c = 46 ∨ c = 47 ∨ (48 ≤ c ∧ c ≤ 57) ∨ (58 ≤ c ∧ c ≤ 64) ∨ (65 ≤ c ∧ c ≤ 90) ∨ (91 ≤ c ∧ c ≤ 96) ∨ (97 ≤ c ∧ c ≤ 122) ∨ (123 ≤ c ∧ c ≤ 255) by omega) with ⟨k1, k2⟩ | rfl | rfl | rfl | ⟨k1, k2⟩ | ⟨k1, k2⟩ | ⟨k1, k2⟩ | ⟨k1, k2⟩ | ⟨k1, k2⟩ | ⟨k1, k2⟩
  · have hr : inN c = false := by simp [inN]; omega
    have da : decide ((97 : Int) ≤ (c : Int)) = false := by simp; omega
    have db : decide ((c : Int) ≤ 122) = true := by simp; omega
    have dd : decide ((65 : Int) ≤ (c : Int)) = false := by simp; omega
    have de : decide ((c : Int) ≤ 90) = true := by simp; omega
    have df : decide ((48 : Int) ≤ (c : Int)) = false := by simp; omega
    have dg : decide ((c : Int) ≤ 57) = true := by simp; omega
    have e1 : ((c : Int) == 46) = false := by rw [beq_eq_false_iff_ne]; omega
    have e2 : ((c : Int) == 45) = false := by rw [beq_eq_false_iff_ne]; omega
    rw [hr]
    clear k1 k2 hr
    go_enter Tryz.func71, Tryz.ntmps71
    go_wp2_with fail
    go_ret
    exact ⟨rfl, rfl⟩
  · rw [show inN 45 = true by decide]
    go_enter Tryz.func71, Tryz.ntmps71
    go_wp2_with fail
    go_ret
    exact ⟨rfl, rfl⟩
  · rw [show inN 46 = true by decide]
    go_enter Tryz.func71, Tryz.ntmps71
    go_wp2_with fail
    go_ret
    exact ⟨rfl, rfl⟩
  · rw [show inN 47 = false by decide]
    go_enter Tryz.func71, Tryz.ntmps71
    go_wp2_with fail
    go_ret
    exact ⟨rfl, rfl⟩
  · have hr : inN c = true := by simp [inN]; omega
    have da : decide ((97 : Int) ≤ (c : Int)) = false := by simp; omega
    have db : decide ((c : Int) ≤ 122) = true := by simp; omega
    have dd : decide ((65 : Int) ≤ (c : Int)) = false := by simp; omega
    have de : decide ((c : Int) ≤ 90) = true := by simp; omega
    have df : decide ((48 : Int) ≤ (c : Int)) = true := by simp; omega
    have dg : decide ((c : Int) ≤ 57) = true := by simp; omega
    have e1 : ((c : Int) == 46) = false := by rw [beq_eq_false_iff_ne]; omega
    have e2 : ((c : Int) == 45) = false := by rw [beq_eq_false_iff_ne]; omega
    rw [hr]
    clear k1 k2 hr
    go_enter Tryz.func71, Tryz.ntmps71
    go_wp2_with fail
    go_ret
    exact ⟨rfl, rfl⟩
  · have hr : inN c = false := by simp [inN]; omega
    have da : decide ((97 : Int) ≤ (c : Int)) = false := by simp; omega
    have db : decide ((c : Int) ≤ 122) = true := by simp; omega
    have dd : decide ((65 : Int) ≤ (c : Int)) = false := by simp; omega
    have de : decide ((c : Int) ≤ 90) = true := by simp; omega
    have df : decide ((48 : Int) ≤ (c : Int)) = true := by simp; omega
    have dg : decide ((c : Int) ≤ 57) = false := by simp; omega
    have e1 : ((c : Int) == 46) = false := by rw [beq_eq_false_iff_ne]; omega
    have e2 : ((c : Int) == 45) = false := by rw [beq_eq_false_iff_ne]; omega
    rw [hr]
    clear k1 k2 hr
    go_enter Tryz.func71, Tryz.ntmps71
    go_wp2_with fail
    go_ret
    exact ⟨rfl, rfl⟩
  · have hr : inN c = true := by simp [inN]; omega
    have da : decide ((97 : Int) ≤ (c : Int)) = false := by simp; omega
    have db : decide ((c : Int) ≤ 122) = true := by simp; omega
    have dd : decide ((65 : Int) ≤ (c : Int)) = true := by simp; omega
    have de : decide ((c : Int) ≤ 90) = true := by simp; omega
    have df : decide ((48 : Int) ≤ (c : Int)) = true := by simp; omega
    have dg : decide ((c : Int) ≤ 57) = false := by simp; omega
    have e1 : ((c : Int) == 46) = false := by rw [beq_eq_false_iff_ne]; omega
    have e2 : ((c : Int) == 45) = false := by rw [beq_eq_false_iff_ne]; omega
    rw [hr]
    clear k1 k2 hr
    go_enter Tryz.func71, Tryz.ntmps71
    go_wp2_with fail
    go_ret
    exact ⟨rfl, rfl⟩
  · have hr : inN c = false := by simp [inN]; omega
    have da : decide ((97 : Int) ≤ (c : Int)) = false := by simp; omega
    have db : decide ((c : Int) ≤ 122) = true := by simp; omega
    have dd : decide ((65 : Int) ≤ (c : Int)) = true := by simp; omega
    have de : decide ((c : Int) ≤ 90) = false := by simp; omega
    have df : decide ((48 : Int) ≤ (c : Int)) = true := by simp; omega
    have dg : decide ((c : Int) ≤ 57) = false := by simp; omega
    have e1 : ((c : Int) == 46) = false := by rw [beq_eq_false_iff_ne]; omega
    have e2 : ((c : Int) == 45) = false := by rw [beq_eq_false_iff_ne]; omega
    rw [hr]
    clear k1 k2 hr
    go_enter Tryz.func71, Tryz.ntmps71
    go_wp2_with fail
    go_ret
    exact ⟨rfl, rfl⟩
  · have hr : inN c = true := by simp [inN]; omega
    have da : decide ((97 : Int) ≤ (c : Int)) = true := by simp; omega
    have db : decide ((c : Int) ≤ 122) = true := by simp; omega
    have dd : decide ((65 : Int) ≤ (c : Int)) = true := by simp; omega
    have de : decide ((c : Int) ≤ 90) = false := by simp; omega
    have df : decide ((48 : Int) ≤ (c : Int)) = true := by simp; omega
    have dg : decide ((c : Int) ≤ 57) = false := by simp; omega
    have e1 : ((c : Int) == 46) = false := by rw [beq_eq_false_iff_ne]; omega
    have e2 : ((c : Int) == 45) = false := by rw [beq_eq_false_iff_ne]; omega
    rw [hr]
    clear k1 k2 hr
    go_enter Tryz.func71, Tryz.ntmps71
    go_wp2_with fail
    go_ret
    exact ⟨rfl, rfl⟩
  · have hr : inN c = false := by simp [inN]; omega
    have da : decide ((97 : Int) ≤ (c : Int)) = true := by simp; omega
    have db : decide ((c : Int) ≤ 122) = false := by simp; omega
    have dd : decide ((65 : Int) ≤ (c : Int)) = true := by simp; omega
    have de : decide ((c : Int) ≤ 90) = false := by simp; omega
    have df : decide ((48 : Int) ≤ (c : Int)) = true := by simp; omega
    have dg : decide ((c : Int) ≤ 57) = false := by simp; omega
    have e1 : ((c : Int) == 46) = false := by rw [beq_eq_false_iff_ne]; omega
    have e2 : ((c : Int) == 45) = false := by rw [beq_eq_false_iff_ne]; omega
    rw [hr]
    clear k1 k2 hr
    go_enter Tryz.func71, Tryz.ntmps71
    go_wp2_with fail
    go_ret
    exact ⟨rfl, rfl⟩

/-- A file name. -/
def nmB (s : ByteArray) : Bool := decide (1 ≤ s.size) && decide (s.size ≤ 40) && s.data.toList.all fun b => inN b.toNat
theorem str_len (s : ByteArray) : s.data.toList.length = s.size := Array.length_toList
theorem conv_str (s : ByteArray) (w : World) : ∃ (ad : Addr) (c : Nat) (w' : World), Sem.run Tryz.prog (convert 9 24 (.string s)) w = .ok (.slice (some ad) s.size c) w' ∧ Below w.heap.size w w' ∧
    ∀ j b, s.data.toList[j]? = some b → w'.cell? (ad.add j) = some (.int .u8 (b.toNat : Int)) := by
  refine ⟨⟨w.heap.size, 0, none⟩, _, _, Lib.run_convert_string_bytes w _ _ 5 s Tryz.underlying9 Tryz.underlying24 Tryz.underlying5, ⟨rfl, rfl, rfl, by rw [Lib.bytesWorld_size]; omega, fun k hk => Lib.bytesWorld_at_old _ _ _ _ hk⟩, fun j b hj => ?_⟩
  have e : (⟨w.heap.size, 0, none⟩ : Addr).add j = ⟨w.heap.size, j, none⟩ := by unfold Addr.add; split <;> simp_all
  have hlt : j < s.size := by
    have := (List.getElem?_eq_some_iff.1 hj).1
    rwa [str_len] at this
  rw [e, Lib.bytesWorld_cell _ _ _ _ hlt, List.getD_eq_getElem?_getD, hj]
  rfl

set_option maxRecDepth 100000 in
set_option maxHeartbeats 400000 in
theorem valid_any (s : ByteArray) (w : World) : Calls Tryz.prog 47 #[.string s] w fun e w' => e = .returned (.bool (nmB s)) ∧ Below w.heap.size w w' := by
  by_cases k1 : s.size < 1
  · have hr : nmB s = false := by simp [nmB]; omega
    have d1 : decide ((s.size : Int) < 1) = true := by simp; omega
    rw [hr]
    clear k1 hr
    go_enter Tryz.func47, Tryz.ntmps47
    go_wp2_with fail
    go_ret
    exact ⟨rfl, Below.refl _ _⟩
  · have d1 : decide ((s.size : Int) < 1) = false := by simp; omega
    by_cases k2 : 40 < s.size
    · have hr : nmB s = false := by simp [nmB]; omega
      have d2 : decide ((40 : Int) < (s.size : Int)) = true := by simp; omega
      rw [hr]
      clear k1 k2 hr
      go_enter Tryz.func47, Tryz.ntmps47
      go_wp2_with fail
      go_ret
      exact ⟨rfl, Below.refl _ _⟩
    · have d2 : decide ((40 : Int) < (s.size : Int)) = false := by simp; omega
      have hr : nmB s = s.data.toList.all fun b => inN b.toNat := by unfold nmB; rw [decide_eq_true (by omega), decide_eq_true (by omega)]; rfl
      obtain ⟨ad, c, w1, hcv, hb1, hcell⟩ := conv_str s w
      have hn := str_len s
      have HR := Lib.hid hr
      have HB := Lib.hid hb1
      have HC := Lib.hid hcell
      clear k1 hr hb1 hcell
      go_enter Tryz.func47, Tryz.ntmps47
      go_wp2_with fail
      go_loop [16] (fun i => ∃ j : Nat, j ≤ s.size ∧ i = .int .i64 j ∧ Hid (nmB s = (s.data.toList.drop j).all fun b => inN b.toNat)) (fun i => s.size + 1 - (intOf i).toNat)
      case atStart => exact ⟨0, by omega, rfl, Lib.hid HR.out⟩
      case round =>
        obtain ⟨j, hj, rfl, hb⟩ := hrel
        by_cases hlt : j < s.size
        · obtain ⟨b, hd⟩ : ∃ b, s.data.toList[j]? = some b := ⟨_, List.getElem?_eq_getElem (by omega)⟩
          have h1 := HC.out j b hd
          have hb8 : b.toNat < 256 := b.toNat_lt
          have HD := Lib.hid (Ik.drop_cons hd)
          clear hd
          obtain ⟨x, hx⟩ : ∃ x, x = b.toNat := ⟨_, rfl⟩
          rw [← hx] at h1 hb8
          have HX := Lib.hid hx
          clear hx
          cases hi : inN x
          · have e : Hid (nmB s = false) := Lib.hid (by rw [hb.out, HD.out, List.all_cons, ← HX.out, hi]; rfl)
            go_wp2_with fail
            refine (inNames_any x hb8 _).mono ?_
            rintro e w' ⟨rfl, rfl⟩
            rw [hi]
            clear hi
            go_wp2_with fail
            go_ret
            exact ⟨by rw [e.out]; rfl, HB.out⟩
          · have e : Hid (nmB s = (s.data.toList.drop (j + 1)).all fun b => inN b.toNat) := Lib.hid (by rw [hb.out, HD.out, List.all_cons, ← HX.out, hi]; rfl)
            go_wp2_with fail
            refine (inNames_any x hb8 _).mono ?_
            rintro e w' ⟨rfl, rfl⟩
            rw [hi]
            clear hi
            go_wp2_with fail
            go_round
            case rel => exact ⟨j + 1, by omega, by go_num, e⟩
            case measure => simp [intOf]; omega
        · obtain rfl : j = s.size := by omega
          have e : Hid (nmB s = true) := Lib.hid (by rw [hb.out, List.drop_of_length_le (by omega)]; rfl)
          go_wp2_with fail
          go_ret
          exact ⟨by rw [e.out]; rfl, HB.out⟩
end Go.Proofs.YtnbknihaefkllaaGreatDoor.Dk
/- The armed failures; what every call with names does first; where a file lies. -/
namespace Go.Proofs.YtnbknihaefkllaaGreatDoor.Dk
set_option linter.unusedVariables false
set_option linter.unusedSimpArgs false
open Go.RowKit Go.Maps Lift Ik

/-- Does this call fail? And the disk then. -/
def hit (m : MS) : Bool × MS :=
  match m.armed with
  | [] => (false, m)
  | x :: r => if x = 0 then (false, { m with armed := r }) else (true, { m with armed := r, failed := m.failed + 1 })
theorem hit_nil {m : MS} (h : m.armed = []) : hit m = (false, m) := by unfold hit; rw [h]
theorem hit_zero {m : MS} {r : List Int} (h : m.armed = 0 :: r) : hit m = (false, { m with armed := r }) := by unfold hit; rw [h]; simp
theorem hit_more {m : MS} {x : Int} {r : List Int} (h : m.armed = x :: r) (hx : x ≠ 0) : hit m = (true, { m with armed := r, failed := m.failed + 1 }) := by unfold hit; rw [h]; simp [hx]
theorem hit_fs (m : MS) : (hit m).2.fs = m.fs ∧ (hit m).2.room = m.room := by unfold hit; split <;> (try split) <;> simp
theorem hit_failed (m : MS) : (hit m).2.failed ≤ m.failed + 1 := by unfold hit; split <;> (try split) <;> simp

section
variable {w w' : World} {g : Nat} {S S' T : Nat → Prop} {m : MS} {fs : List Fi} {M : Option Nat} {A : Option Addr} {c : Nat}
/-- The struct's last two cells are written. -/
theorem Lay.turn (h : Lay w g S m fs M A c) (hk : Keep (· = g) w w') (l : List Int) (n c' : Nat) (A' : Option Addr)
    (hb : Box w' g Ty.disk [.int .i64 (m.room : Int), .int .i64 (used m.fs : Int), .map M, .slice A' l.length c', .int .i64 (n : Int)]) (ha : Armed w' S A' l) (hc : l.length ≤ c') (hm : c' ≤ maxLen) (hw : ∀ x, x ∈ l → (Lit.int .i64 x).wf = true) :
    Lay w' g S { m with armed := l, failed := n } fs M A' c' :=
  ⟨hb, h.sg, h.files.keep hk (off_box h.box) fun _ => id, h.told, ha, hc, hm, hw, fun k hs => Nat.lt_of_lt_of_le (h.lt k hs) hk.size, h.room, h.fits, h.many⟩
theorem Lay.drew (h : Lay w g S m fs M A c) (n : Nat) : Lay (w.drewN n) g S m fs M A c := h.keep (T := fun _ => False) (below_keep (Joins.below_draws w.heap.size w n)) fun _ _ => id
end
theorem tail_at (A : Option Addr) (n c : Nat) (h : 1 ≤ n) (hc : n ≤ c) (hm : c ≤ maxLen) :
    ∃ A', (1 < n → A' = A.map (·.add 1)) ∧ ∀ W : World, Sem.run Tryz.prog (Instr.slice 23 (.slice A n c) (some (.int .i64 1)) none none) W = .ok (.slice A' (n - 1) (c - 1)) W := by
  unfold maxLen at hm
  by_cases hcp : c = 1
  · refine ⟨A, fun h0 => by omega, fun W => ?_⟩
    obtain rfl : n = 1 := by omega
    subst hcp
    go_simp
  · refine ⟨A.map (·.add 1), fun _ => rfl, fun W => ?_⟩
    go_simp
    intro h1
    omega

set_option maxRecDepth 100000 in
set_option maxHeartbeats 400000 in
theorem fails_any (g : Nat) (S : Nat → Prop) (m : MS) (fs : List Fi) (M : Option Nat) (A : Option Addr) (c : Nat) (w : World) (h : Lay w g S m fs M A c) (hf : m.failed ≤ 1000000) :
    Calls Tryz.prog (46) #[.pointer (some ⟨g, 0, none⟩)] w fun e w' => ∃ A' c', e = .returned (.bool (hit m).1) ∧ Keep (· = g) w w' ∧ Lay w' g S (hit m).2 fs M A' c' := by
  obtain ⟨c0, c1, c2, c3, c4, f1, f2, f3, f4⟩ := h.facts
  have hcap := h.cap
  have hcm := h.capm
  unfold maxLen at hcm
  have H := Lib.hid h
  rcases hr : m.armed with _ | ⟨x, r⟩
  · rw [hr] at c3
    have E := Lib.hid (hit_nil hr)
    clear h hr hcap
    rw [List.length_nil] at c3
    go_enter Tryz.func46, Tryz.ntmps46
    go_wp2_with fail
    go_ret
    rw [E.out]
    exact ⟨A, c, rfl, Keep.refl _ _, H.out⟩
  · obtain ⟨ad, rfl, hin, hcell⟩ : ∃ ad, A = some ad ∧ (S ad.block ∧ ∃ cs fr, w.heap[ad.block]? = some (.cells cs 3 fr)) ∧ ∀ j u, ((x :: r).map (Value.int .i64))[j]? = some u → w.cell? (ad.add j) = some u := by
      have ha := h.armed
      rw [hr] at ha
      rcases ha with h0 | h0
      · simp at h0
      · exact h0
    rw [hr] at c3 hcap
    rw [List.length_cons] at c3 hcap
    obtain ⟨A', hA', hs⟩ := tail_at (some ad) (r.length + 1) c (by omega) hcap h.capm
    rw [show r.length + 1 - 1 = r.length from rfl] at hs
    have x0 : w.cell? ad = some (.int .i64 x) := hcell 0 _ rfl
    -- the armed ones that are left
    have harm : ∀ w', Keep (· = g) w w' → Armed w' S A' r := by
      intro w' hk
      obtain ⟨hS, cs, fr, hh⟩ := hin
      have hne : ad.block ≠ g := fun e => by
        have hb := h.box
        unfold Box at hb
        rw [e, hb] at hh
        injection hh with hh
        injection hh with _ hh _
        exact absurd hh (by decide)
      have hblk : w'.heap[ad.block]? = w.heap[ad.block]? := hk.block _ (Array.getElem?_eq_some_iff.1 hh).1 hne
      by_cases h1 : r = []
      · subst h1; exact .inl rfl
      · have hl : 1 < r.length + 1 := by have := List.length_pos_iff.2 h1; omega
        refine .inr ⟨ad.add 1, by rw [hA' hl]; rfl, ⟨by rw [add_block]; exact hS, cs, fr, by rw [add_block]; exact hblk.trans hh⟩, fun j u hj => ?_⟩
        rw [add_add]
        exact (World.cell?_of_block (w := w) (by rw [add_block]; exact hblk)).trans (hcell (1 + j) u (by rw [Nat.add_comm]; exact hj))
    have hwf : ∀ y, y ∈ r → (Lit.int .i64 y).wf = true := fun y hy => h.wf y (by rw [hr]; simp [hy])
    have HM := Lib.hid harm
    have HW := Lib.hid hwf
    have R := Lib.hid hr
    by_cases hx : x = 0
    · subst hx
      have E := Lib.hid (hit_zero hr)
      clear h hr harm hwf hin hA'
      go_enter Tryz.func46, Tryz.ntmps46
      go_wp2_with fail
      go_ret
      rw [E.out]
      have hk := (Keep.refl (· = g) w).setCell (p := ⟨g, 3, none⟩) (.inr rfl) (.slice A' r.length (c - 1))
      exact ⟨A', c - 1, rfl, hk, H.out.turn hk r m.failed (c - 1) A' (H.out.box.set 3 _) (HM.out _ hk) (by omega) (by unfold maxLen; omega) HW.out⟩
    · have E := Lib.hid (hit_more hr hx)
      have d1 : (x == 0) = false := by rw [beq_eq_false_iff_ne]; exact hx
      clear h hr harm hwf hin hA' hx
      go_enter Tryz.func46, Tryz.ntmps46
      go_wp2_with fail
      go_ret
      rw [E.out]
      have hk := ((Keep.refl (· = g) w).setCell (p := ⟨g, 3, none⟩) (.inr rfl) (.slice A' r.length (c - 1))).setCell (p := ⟨g, 4, none⟩) (.inr rfl) (.int .i64 ((m.failed : Int) + 1))
      exact ⟨A', c - 1, rfl, hk, H.out.turn hk r (m.failed + 1) (c - 1) A' ((H.out.box.set 3 _).set 4 _) (HM.out _ hk) (by omega) (by unfold maxLen; omega) HW.out⟩
end Go.Proofs.YtnbknihaefkllaaGreatDoor.Dk
/- What every call with names does first; where a file lies. -/
namespace Go.Proofs.YtnbknihaefkllaaGreatDoor.Dk
set_option linter.unusedVariables false
set_option linter.unusedSimpArgs false
open Go.RowKit Go.Maps Lift Ik

/-- Why a call with the names ns ends ahead of all else, or 0. -/
def bad (m : MS) (ns : List ByteArray) : Nat := if (hit m).1 then 11 else if ns.all nmB then 0 else 6

set_option maxRecDepth 100000 in
set_option maxHeartbeats 400000 in
theorem begin_any (g : Nat) (S : Nat → Prop) (m : MS) (fs : List Fi) (M : Option Nat) (A An : Option Addr) (c cn : Nat) (ns : List ByteArray) (w : World) (h : Lay w g S m fs M A c) (hf : m.failed ≤ 1000000)
    (hn : LiesP w (fun k => ¬ k = g ∧ k < w.heap.size) An (ns.map Value.string)) (hc : ns.length ≤ cn) (hm : cn ≤ 1000) :
    Calls Tryz.prog (24) #[.pointer (some ⟨g, 0, none⟩), .slice An ns.length cn] w fun e w' => ∃ A' c', e = .returned (.int .i64 (bad m ns : Nat)) ∧ Keep (· = g) w w' ∧ Lay w' g S (hit m).2 fs M A' c' := by
  have HF := Lib.hid (fails_any g S m fs M A c w h hf)
  have HN := Lib.hid hn
  clear h hn
  go_enter Tryz.func24, Tryz.ntmps24
  go_wp2_with fail
  refine HF.out.mono ?_
  rintro e W1 ⟨A1, c1, rfl, hk1, hL1⟩
  have HK := Lib.hid hk1
  have HL := Lib.hid hL1
  clear hk1 hL1 HF
  cases hh : (hit m).1
  · have HN1 : LiesP W1 (fun k => k < W1.heap.size ∧ k < w.heap.size) An (ns.map Value.string) := HN.out.later (fun k hk => HK.out.block k hk.2 hk.1) fun k hk => ⟨Nat.lt_of_lt_of_le hk.2 HK.out.size, hk.2⟩
    have HH := Lib.hid hh
    clear hh
    go_wp2_with fail
    go_loopw [11] (fun i wr => ∃ j : Nat, j ≤ ns.length ∧ i = .int .i64 j ∧ Hid (ns.all nmB = (ns.drop j).all nmB) ∧ Hid (Below W1.heap.size W1 wr)) (fun i _ => ns.length + 1 - (intOf i).toNat)
    case atStart => exact ⟨0, by omega, rfl, Lib.hid rfl, Lib.hid (Below.refl _ _)⟩
    case round =>
      obtain ⟨j, hj, rfl, ha, hb⟩ := hrel
      by_cases hlt : j < ns.length
      · obtain ⟨s, hd⟩ : ∃ s, ns[j]? = some s := ⟨_, List.getElem?_eq_getElem hlt⟩
        obtain ⟨ad, rfl, hin, hcell⟩ : ∃ ad, An = some ad ∧ (ad.block < W1.heap.size ∧ ad.block < w.heap.size) ∧ ∀ j u, (ns.map Value.string)[j]? = some u → W1.cell? (ad.add j) = some u := by
          rcases HN1 with h0 | h0
          · have := congrArg List.length h0
            simp at this
            subst this
            simp at hlt
          · exact h0
        have h1 : wr.cell? (ad.add j) = some (.string s) := (hb.out.cell (by rw [add_block]; exact hin.1)).trans (hcell j _ (by rw [List.getElem?_map, hd]; rfl))
        have HD := Lib.hid (Ik.drop_cons hd)
        clear hd hcell hin HN1
        go_wp2_with fail
        refine (valid_any s _).mono ?_
        rintro e w2 ⟨rfl, hb2⟩
        have HB2 := Lib.hid (hb.out.trans (hb2.mono hb.out.size))
        clear hb2
        cases hv : nmB s
        · have E : Hid (bad m ns = 6) := Lib.hid (by unfold bad; rw [HH.out, ha.out, HD.out, List.all_cons, hv]; rfl)
          clear hv
          go_wp2_with fail
          go_ret
          exact ⟨A1, c1, by rw [E.out]; rfl, HK.out.trans (T := fun _ => False) (below_keep HB2.out) (fun _ _ h => h.elim), HL.out.keep (T := fun _ => False) (below_keep HB2.out) fun _ _ => id⟩
        · have E := Lib.hid (show ns.all nmB = (ns.drop (j + 1)).all nmB by rw [ha.out, HD.out, List.all_cons, hv]; rfl)
          clear hv
          go_wp2_with fail
          go_roundw
          case rel => exact ⟨j + 1, by omega, by go_num, E, HB2⟩
          case measure => simp [intOf]; omega
      · obtain rfl : j = ns.length := by omega
        have E : Hid (bad m ns = 0) := Lib.hid (by unfold bad; rw [HH.out, ha.out, List.drop_of_length_le (by omega)]; rfl)
        go_wp2_with fail
        go_ret
        exact ⟨A1, c1, by rw [E.out]; rfl, HK.out.trans (T := fun _ => False) (below_keep hb.out) (fun _ _ h => h.elim), HL.out.keep (T := fun _ => False) (below_keep hb.out) fun _ _ => id⟩
  · have E : Hid (bad m ns = 11) := Lib.hid (by unfold bad; rw [hh]; rfl)
    clear hh
    go_wp2_with fail
    go_ret
    exact ⟨A1, c1, by rw [E.out]; rfl, HK.out, HL.out⟩

def look (fs : List Fi) (nm : ByteArray) : Option Fi := fs.find? fun f => decide (f.nm = nm)
def ptrV : Option Fi → Value
  | some f => .pointer (some ⟨f.blk, 0, none⟩)
  | none => .pointer none
theorem kl_same (a b : ByteArray) : (kl a).sameKey (kl b) = decide (a = b) := by
  show (a.data.toList == b.data.toList) = _
  rw [Bool.eq_iff_iff, beq_iff_eq, decide_eq_true_iff]
  constructor
  · intro h
    exact ByteArray.ext (Array.toList_inj.1 h)
  · rintro rfl; rfl
theorem at_ent (fs : List Fi) (nm : ByteArray) : (DataW.map (fs.map ent)).atKey (kl nm) .nil = match look fs nm with | some f => dat f.blk | none => .nil := by
  unfold DataW.atKey look
  simp only
  induction fs with
  | nil => rfl
  | cons f fs ih =>
    rw [List.map_cons, List.find?_cons, List.find?_cons, show (ent f).1.sameKey (kl nm) = decide (f.nm = nm) from kl_same _ _]
    cases decide (f.nm = nm)
    · exact ih
    · rfl
theorem look_run {w : World} {S : Nat → Prop} {M : Option Nat} {fs : List Fi} (h : Files w S M fs) (nm : ByteArray) (hl : nm.size ≤ 40) :
    Sem.run Tryz.prog (Instr.lookup 52 (.map M) (.string nm) false) w = .ok (ptrV (look fs nm)) w := by
  have hkey : keyOf Tryz.prog 9 (.string nm) = some (kl nm) := WideMaps.keyOf_string_mk Tryz.underlying9 (by unfold maxLen; omega)
  rcases h.map with ⟨rfl, rfl⟩ | ⟨b, rfl, hs, hm⟩
  · exact Maps.look_nil false law Tryz.underlying52 (zeroE w) hkey
  · obtain ⟨v, ps, hrun, hv⟩ := hm.lookup law Tryz.underlying52 (zeroE w) (zd := .nil) (zp := []) rfl hkey
    rw [at_ent] at hv
    have e : v = ptrV (look fs nm) := by
      cases hlk : look fs nm with
      | none => rw [hlk] at hv; exact ptrR_nil hv
      | some f => rw [hlk] at hv; exact ptrR_some hv
    rw [hrun, e]
theorem look_mem {fs : List Fi} {nm : ByteArray} {f : Fi} (h : look fs nm = some f) : f ∈ fs ∧ f.nm = nm := by
  unfold look at h
  exact ⟨List.mem_of_find?_eq_some h, by simpa using List.find?_some h⟩

/-- Why a call on the file named first ends, or 0. -/
def gone (m : MS) (ns : List ByteArray) (o : Option Fi) : Nat := if bad m ns ≠ 0 then bad m ns else if o.isSome then 0 else 8
theorem nmB_len {s : ByteArray} (h : nmB s = true) : s.size ≤ 40 := by
  unfold nmB at h
  rw [Bool.and_eq_true, Bool.and_eq_true] at h
  exact of_decide_eq_true h.1.2
theorem bad_zero {m : MS} {ns : List ByteArray} (h : bad m ns = 0) : (hit m).1 = false ∧ ∀ s, s ∈ ns → s.size ≤ 40 := by
  unfold bad at h
  cases hh : (hit m).1
  · rw [hh] at h
    cases ha : ns.all nmB
    · rw [ha] at h; cases h
    · exact ⟨rfl, fun s hs => nmB_len (List.all_eq_true.1 ha s hs)⟩
  · rw [hh] at h; cases h
theorem bad_three (m : MS) (ns : List ByteArray) : bad m ns = 0 ∨ bad m ns = 6 ∨ bad m ns = 11 := by unfold bad; split; simp; split <;> simp
set_option maxRecDepth 100000 in
set_option maxHeartbeats 400000 in
theorem find_any (g : Nat) (S : Nat → Prop) (m : MS) (fs : List Fi) (M : Option Nat) (A An : Option Addr) (c cn : Nat) (n0 : ByteArray) (ns : List ByteArray) (w : World) (h : Lay w g S m fs M A c) (hf : m.failed ≤ 1000000)
    (hn : LiesP w (fun k => ¬ k = g ∧ k < w.heap.size) An ((n0 :: ns).map Value.string)) (hc : ns.length + 1 ≤ cn) (hm : cn ≤ 1000) :
    Calls Tryz.prog (53) #[.pointer (some ⟨g, 0, none⟩), .slice An (ns.length + 1) cn] w fun e w' => ∃ A' c', Keep (· = g) w w' ∧ Lay w' g S (hit m).2 fs M A' c' ∧
      ((∃ f, look fs n0 = some f ∧ bad m (n0 :: ns) = 0 ∧ e = .returned (.tuple #[.pointer (some ⟨f.blk, 0, none⟩), .int .i64 0])) ∨
        (gone m (n0 :: ns) (look fs n0) ≠ 0 ∧ e = .returned (.tuple #[.pointer none, .int .i64 (gone m (n0 :: ns) (look fs n0) : Nat)]))) := by
  have HF := Lib.hid (begin_any g S m fs M A An c cn (n0 :: ns) w h hf hn (by simpa using hc) hm)
  have HN := Lib.hid hn
  clear h hn
  go_enter Tryz.func53, Tryz.ntmps53
  go_wp2_with fail
  refine (show Calls Tryz.prog (24) #[.pointer (some ⟨g, 0, none⟩), .slice An (ns.length + 1) cn] w _ from HF.out).mono ?_
  rintro e W1 ⟨A1, c1, rfl, hk1, hL1⟩
  obtain ⟨_, _, p2, _⟩ := hL1.facts
  have HK := Lib.hid hk1
  have HL := Lib.hid hL1
  by_cases hb : bad m (n0 :: ns) = 0
  · obtain ⟨ad, rfl, hin, hcell⟩ : ∃ ad, An = some ad ∧ (¬ ad.block = g ∧ ad.block < w.heap.size) ∧ ∀ j u, ((n0 :: ns).map Value.string)[j]? = some u → w.cell? (ad.add j) = some u := by
      rcases HN.out with h0 | h0
      · simp at h0
      · exact h0
    have x0 : W1.cell? ad = some (.string n0) := (World.cell?_of_block (w := w) (hk1.block _ hin.2 hin.1)).trans (hcell 0 _ rfl)
    have hlk := fun n => look_run (hL1.drew n).files n0 ((bad_zero hb).2 n0 (by simp))
    rw [hb]
    have HB := Lib.hid hb
    clear hk1 hL1 HF hb hin hcell
    rcases hfo : look fs n0 with _ | f
    · have E : Hid (gone m (n0 :: ns) none = 8) := Lib.hid (by unfold gone; rw [HB.out]; rfl)
      have hlk' : ∀ n, Sem.run Tryz.prog (Instr.lookup 52 (.map M) (.string n0) false) (W1.drewN n) = .ok (.pointer none) (W1.drewN n) := fun n => by rw [hlk n, hfo]; rfl
      have HFO := Lib.hid hfo
      clear hlk hfo
      go_wp2_with fail
      go_quiet (fail)
      go_wp2_with fail
      go_returns
      exact ⟨A1, c1, HK.out.trans (T := fun _ => False) (below_keep (Joins.below_draws _ _ _)) (fun _ _ h => h.elim), HL.out.drew _, .inr ⟨by rw [HFO.out, E.out]; decide, by rw [HFO.out, E.out]; rfl⟩⟩
    · have hlk' : ∀ n, Sem.run Tryz.prog (Instr.lookup 52 (.map M) (.string n0) false) (W1.drewN n) = .ok (.pointer (some ⟨f.blk, 0, none⟩)) (W1.drewN n) := fun n => by rw [hlk n, hfo]; rfl
      have HFO := Lib.hid hfo
      clear hlk hfo
      go_wp2_with fail
      go_quiet (fail)
      go_wp2_with fail
      go_returns
      exact ⟨A1, c1, HK.out.trans (T := fun _ => False) (below_keep (Joins.below_draws _ _ _)) (fun _ _ h => h.elim), HL.out.drew _, .inl ⟨f, HFO.out, HB.out, rfl⟩⟩
  · have d1 : ((bad m (n0 :: ns) : Int) != 0) = true := by rw [bne_iff_ne]; omega
    have HB := Lib.hid hb
    clear hk1 hL1 HF hb
    go_wp2_with fail
    go_returns
    have e : gone m (n0 :: ns) (look fs n0) = bad m (n0 :: ns) := by unfold gone; rw [if_pos HB.out]
    exact ⟨A1, c1, HK.out, HL.out, .inr ⟨by rw [e]; exact HB.out, by rw [e]; rfl⟩⟩
end Go.Proofs.YtnbknihaefkllaaGreatDoor.Dk
/- One file of a disk is written: what becomes of the disk. -/
namespace Go.Proofs.YtnbknihaefkllaaGreatDoor.Dk
set_option linter.unusedVariables false
set_option linter.unusedSimpArgs false
open Go.RowKit Go.Maps Lift Ik

def get (l : List FM) (nm : ByteArray) : Option FM := l.find? fun f => decide (f.nm = nm)
def put1 (l : List FM) (f : FM) : List FM := l.map fun x => if x.nm = f.nm then f else x
def sub (fs : List Fi) (f : Fi) : List Fi := fs.map fun x => if x.nm = f.nm then f else x
theorem look_get (fs : List Fi) (nm : ByteArray) : get (fs.map Fi.m) nm = (look fs nm).map Fi.m := by
  unfold get look
  rw [List.find?_map]
  rfl
theorem sub_told (fs : List Fi) (f : Fi) : (sub fs f).map Fi.m = put1 (fs.map Fi.m) f.m := by
  unfold sub put1
  rw [List.map_map, List.map_map]
  refine List.map_congr_left fun x _ => ?_
  show Fi.m (if x.nm = f.nm then f else x) = if x.nm = f.nm then f.m else x.m
  split <;> rfl
theorem sub_length (fs : List Fi) (f : Fi) : (sub fs f).length = fs.length := by unfold sub; simp
theorem put1_length (fs : List FM) (f : FM) : (put1 fs f).length = fs.length := by unfold put1; simp
theorem used_put1 : ∀ (l : List FM) (f f' : FM), l.Pairwise (fun a b => a.nm ≠ b.nm) → f ∈ l → f'.nm = f.nm → used (put1 l f') + f.bs.length = used l + f'.bs.length := by
  intro l f f' hp hf hn
  induction l with
  | nil => simp at hf
  | cons a l ih =>
    obtain ⟨h1, h2⟩ := List.pairwise_cons.1 hp
    have e : ∀ (b : FM) (r : List FM), used (b :: r) = b.bs.length + used r := fun b r => by simp [used]
    rcases List.mem_cons.1 hf with rfl | hf'
    · have hs : put1 l f' = l := by
        unfold put1
        rw [show l = l.map id by simp]
        rw [List.map_map]
        refine List.map_congr_left fun x hx => ?_
        show (if x.nm = f'.nm then f' else x) = x
        rw [if_neg fun e1 => h1 x hx (by rw [e1, hn])]
      have hc : put1 (f :: l) f' = f' :: put1 l f' := by unfold put1; rw [List.map_cons, if_pos hn.symm]
      rw [hc, hs, e, e]
      omega
    · have hne : ¬ a.nm = f'.nm := fun e1 => h1 f hf' (by rw [e1, hn])
      have hc : put1 (a :: l) f' = a :: put1 l f' := by unfold put1; rw [List.map_cons, if_neg hne]
      rw [hc, e, e]
      have := ih h2 hf'
      omega
theorem used_mem {l : List FM} {f : FM} (h : f ∈ l) : f.bs.length ≤ used l := by
  induction l with
  | nil => simp at h
  | cons a l ih =>
    have e : used (a :: l) = a.bs.length + used l := by simp [used]
    rcases List.mem_cons.1 h with rfl | h
    · omega
    · have := ih h; omega

section
variable {w w' : World} {g : Nat} {S S' T : Nat → Prop} {m : MS} {fs : List Fi} {M : Option Nat} {A : Option Addr} {c : Nat}
theorem Fi.ok.keep0 {f : Fi} (h : f.ok w S) (hk : Keep T w w') (n1 : ¬ T f.blk) (n2 : ∀ k, f.v.ownBlock = some k → ¬ T k) (hS : ∀ k, S k → S' k) : f.ok w' S' := by
  refine ⟨h.box.keep hk n1, ?_, hS _ h.sb, fun k hv => hS _ (h.sv k hv), h.syn, h.len, h.byte, h.nm⟩
  refine ⟨h.own.1, ?_⟩
  rcases h.own.2 with h0 | ⟨b, cap, cur, hv, hB, hh, r⟩
  · exact .inl h0
  · exact .inr ⟨b, cap, cur, hv, hB, (hk.block b (Array.getElem?_eq_some_iff.1 hh).1 (n2 b (by rw [hv]; simp [Value.ownBlock]))).trans hh, r⟩
/-- A file's bytes' block is one of bytes. -/
theorem Fi.ok.bytes {f : Fi} (h : f.ok w S) {k : Nat} (hk : f.v.ownBlock = some k) : k < w.heap.size ∧ ∃ cs fr, w.heap[k]? = some (.cells cs 5 fr) := by
  rcases h.own.2 with ⟨h0, _⟩ | ⟨b, cap, cur, hv', _, hh, _⟩
  · rw [h0] at hk; simp [Value.ownBlock] at hk
  · rw [hv'] at hk
    simp [Value.ownBlock] at hk
    subst hk
    exact ⟨(Array.getElem?_eq_some_iff.1 hh).1, _, _, hh⟩
theorem nm_inj {x f : Fi} (h : fs.Pairwise sep) (hx : x ∈ fs) (hf : f ∈ fs) (e : x.nm = f.nm) : x = f := by
  induction fs with
  | nil => simp at hx
  | cons a l ih =>
    obtain ⟨h1, h2⟩ := List.pairwise_cons.1 h
    rcases List.mem_cons.1 hx with rfl | hx'
    · rcases List.mem_cons.1 hf with rfl | hf'
      · rfl
      · exact absurd e (h1 f hf').2.1
    · rcases List.mem_cons.1 hf with rfl | hf'
      · exact absurd e.symm (h1 x hx').2.1
      · exact ih h2 hx' hf'
theorem sep_of {x f : Fi} (h : fs.Pairwise sep) (hx : x ∈ fs) (hf : f ∈ fs) (e : x.nm ≠ f.nm) : Dk.sep x f := by
  induction fs with
  | nil => simp at hx
  | cons a l ih =>
    obtain ⟨h1, h2⟩ := List.pairwise_cons.1 h
    rcases List.mem_cons.1 hx with rfl | hx'
    · rcases List.mem_cons.1 hf with rfl | hf'
      · exact absurd rfl e
      · exact h1 f hf'
    · rcases List.mem_cons.1 hf with rfl | hf'
      · exact sep_symm (h1 x hx')
      · exact ih h2 hx' hf'
theorem names_apart (h : fs.Pairwise sep) : (fs.map Fi.m).Pairwise (fun a b => a.nm ≠ b.nm) := by
  rw [List.pairwise_map]
  exact h.imp fun hs => hs.2.1
/-- The blocks of one file, and the disk's own struct. -/
def Of (g : Nat) (f : Fi) (k : Nat) : Prop := k = g ∨ k = f.blk ∨ f.v.ownBlock = some k
theorem typed {k : Nat} {cs cs' : Array Value} {t t' : TypeId} {fr fr' : Nat × Nat} (h : w.heap[k]? = some (.cells cs t fr)) (h' : w.heap[k]? = some (.cells cs' t' fr')) (hne : t ≠ t') : False := by
  rw [h] at h'
  injection h' with h'
  injection h' with _ h' _
  exact hne h'
theorem Files.apart {f x : Fi} {us : List Value} (h : Files w S M fs) (hb : Box w g Ty.disk us) (hf : f ∈ fs) (hx : x ∈ fs) (hne : x.nm ≠ f.nm) : ¬ Of g f x.blk ∧ ∀ k, x.v.ownBlock = some k → ¬ Of g f k := by
  obtain ⟨s1, _, s3⟩ := sep_of h.sep hx hf hne
  have o1 := h.ok x hx
  have o2 := h.ok f hf
  constructor
  · rintro (e | e | e)
    · have h1 := o1.box
      rw [e] at h1
      exact typed hb h1 (by decide)
    · exact s1 e
    · obtain ⟨_, cs, fr, h1⟩ := o2.bytes e
      exact typed o1.box h1 (by decide)
  · intro k hk
    obtain ⟨_, cs, fr, h1⟩ := o1.bytes hk
    rintro (e | e | e)
    · subst e; exact typed hb h1 (by decide)
    · subst e; exact typed o2.box h1 (by decide)
    · exact s3 k hk e
theorem Files.map_apart {f : Fi} {us : List Value} {b n : Nat} {D : DataW Unit} (h : Files w S M fs) (hb : Box w g Ty.disk us) (hf : f ∈ fs) (hm : w.ownsMap Tryz.prog 9 ptrR b n D) : ¬ Of g f b := by
  obtain ⟨es, clock, hh, _⟩ := hm
  have o2 := h.ok f hf
  rintro (e | e | e)
  · subst e
    unfold Box at hb
    rw [hh] at hb
    cases hb
  · subst e
    have := o2.box
    unfold Box at this
    rw [hh] at this
    cases this
  · obtain ⟨_, cs, fr, h1⟩ := o2.bytes e
    rw [hh] at h1
    cases h1
/-- One file is written. -/
theorem Files.sub {f f' : Fi} {us : List Value} (h : Files w S M fs) (hb : Box w g Ty.disk us) (hk : Keep (Of g f) w w') (hf : f ∈ fs) (hn : f'.nm = f.nm) (hbk : f'.blk = f.blk) (ho : f'.ok w' S')
    (hv : ∀ k, f'.v.ownBlock = some k → f.v.ownBlock = some k ∨ w.heap.size ≤ k) (hS : ∀ k, S k → S' k) : Files w' S' M (Dk.sub fs f') := by
  have hent : (Dk.sub fs f').map ent = fs.map ent := by
    unfold Dk.sub
    rw [List.map_map]
    refine List.map_congr_left fun x hx => ?_
    show ent (if x.nm = f'.nm then f' else x) = ent x
    split
    · rename_i e
      have := nm_inj h.sep hx hf (e.trans hn)
      subst this
      unfold ent
      rw [hn, hbk]
    · rfl
  refine ⟨?_, ?_, ?_⟩
  · rcases h.map with ⟨_, h0⟩ | ⟨b, hM, hs, hm⟩
    · rw [h0] at hf; simp at hf
    · refine .inr ⟨b, hM, hS b hs, ?_⟩
      rw [hent, sub_length]
      exact map_keep hm hk (h.map_apart hb hf hm)
  · intro y hy
    unfold Dk.sub at hy
    obtain ⟨x, hx, rfl⟩ := List.mem_map.1 hy
    split
    · exact ho
    · rename_i e
      obtain ⟨n1, n2⟩ := h.apart hb hf hx (fun e1 => e (e1.trans hn.symm))
      exact (h.ok x hx).keep0 hk n1 n2 hS
  · unfold Dk.sub
    rw [List.pairwise_map]
    refine h.sep.imp_of_mem fun {x y} hx hy hs => ?_
    -- x, y: two files; one of them may be the one that is written
    have key : ∀ z, z ∈ fs → z.nm ≠ f.nm → Dk.sep f' z := fun z hz hne => by
      obtain ⟨s1, _, s3⟩ := sep_of h.sep hf hz (fun e => hne e.symm)
      refine ⟨by rw [hbk]; exact s1, by rw [hn]; exact fun e => hne e.symm, fun k hk1 hk2 => ?_⟩
      rcases hv k hk1 with h1 | h1
      · exact s3 k h1 hk2
      · have := ((h.ok z hz).bytes hk2).1
        omega
    by_cases ex : x.nm = f'.nm
    · rw [if_pos ex]
      have := nm_inj h.sep hx hf (ex.trans hn)
      subst this
      rw [if_neg fun e => hs.2.1 (ex.trans e.symm)]
      exact key y hy fun e => hs.2.1 e.symm
    · rw [if_neg ex]
      by_cases ey : y.nm = f'.nm
      · rw [if_pos ey]
        have := nm_inj h.sep hy hf (ey.trans hn)
        subst this
        exact sep_symm (key x hx hs.2.1)
      · rw [if_neg ey]; exact hs
theorem Of_not_ints {f : Fi} {us : List Value} (h : Files w S M fs) (hb : Box w g Ty.disk us) (hf : f ∈ fs) (k : Nat) (hk : Of g f k) : ¬ ∃ cs fr, w.heap[k]? = some (.cells cs 3 fr) := by
  rintro ⟨cs, fr, h1⟩
  rcases hk with e | e | e
  · subst e; exact typed hb h1 (by decide)
  · subst e; exact typed (h.ok f hf).box h1 (by decide)
  · obtain ⟨_, cs', fr', h2⟩ := (h.ok f hf).bytes e
    exact typed h2 h1 (by decide)
/-- One file is written, and the disk's struct. -/
theorem Lay.sub {f f' : Fi} (h : Lay w g S m fs M A c) (hk : Keep (Of g f) w w') (hf : f ∈ fs) (hn : f'.nm = f.nm) (hbk : f'.blk = f.blk) (ho : f'.ok w' S')
    (hv : ∀ k, f'.v.ownBlock = some k → f.v.ownBlock = some k ∨ w.heap.size ≤ k) (hS : ∀ k, S k → S' k) (hlt : ∀ k, S' k → k < w'.heap.size)
    (hb : Box w' g Ty.disk [.int .i64 (m.room : Int), .int .i64 (used (put1 m.fs f'.m) : Int), .map M, .slice A m.armed.length c, .int .i64 (m.failed : Int)]) (hu : used (put1 m.fs f'.m) ≤ m.room) :
    Lay w' g S' { m with fs := put1 m.fs f'.m } (Dk.sub fs f') M A c :=
  ⟨hb, hS g h.sg, h.files.sub h.box hk hf hn hbk ho hv hS, by rw [sub_told, ← h.told], h.armed.keep hk (fun k ht _ => Of_not_ints h.files h.box hf k ht) hS, h.cap, h.capm, h.wf, hlt, h.room, hu, by rw [put1_length]; exact h.many⟩
end
end Go.Proofs.YtnbknihaefkllaaGreatDoor.Dk
/- What New, Used, Failed, Sync, Size of package disk answer. -/
namespace Go.Proofs.YtnbknihaefkllaaGreatDoor.Dk
set_option linter.unusedVariables false
set_option linter.unusedSimpArgs false
open Go.RowKit Go.Maps Lift Ik

def newM (room : Int) : MS := ⟨room.toNat, [], [], 0⟩
theorem new_any (room : Int) (hr : (Lit.int .i64 room).wf = true) (w : World) :
    Calls Tryz.prog 5 #[.int .i64 room] w fun e w' => e = .returned (.pointer (some ⟨w.heap.size, 0, none⟩)) ∧ At w' w.heap.size (· = w.heap.size) (newM room) ∧ Below w.heap.size w w' := by
  have h8 := i64_of hr
  go_enter Tryz.func5, Tryz.ntmps5
  go_wp2_with fail
  go_ret
  refine ⟨rfl, ⟨[], none, none, 0, ⟨?_, rfl, ⟨.inl ⟨rfl, rfl⟩, by simp, List.Pairwise.nil⟩, rfl, .inl rfl, Nat.le_refl _, by decide, by simp [newM], fun k hk => by rw [hk]; simp, by unfold newM; simp only; omega, Nat.zero_le _, Nat.zero_le _⟩⟩, Joins.below_alloc1 _ _⟩
  have e : max room 0 = ((newM room).room : Int) := by show max room 0 = (room.toNat : Int); omega
  rw [e]
  exact Box.new w Ty.disk [.int .i64 ((newM room).room : Int), .int .i64 0, .map none, .slice none 0 0, .int .i64 0]

section
variable {w w' : World} {g : Nat} {S S' T : Nat → Prop} {m : MS} {fs : List Fi} {M : Option Nat} {A : Option Addr} {c : Nat}
theorem used_any (h : At w g S m) : Calls Tryz.prog (15) #[.pointer (some ⟨g, 0, none⟩)] w fun e w' => e = .returned (.int .i64 (used m.fs : Int)) ∧ w = w' := by
  obtain ⟨fs, M, A, c, h⟩ := h
  obtain ⟨c0, c1, c2, c3, c4, f1, f2, f3, f4⟩ := h.facts
  clear h
  go_enter Tryz.func15, Tryz.ntmps15
  go_wp2_with fail
  go_ret
  exact ⟨rfl, rfl⟩
theorem failed_any (h : At w g S m) : Calls Tryz.prog (17) #[.pointer (some ⟨g, 0, none⟩)] w fun e w' => e = .returned (.int .i64 (m.failed : Int)) ∧ w = w' := by
  obtain ⟨fs, M, A, c, h⟩ := h
  obtain ⟨c0, c1, c2, c3, c4, f1, f2, f3, f4⟩ := h.facts
  clear h
  go_enter Tryz.func17, Tryz.ntmps17
  go_wp2_with fail
  go_ret
  exact ⟨rfl, rfl⟩

/-- A call on a file that has to be there. -/
def onFile {α : Type} (m : MS) (ns : List ByteArray) (nm : ByteArray) (no : Nat → α) (k : FM → α) : α :=
  if bad m ns ≠ 0 then no (bad m ns) else match get m.fs nm with | none => no 8 | some f => k f
theorem onFile_no {α : Type} {ns : List ByteArray} {nm : ByteArray} {no : Nat → α} {k : FM → α} (ht : m.fs = fs.map Fi.m) (h : gone m ns (look fs nm) ≠ 0) : onFile m ns nm no k = no (gone m ns (look fs nm)) := by
  by_cases hb : bad m ns = 0
  · have e : gone m ns (look fs nm) = if (look fs nm).isSome then 0 else 8 := by unfold gone; simp [hb]
    rw [e] at h ⊢
    unfold onFile
    rw [if_neg (by omega), ht, look_get]
    cases hl : look fs nm with
    | none => rfl
    | some f => rw [hl] at h; simp at h
  · have e : gone m ns (look fs nm) = bad m ns := by unfold gone; rw [if_pos hb]
    unfold onFile
    rw [e, if_pos hb]
theorem onFile_yes {α : Type} {ns : List ByteArray} {nm : ByteArray} {no : Nat → α} {k : FM → α} {f : Fi} (ht : m.fs = fs.map Fi.m) (h : bad m ns = 0) (hl : look fs nm = some f) : onFile m ns nm no k = k f.m := by
  unfold onFile
  rw [if_neg (by omega), ht, look_get, hl]
  rfl
theorem names1 (nm : ByteArray) (hg : g < w.heap.size) : LiesP (w.alloc (.cells #[.string nm] 9)) (fun k => ¬ k = g ∧ k < (w.alloc (.cells #[.string nm] 9)).heap.size) (some ⟨w.heap.size, 0, none⟩) ([nm].map Value.string) :=
  .inr ⟨_, rfl, ⟨by simp only; omega, by simp⟩, fun j u hj => by
    rcases j with _ | j
    · simp at hj
      subst hj
      exact World.cell?_alloc_new w #[.string nm] 9 0
    · simp at hj⟩
/-- Where the file is, asked with one name. -/
theorem find1 (nm : ByteArray) (h : Lay w g S m fs M A c) (hf : m.failed ≤ 1000000) :
    Calls Tryz.prog (53) #[.pointer (some ⟨g, 0, none⟩), .slice (some ⟨w.heap.size, 0, none⟩) 1 1] (w.alloc (.cells #[.string nm] 9)) fun e w' => ∃ A' c', Keep (· = g) w w' ∧ Lay w' g S (hit m).2 fs M A' c' ∧
      ((∃ f, look fs nm = some f ∧ bad m [nm] = 0 ∧ e = .returned (.tuple #[.pointer (some ⟨f.blk, 0, none⟩), .int .i64 0])) ∨
        (gone m [nm] (look fs nm) ≠ 0 ∧ e = .returned (.tuple #[.pointer none, .int .i64 (gone m [nm] (look fs nm) : Nat)]))) := by
  have hk0 : Keep (fun _ => False) w (w.alloc (.cells #[.string nm] 9)) := below_keep (Joins.below_alloc1 w _)
  refine (find_any g S m fs M A (some ⟨w.heap.size, 0, none⟩) c 1 nm [] _ (h.keep hk0 fun _ _ => id) hf (names1 nm (h.lt g h.sg)) (by simp) (by decide)).mono ?_
  rintro e w' ⟨A', c', hk, hL, hc⟩
  exact ⟨A', c', (below_keep (S := (· = g)) (Joins.below_alloc1 w _)).trans hk fun _ _ h => h, hL, hc⟩
end
end Go.Proofs.YtnbknihaefkllaaGreatDoor.Dk
/- What Sync, Size and Read of package disk answer. -/
namespace Go.Proofs.YtnbknihaefkllaaGreatDoor.Dk
set_option linter.unusedVariables false
set_option linter.unusedSimpArgs false
open Go.RowKit Go.Maps Lift Ik

/-- A number is told, and the disk is then r. -/
def Told (w : World) (g : Nat) (S : Nat → Prop) (r : Nat × MS) (e : Ending) (w' : World) : Prop :=
  ∃ S', e = .returned (.int .i64 (r.1 : Int)) ∧ At w' g S' r.2 ∧ Keep S w w' ∧ ∀ k, S' k → S k ∨ w.heap.size ≤ k
def syncM (m : MS) (nm : ByteArray) : Nat × MS := onFile m [nm] nm (fun e => (e, (hit m).2)) fun f => (0, { (hit m).2 with fs := put1 m.fs ⟨f.nm, f.bs, f.bs.length⟩ })
def sizeM (m : MS) (nm : ByteArray) : Nat × Nat := onFile m [nm] nm (fun e => (e, 0)) fun f => (0, f.bs.length)
def readM (m : MS) (nm : ByteArray) (at' n : Int) : Nat × List Nat :=
  onFile m [nm] nm (fun e => (e, [])) fun f => if at' < 0 ∨ n < 0 ∨ (f.bs.length : Int) < at' then (1, []) else (0, (f.bs.drop at'.toNat).take n.toNat)
theorem own_keep {w w' : World} {T : Nat → Prop} {base size n : Nat} {e : TypeId} {v : Value} {xs : List Value} (h : w.ownsRow base e size v n xs) (hk : Keep T w w') (hT : ∀ k, v.ownBlock = some k → ¬ T k) : w'.ownsRow base e size v n xs := by
  refine ⟨h.1, ?_⟩
  rcases h.2 with h0 | ⟨b, cap, cur, hv, hB, hh, r⟩
  · exact .inl h0
  · exact .inr ⟨b, cap, cur, hv, hB, (hk.block b (Array.getElem?_eq_some_iff.1 hh).1 (hT b (by rw [hv]; simp [Value.ownBlock]))).trans hh, r⟩
theorem syn_not {w : World} {S : Nat → Prop} {f : Fi} (h : f.ok w S) : ∀ k, f.v.ownBlock = some k → ¬ k = f.blk := fun k hk e => by
  obtain ⟨_, cs, fr, h1⟩ := h.bytes hk
  subst e
  exact typed h.box h1 (by decide)

section
variable {w w' : World} {g : Nat} {S S' T : Nat → Prop} {m : MS} {fs : List Fi} {M : Option Nat} {A : Option Addr} {c : Nat}
theorem hit_told (h : Lay w g S m fs M A c) : (hit m).2.fs = fs.map Fi.m := (hit_fs m).1.trans h.told
theorem Lay.toAt (h : Lay w g S m fs M A c) : At w g S m := ⟨_, _, _, _, h⟩
set_option maxHeartbeats 400000 in
theorem sync_any (nm : ByteArray) (h : At w g S m) (hf : m.failed ≤ 1000000) : Calls Tryz.prog (33) #[.pointer (some ⟨g, 0, none⟩), .string nm] w (Told w g S (syncM m nm)) := by
  obtain ⟨fs, M, A, c, h⟩ := h
  have HF := Lib.hid (find1 nm h hf)
  have HT := Lib.hid h.told
  have HS := Lib.hid h.sg
  have HLT := Lib.hid h.lt
  clear h
  go_enter Tryz.func33, Tryz.ntmps33
  go_wp2_with fail
  refine HF.out.mono ?_
  rintro e W1 ⟨A1, c1, hk1, hL1, hc⟩
  have HK := Lib.hid hk1
  have HL := Lib.hid hL1
  rcases hc with ⟨f, hlk, hb0, rfl⟩ | ⟨hne, rfl⟩
  · obtain ⟨hm, hnm⟩ := look_mem hlk
    have hok := hL1.files.ok f hm
    have E : Hid (syncM m nm = (0, { (hit m).2 with fs := put1 m.fs ⟨f.nm, f.bs, f.bs.length⟩ })) := Lib.hid (onFile_yes HT.out hb0 hlk)
    obtain ⟨f0, f1, z0, z1⟩ := hok.box.facts2
    obtain ⟨Av, cv, hv, hcv, hcvm, _⟩ := own_parts hok.own
    have HO := Lib.hid hok
    have HM := Lib.hid hm
    rw [hv] at f0
    clear hk1 hL1 HF hlk hb0 hok hm hnm hv
    obtain ⟨n, hn⟩ : ∃ n, n = f.bs.length := ⟨_, rfl⟩
    rw [← hn] at f0 hcv
    obtain ⟨b, hb⟩ : ∃ b, b = f.blk := ⟨_, rfl⟩
    rw [← hb] at f0 f1 z0 z1 ⊢
    have HN := Lib.hid hn
    have HB := Lib.hid hb
    clear hn hb
    go_wp2_with fail
    go_ret
    refine ⟨S, by rw [E.out]; rfl, ?_, ?_, fun k hk => .inl hk⟩
    · rw [E.out]
      have hk : Keep (Of g f) W1 (W1.setCell ⟨b, 1, none⟩ (.int .i64 (n : Int))) := (Keep.refl _ _).setCell (p := ⟨b, 1, none⟩) (.inr (.inr (.inl HB.out))) _
      have hkb : Keep (· = f.blk) W1 (W1.setCell ⟨b, 1, none⟩ (.int .i64 (n : Int))) := (Keep.refl _ _).setCell (p := ⟨b, 1, none⟩) (.inr HB.out) _
      have hfs := (hit_fs m).1
      have hu : used (put1 (hit m).2.fs ⟨f.nm, f.bs, f.bs.length⟩) = used (hit m).2.fs := by
        have := used_put1 (hit m).2.fs f.m ⟨f.nm, f.bs, f.bs.length⟩ (by rw [HL.out.told]; exact names_apart HL.out.files.sep) (by rw [HL.out.told]; exact List.mem_map.2 ⟨f, HM.out, rfl⟩) rfl
        have e : (f.m).bs.length = f.bs.length := rfl
        simp only at this
        omega
      have hd : g ≠ b := fun e => by
        have h1 := HO.out.box
        rw [← HB.out, ← e] at h1
        exact typed HL.out.box h1 (by decide)
      have hL2 := HL.out.sub (f' := ⟨f.nm, f.blk, f.v, f.bs, f.bs.length⟩) (S' := S) hk HM.out rfl rfl
        ⟨by rw [← HB.out, ← HN.out]; exact (show Box W1 b Ty.file [f.v, .int .i64 (f.syn : Int)] by rw [HB.out]; exact HO.out.box).set 1 _, own_keep HO.out.own hkb (fun k hk => syn_not (f := f) HO.out k hk), HO.out.sb, HO.out.sv, Nat.le_refl _, HO.out.len, HO.out.byte, HO.out.nm⟩
        (fun k hk => .inl hk) (fun _ => id) (fun k hk => by have := HL.out.lt k hk; simpa [World.setCell] using this)
        (by
          show Box _ _ _ [_, .int .i64 (used (put1 (hit m).2.fs ⟨f.nm, f.bs, f.bs.length⟩) : Int), _, _, _]
          rw [hu]
          exact HL.out.box.setOther hd _)
        (by
          show used (put1 (hit m).2.fs ⟨f.nm, f.bs, f.bs.length⟩) ≤ _
          rw [hu]
          exact HL.out.fits)
      have hL3 := hL2.toAt
      rw [hfs] at hL3
      exact hL3
    · exact (HK.out.mono (T := S) fun k hk => by rw [hk]; exact HS.out).setCell (p := ⟨b, 1, none⟩) (.inr (by rw [HB.out]; exact HO.out.sb)) _
  · have E : Hid (syncM m nm = (gone m [nm] (look fs nm), (hit m).2)) := Lib.hid (onFile_no HT.out hne)
    have d1 : ((gone m [nm] (look fs nm) : Int) != 0) = true := by rw [bne_iff_ne]; omega
    clear hk1 hL1 HF hne
    go_wp2_with fail
    go_ret
    exact ⟨S, by rw [E.out]; rfl, by rw [E.out]; exact HL.out.toAt, HK.out.mono fun k hk => by rw [hk]; exact HS.out, fun k hk => .inl hk⟩

theorem size_any (nm : ByteArray) (h : At w g S m) (hf : m.failed ≤ 1000000) : Calls Tryz.prog (31) #[.pointer (some ⟨g, 0, none⟩), .string nm] w fun e w' =>
    e = .returned (.tuple #[.int .i64 ((sizeM m nm).2 : Int), .int .i64 ((sizeM m nm).1 : Int)]) ∧ At w' g S (hit m).2 ∧ Keep (· = g) w w' := by
  obtain ⟨fs, M, A, c, h⟩ := h
  have HF := Lib.hid (find1 nm h hf)
  have HT := Lib.hid h.told
  clear h
  go_enter Tryz.func31, Tryz.ntmps31
  go_wp2_with fail
  refine HF.out.mono ?_
  rintro e W1 ⟨A1, c1, hk1, hL1, hc⟩
  have HK := Lib.hid hk1
  have HL := Lib.hid hL1
  rcases hc with ⟨f, hlk, hb0, rfl⟩ | ⟨hne, rfl⟩
  · have hok := hL1.files.ok f (look_mem hlk).1
    have E : Hid (sizeM m nm = (0, f.bs.length)) := Lib.hid (onFile_yes HT.out hb0 hlk)
    obtain ⟨f0, f1, z0, z1⟩ := hok.box.facts2
    obtain ⟨Av, cv, hv, hcv, hcvm, _⟩ := own_parts hok.own
    rw [hv] at f0
    clear hk1 hL1 HF hlk hb0 hok hv
    go_wp2_with fail
    go_returns
    exact ⟨by rw [E.out]; rfl, HL.out.toAt, HK.out⟩
  · have E : Hid (sizeM m nm = (gone m [nm] (look fs nm), 0)) := Lib.hid (onFile_no HT.out hne)
    have d1 : ((gone m [nm] (look fs nm) : Int) != 0) = true := by rw [bne_iff_ne]; omega
    clear hk1 hL1 HF hne
    go_wp2_with fail
    go_returns
    exact ⟨by rw [E.out]; rfl, HL.out.toAt, HK.out⟩
end
end Go.Proofs.YtnbknihaefkllaaGreatDoor.Dk
/- What Read of package disk answers. -/
namespace Go.Proofs.YtnbknihaefkllaaGreatDoor.Dk
set_option linter.unusedVariables false
set_option linter.unusedSimpArgs false
open Go.RowKit Go.Maps Lift Ik

theorem drop_at (A : Option Addr) (n c p : Nat) (h : p ≤ n) (hc : n ≤ c) (hm : c ≤ maxLen) :
    ∃ A' : Option Addr, (0 < n - p → A' = A.map (·.add p)) ∧ (A'.isSome = A.isSome) ∧ ∀ W : World, Sem.run Tryz.prog (Instr.slice 24 (.slice A n c) (some (.int .i64 (p : Int))) none none) W = .ok (.slice A' (n - p) (c - p)) W := by
  unfold maxLen at hm
  by_cases hcp : c = p
  · refine ⟨A, fun h0 => by omega, rfl, fun W => ?_⟩
    obtain rfl : n = p := by omega
    subst hcp
    go_simp
  · refine ⟨A.map (·.add p), fun _ => rfl, by simp, fun W => ?_⟩
    go_simp
theorem upto_at (A : Option Addr) (n c k : Nat) (h : k ≤ c) (hc : n ≤ c) (hm : c ≤ maxLen) (W : World) : Sem.run Tryz.prog (Instr.slice 24 (.slice A n c) none (some (.int .i64 (k : Int))) none) W = .ok (.slice A k c) W := by
  unfold maxLen at hm
  go_simp
/-- What bytes.Clone answers, whatever the slice. -/
theorem clone_at (A : Option Addr) (c : Nat) (xs : List Nat) (w : World) (hl : Lies w w.heap.size A (xs.map vb)) (hm : xs.length ≤ 140737488354000) (h0 : A = none → xs.length = 0 ∧ c = 0) :
    Calls Tryz.prog 63 #[.slice A xs.length c] w (Made w.heap.size w xs) := by
  rcases A with _ | ad
  · obtain ⟨h1, rfl⟩ := h0 rfl
    rw [List.eq_nil_of_length_eq_zero h1]
    refine (clone_nil w).mono ?_
    rintro e w' ⟨rfl, rfl⟩
    exact ⟨_, rfl, World.ownsRow_nil _ _ _ _, Below.refl _ _⟩
  · exact clone_any ad c xs w hl hm
theorem own_none {w : World} {base size n c : Nat} {e : TypeId} {xs : List Value} (h : w.ownsRow base e size (.slice none n c) n xs) : n = 0 ∧ c = 0 := by
  rcases h.2 with ⟨h0, h1⟩ | ⟨g, cap, cur, hv, _⟩
  · injection h0 with _ h2 h3
    exact ⟨h1, h3⟩
  · injection hv with h2
    cases h2

section
variable {w w' : World} {g : Nat} {S S' T : Nat → Prop} {m : MS} {fs : List Fi} {M : Option Nat} {A : Option Addr} {c : Nat}
/-- A number and bytes are told, the bytes in new memory; the disk is then m'. -/
def Gave (w : World) (g : Nat) (S : Nat → Prop) (m' : MS) (r : Nat × List Nat) (e : Ending) (w' : World) : Prop :=
  ∃ (A : Option Addr) (c : Nat), e = .returned (.tuple #[.slice A r.2.length c, .int .i64 (r.1 : Int)]) ∧ LiesP w' (fun k => w.heap.size ≤ k ∧ k < w'.heap.size) A (r.2.map vb) ∧ r.2.length ≤ c ∧ c ≤ maxLen ∧ At w' g S m' ∧ Keep S w w'
theorem gave_no {n : Nat} (hL : Lay w' g S m fs M A c) (hK : Keep (· = g) w w') : Gave w g S m (n, []) (.returned (.tuple #[.slice none 0 0, .int .i64 (n : Int)])) w' :=
  ⟨none, 0, rfl, .inl rfl, Nat.le_refl _, by decide, hL.toAt, hK.mono fun k hk => by rw [hk]; exact hL.sg⟩
set_option maxRecDepth 100000 in
set_option maxHeartbeats 1000000 in
theorem read_any (nm : ByteArray) (at' n : Int) (ha : (Lit.int .i64 at').wf = true) (hn : (Lit.int .i64 n).wf = true) (h : At w g S m) (hf : m.failed ≤ 1000000) :
    Calls Tryz.prog (64) #[.pointer (some ⟨g, 0, none⟩), .string nm, .int .i64 at', .int .i64 n] w (Gave w g S (hit m).2 (readM m nm at' n)) := by
  obtain ⟨fs, M, A, c, h⟩ := h
  have b1 := i64_of ha
  have b2 := i64_of hn
  have HF := Lib.hid (find1 nm h hf)
  have HT := Lib.hid h.told
  clear h ha hn
  go_enter Tryz.func64, Tryz.ntmps64
  go_wp2_with fail
  refine HF.out.mono ?_
  rintro e W1 ⟨A1, c1, hk1, hL1, hc⟩
  have HK := Lib.hid hk1
  have HL := Lib.hid hL1
  rcases hc with ⟨f, hlk, hb0, rfl⟩ | ⟨hne, rfl⟩
  · have hok := hL1.files.ok f (look_mem hlk).1
    have E : Hid (readM m nm at' n = if at' < 0 ∨ n < 0 ∨ (f.bs.length : Int) < at' then (1, []) else (0, (f.bs.drop at'.toNat).take n.toNat)) := Lib.hid (onFile_yes HT.out hb0 hlk)
    obtain ⟨f0, f1, z0, z1⟩ := hok.box.facts2
    obtain ⟨Av, cv, hv, hcv, hcvm, hlies⟩ := own_parts hok.own
    have hown := hok.own
    have hlen := hok.len
    rw [hv] at f0 hown
    have hnone : Hid (Av = none → f.bs.length = 0 ∧ cv = 0) := Lib.hid fun e => by subst e; exact own_none hown
    have HLS := Lib.hid hlies
    obtain ⟨L, hL⟩ : ∃ L, L = f.bs.length := ⟨_, rfl⟩
    rw [← hL] at f0 hcv hlen
    have HLL := Lib.hid hL
    clear hk1 hL1 HF hlk hb0 hok hv hown hlies hL
    by_cases k1 : at' < 0
    · have d1 : decide (at' < 0) = true := decide_eq_true k1
      have E1 : Hid (readM m nm at' n = (1, [])) := Lib.hid (by rw [E.out, if_pos (.inl k1)])
      clear k1
      go_wp2_with fail
      go_returns
      rw [E1.out]
      exact gave_no HL.out HK.out
    · by_cases k2 : n < 0
      · have d1 : decide (at' < 0) = false := decide_eq_false k1
        have d2 : decide (n < 0) = true := decide_eq_true k2
        have E1 : Hid (readM m nm at' n = (1, [])) := Lib.hid (by rw [E.out, if_pos (.inr (.inl k2))])
        clear k1 k2
        go_wp2_with fail
        go_returns
        rw [E1.out]
        exact gave_no HL.out HK.out
      · obtain ⟨p, rfl⟩ : ∃ p : Nat, at' = (p : Int) := ⟨at'.toNat, by omega⟩
        obtain ⟨q, rfl⟩ : ∃ q : Nat, n = (q : Int) := ⟨n.toNat, by omega⟩
        have d1 : decide ((p : Int) < 0) = false := decide_eq_false k1
        have d2 : decide ((q : Int) < 0) = false := decide_eq_false k2
        by_cases k3 : L < p
        · have d3 : decide (L < p) = true := decide_eq_true k3
          have E1 : Hid (readM m nm (p : Int) (q : Int) = (1, [])) := Lib.hid (by rw [E.out, if_pos (.inr (.inr (by rw [← HLL.out]; omega)))])
          clear k1 k2 k3
          go_wp2_with fail
          go_returns
          rw [E1.out]
          exact gave_no HL.out HK.out
        · have d3 : decide (L < p) = false := decide_eq_false k3
          have E1 : Hid (readM m nm (p : Int) (q : Int) = (0, (f.bs.drop p).take q)) := Lib.hid (by
            rw [E.out, if_neg (by rw [← HLL.out]; omega), Int.toNat_natCast, Int.toNat_natCast])
          obtain ⟨A', hA1, hA2, hA3⟩ := drop_at Av L cv p (by omega) hcv hcvm
          obtain ⟨r, hr⟩ : ∃ r, r = L - p := ⟨_, rfl⟩
          obtain ⟨cr, hcr⟩ : ∃ cr, cr = cv - p := ⟨_, rfl⟩
          rw [← hr, ← hcr] at hA3
          rw [← hr] at hA1
          obtain ⟨k, hk⟩ : ∃ k, k = min q r := ⟨_, rfl⟩
          have hmin : min (q : Int) (r : Int) = (k : Int) := by omega
          have hA4 := upto_at A' r cr k (by omega) (by omega) (by unfold maxLen at hcvm ⊢; omega)
          have hxl : ((f.bs.drop p).take q).length = k := by rw [List.length_take, List.length_drop, ← HLL.out]; omega
          have hl2 : Lies W1 W1.heap.size A' (((f.bs.drop p).take q).map vb) := by
            by_cases h0 : k = 0
            · left
              rw [List.map_eq_nil_iff]
              exact List.eq_nil_of_length_eq_zero (by omega)
            · rw [hA1 (by omega)]
              obtain ⟨ad, hada, hadb, hcell⟩ := HLS.out.place (by rw [List.length_map, ← HLL.out]; omega)
              subst hada
              refine .inr ⟨ad.add p, rfl, by rw [add_block]; exact hadb, fun j u hj => ?_⟩
              rw [add_add]
              refine hcell _ _ ?_
              rw [← hj, List.getElem?_map, List.getElem?_map, List.getElem?_take_of_lt, List.getElem?_drop]
              have := (List.getElem?_eq_some_iff.1 hj).1
              rw [List.length_map, hxl] at this
              omega
          have hcl := clone_at A' cr ((f.bs.drop p).take q) W1 hl2 (by rw [hxl]; omega) (fun e => by
            have h1 : Av = none := by rw [e] at hA2; cases Av <;> simp at hA2 ⊢
            obtain ⟨h2, h3⟩ := hnone.out h1
            rw [hxl]
            have := HLL.out
            omega)
          rw [hxl] at hcl
          have HCL := Lib.hid hcl
          have HXL := Lib.hid hxl
          clear k1 k2 k3 hl2 hcl hxl hA1 hA2 hr hcr hk
          go_wp2_with fail
          refine HCL.out.mono ?_
          intro e W2 hm2
          obtain ⟨v2, rfl, hown2, hb2⟩ := hm2
          have hp2 := hown2
          rw [HXL.out] at hp2
          obtain ⟨A2, c2, rfl, hc2, hcm2, _⟩ := own_parts hp2
          have HLP := Lib.hid (LiesP.of_own hp2)
          have HL2 := Lib.hid (HL.out.toAt.below hb2)
          have HK2 := Lib.hid ((HK.out.mono (T := S) fun k hk => by rw [hk]; exact HL.out.sg).trans (T := fun _ => False) (below_keep hb2) fun _ _ h => h.elim)
          have HC2 := Lib.hid hc2
          have HM2 := Lib.hid hcm2
          clear hown2 hb2 hp2 hc2 hcm2 HCL
          go_wp2_with fail
          go_returns
          rw [E1.out]
          refine ⟨A2, c2, by rw [HXL.out]; rfl, HLP.out.later (fun _ _ => rfl) fun k hk => ⟨Nat.le_trans HK.out.size hk.1, hk.2.1⟩, by rw [HXL.out]; exact HC2.out, HM2.out, HL2.out, HK2.out⟩
  · have E : Hid (readM m nm at' n = (gone m [nm] (look fs nm), [])) := Lib.hid (onFile_no HT.out hne)
    have d1 : ((gone m [nm] (look fs nm) : Int) != 0) = true := by rw [bne_iff_ne]; omega
    clear hk1 hL1 HF hne
    go_wp2_with fail
    go_returns
    rw [E.out]
    exact gave_no HL.out HK.out
end
end Go.Proofs.YtnbknihaefkllaaGreatDoor.Dk
/- A file more: what becomes of the disk. -/
namespace Go.Proofs.YtnbknihaefkllaaGreatDoor.Dk
set_option linter.unusedVariables false
set_option linter.unusedSimpArgs false
open Go.RowKit Go.Maps Lift Ik

/-- A file more, where its name comes in order. -/
def insM (f : FM) : List FM → List FM
  | [] => [f]
  | y :: r => if (kl f.nm).before (kl y.nm) then f :: y :: r else y :: insM f r
def insF (f : Fi) : List Fi → List Fi
  | [] => [f]
  | y :: r => if (kl f.nm).before (kl y.nm) then f :: y :: r else y :: insF f r
theorem insF_told (f : Fi) : ∀ l : List Fi, (insF f l).map Fi.m = insM f.m (l.map Fi.m)
  | [] => rfl
  | y :: r => by
    unfold insF
    rw [List.map_cons]
    unfold insM
    show List.map Fi.m (if (kl f.nm).before (kl y.nm) = true then _ else _) = if (kl f.nm).before (kl y.nm) = true then _ else _
    split
    · rfl
    · rw [List.map_cons, insF_told f r]
theorem insF_ent (f : Fi) : ∀ l : List Fi, (insF f l).map ent = DataW.insert (ent f) (l.map ent)
  | [] => rfl
  | y :: r => by
    unfold insF
    rw [List.map_cons]
    unfold DataW.insert
    show List.map ent (if (kl f.nm).before (kl y.nm) = true then _ else _) = if (kl f.nm).before (kl y.nm) = true then _ else _
    split
    · rfl
    · rw [List.map_cons, insF_ent f r]
theorem insF_length (f : Fi) : ∀ l : List Fi, (insF f l).length = l.length + 1
  | [] => rfl
  | y :: r => by unfold insF; split <;> simp [insF_length f r]
theorem insM_length (f : FM) : ∀ l : List FM, (insM f l).length = l.length + 1
  | [] => rfl
  | y :: r => by unfold insM; split <;> simp [insM_length f r]
theorem insF_mem (f x : Fi) : ∀ l : List Fi, x ∈ insF f l ↔ x = f ∨ x ∈ l
  | [] => by simp [insF]
  | y :: r => by
    unfold insF
    split
    · simp
    · rw [List.mem_cons, insF_mem f x r, List.mem_cons]
      constructor
      · rintro (h | h | h) <;> simp [h]
      · rintro (h | h | h) <;> simp [h]
theorem insF_pair {f : Fi} : ∀ {l : List Fi}, l.Pairwise sep → (∀ x, x ∈ l → sep f x) → (insF f l).Pairwise sep
  | [], _, _ => by simp [insF]
  | y :: r, hp, hf => by
    obtain ⟨h1, h2⟩ := List.pairwise_cons.1 hp
    unfold insF
    split
    · exact List.pairwise_cons.2 ⟨hf, hp⟩
    · refine List.pairwise_cons.2 ⟨fun x hx => ?_, insF_pair h2 fun x hx => hf x (by simp [hx])⟩
      rcases (insF_mem f x r).1 hx with rfl | hx
      · exact sep_symm (hf y (by simp))
      · exact h1 x hx
theorem used_insM (f : FM) : ∀ l : List FM, used (insM f l) = used l + f.bs.length
  | [] => by simp [insM, used]
  | y :: r => by
    have e : ∀ (b : FM) (r : List FM), used (b :: r) = b.bs.length + used r := fun b r => by simp [used]
    unfold insM
    split
    · rw [e, e]; omega
    · rw [e, e, used_insM f r]; omega
theorem put_ins {f f' : FM} (hn : f'.nm = f.nm) : ∀ {l : List FM}, (∀ x, x ∈ l → x.nm ≠ f.nm) → put1 (insM f l) f' = insM f' l
  | [], _ => by simp [insM, put1, hn]
  | y :: r, h => by
    have hy : ¬ y.nm = f'.nm := fun e => h y (by simp) (e.trans hn)
    have hr : put1 r f' = r := by
      unfold put1
      conv => rhs; rw [← List.map_id r]
      refine List.map_congr_left fun x hx => ?_
      show (if x.nm = f'.nm then f' else x) = x
      rw [if_neg fun e => h x (by simp [hx]) (e.trans hn)]
    have ih := put_ins hn (l := r) fun x hx => h x (by simp [hx])
    unfold insM
    rw [hn]
    split
    · show put1 (f :: y :: r) f' = _
      have : put1 (f :: y :: r) f' = f' :: y :: put1 r f' := by unfold put1; rw [List.map_cons, List.map_cons, if_pos hn.symm, if_neg hy]
      rw [this, hr]
    · have : put1 (y :: insM f r) f' = y :: put1 (insM f r) f' := by unfold put1; rw [List.map_cons, if_neg hy]
      rw [this, ih]
theorem get_none {l : List FM} {nm : ByteArray} : get l nm = none ↔ ∀ x, x ∈ l → x.nm ≠ nm := by
  unfold get
  rw [List.find?_eq_none]
  constructor
  · intro h x hx e; exact h x hx (by simp [e])
  · intro h x hx e; exact h x hx (by simpa using e)
theorem look_none {l : List Fi} {nm : ByteArray} : look l nm = none ↔ ∀ x, x ∈ l → x.nm ≠ nm := by
  unfold look
  rw [List.find?_eq_none]
  constructor
  · intro h x hx e; exact h x hx (by simp [e])
  · intro h x hx e; exact h x hx (by simpa using e)
theorem put_ent {fs : List Fi} {nm : ByteArray} (h : ∀ x, x ∈ fs → x.nm ≠ nm) (d : DataW Unit) : (DataW.map (fs.map ent)).put (kl nm) d = .map (DataW.insert (kl nm, d) (fs.map ent)) := by
  unfold DataW.put
  simp only
  rw [List.filter_eq_self.2]
  intro p hp
  obtain ⟨x, hx, rfl⟩ := List.mem_map.1 hp
  show (!(kl x.nm).sameKey (kl nm)) = true
  rw [kl_same, decide_eq_false (h x hx)]
  rfl
/-- How many entries a map has is no bound but the number. -/
theorem tight {w : World} {b n : Nat} {D : DataW Unit} (h : w.ownsMap Tryz.prog 9 ptrR b n D) : w.ownsMap Tryz.prog 9 ptrR b (Maps.size D) D := by
  obtain ⟨es, clock, hb, F, hs, hD⟩ := h
  exact ⟨es, clock, hb, F, by rw [hD]; simp [Maps.size, length_sorted], hD⟩
theorem used_le {l : List FM} (h : ∀ f, f ∈ l → f.bs.length ≤ 16777216) : used l ≤ l.length * 16777216 := by
  induction l with
  | nil => simp [used]
  | cons a l ih =>
    have e : used (a :: l) = a.bs.length + used l := by simp [used]
    have h1 := h a (by simp)
    have h2 := ih fun f hf => h f (by simp [hf])
    rw [e, List.length_cons]
    omega

section
variable {w w' : World} {g : Nat} {S S' T : Nat → Prop} {m : MS} {fs : List Fi} {M : Option Nat} {A : Option Addr} {c : Nat}
theorem Lay.used_le (h : Lay w g S m fs M A c) : used m.fs ≤ 16777216000 := by
  have := Dk.used_le (l := m.fs) fun f hf => by
    rw [h.told] at hf
    obtain ⟨x, hx, rfl⟩ := List.mem_map.1 hf
    exact (h.files.ok x hx).len
  have := h.many
  omega
/-- The blocks of the disk's struct and of its map. -/
def Hd (g : Nat) (M : Option Nat) (k : Nat) : Prop := k = g ∨ M = some k
theorem Files.head_apart {us : List Value} (h : Files w S M fs) (hb : Box w g Ty.disk us) (x : Fi) (hx : x ∈ fs) : ¬ Hd g M x.blk ∧ ∀ k, x.v.ownBlock = some k → ¬ Hd g M k := by
  have o1 := h.ok x hx
  have hm : ∀ k, M = some k → ∃ es clock, w.heap[k]? = some (.map es clock) := fun k hk => by
    rcases h.map with ⟨h0, _⟩ | ⟨b, hM, hs, hm⟩
    · rw [h0] at hk; cases hk
    · rw [hM] at hk
      cases hk
      obtain ⟨es, clock, hh, _⟩ := hm
      exact ⟨es, clock, hh⟩
  constructor
  · rintro (e | e)
    · have h1 := o1.box
      rw [e] at h1
      exact typed hb h1 (by decide)
    · obtain ⟨es, clock, h1⟩ := hm _ e
      have h2 := o1.box
      unfold Box at h2
      rw [h1] at h2
      cases h2
  · intro k hk
    obtain ⟨_, cs, fr, h1⟩ := o1.bytes hk
    rintro (e | e)
    · subst e; exact typed hb h1 (by decide)
    · obtain ⟨es, clock, h2⟩ := hm _ e
      rw [h1] at h2
      cases h2
theorem Lay.head_not_ints (h : Lay w g S m fs M A c) (k : Nat) (hk : Hd g M k) : ¬ ∃ cs fr, w.heap[k]? = some (.cells cs 3 fr) := by
  rintro ⟨cs, fr, h1⟩
  rcases hk with e | e
  · subst e; exact typed h.box h1 (by decide)
  · rcases h.files.map with ⟨h0, _⟩ | ⟨b, hM, hs, hm⟩
    · rw [h0] at e; cases e
    · rw [hM] at e
      cases e
      obtain ⟨es, clock, hh, _⟩ := hm
      rw [hh] at h1
      cases h1
/-- A file more. -/
theorem Lay.add {f0 : Fi} {b : Nat} (h : Lay w g S m fs M A c) (hk : Keep (Hd g M) w w') (hok : f0.ok w' S') (hnew : w.heap.size ≤ f0.blk) (hv : f0.v = .slice none 0 0) (hno : ∀ x, x ∈ fs → x.nm ≠ f0.nm)
    (hmap : w'.ownsMap Tryz.prog 9 ptrR b (fs.length + 1) (.map ((insF f0 fs).map ent))) (hsb : S' b) (hS : ∀ k, S k → S' k) (hlt : ∀ k, S' k → k < w'.heap.size)
    (hb : Box w' g Ty.disk [.int .i64 (m.room : Int), .int .i64 (used m.fs : Int), .map (some b), .slice A m.armed.length c, .int .i64 (m.failed : Int)]) (h0 : f0.bs = []) (hn : fs.length + 1 ≤ 1000) :
    Lay w' g S' { m with fs := insM f0.m m.fs } (insF f0 fs) (some b) A c := by
  have hu : used (insM f0.m m.fs) = used m.fs := by
    rw [used_insM]
    have : f0.m.bs = [] := h0
    rw [this]
    rfl
  refine ⟨by show Box _ _ _ [_, .int .i64 (used (insM f0.m m.fs) : Int), _, _, _]; rw [hu]; exact hb, hS g h.sg, ⟨.inr ⟨b, rfl, hsb, by rw [insF_length]; exact hmap⟩, fun x hx => ?_, ?_⟩, by rw [insF_told, ← h.told],
    h.armed.keep hk (fun k ht _ => h.head_not_ints k ht) hS, h.cap, h.capm, h.wf, hlt, h.room, by show used (insM f0.m m.fs) ≤ _; rw [hu]; exact h.fits, ?_⟩
  · rcases (insF_mem f0 x fs).1 hx with rfl | hx
    · exact hok
    · obtain ⟨n1, n2⟩ := h.files.head_apart h.box x hx
      exact (h.files.ok x hx).keep0 hk n1 n2 hS
  · refine insF_pair h.files.sep fun x hx => ⟨fun e => ?_, fun e => hno x hx e.symm, fun k hk1 => ?_⟩
    · have := (h.files.ok x hx).box.lt
      omega
    · rw [hv] at hk1
      simp [Value.ownBlock] at hk1
  · show (insM f0.m m.fs).length ≤ 1000
    rw [insM_length, h.told, List.length_map]
    exact hn
end
end Go.Proofs.YtnbknihaefkllaaGreatDoor.Dk
