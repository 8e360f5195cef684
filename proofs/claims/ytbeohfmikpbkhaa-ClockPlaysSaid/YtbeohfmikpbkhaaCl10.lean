/- The document's cache: a slot more, in memory (the end of Put). -/
import Derived.Test.YtbeohfmikpbkhaaCl9
namespace Go.Proofs.Ytbeohfmikpbkhaa.Ck
set_option linter.unusedVariables false
set_option linter.unusedSimpArgs false
open Go.RowKit Lift Ik
section
variable {w : World} {g room hand c : Nat} {Z : Nat → Prop} {L : List D} {A : Option Addr}
theorem RLay.grow {Ab : Option Addr} {cb : Nat} {bs : List Nat} (f a : Int) (h : RLay w g Z room hand L A c) (hb : Lies w w.heap.size Ab (bs.map vb)) (h8 : ∀ x, x ∈ bs → x < 256) (hbs : bs.length ≤ 100) (hm : L.length + 1 ≤ 1000) :
    ∃ A1 c1 V1 A2 c2 V2 A4 c4 V4, Sem.run Try.prog (Builtin.append_ #[48, 48] 48 #[.slice none 0 0, .slice A L.length c]) w = .ok (.slice A1 L.length c1) V1 ∧
      Sem.run Try.prog (Builtin.append_ #[28, 28] 28 #[.slice none 0 0, .slice Ab bs.length cb]) V1 = .ok (.slice A2 bs.length c2) V2 ∧
      Sem.run Try.prog (Builtin.append_ #[48, 48] 48 #[.slice A1 L.length c1, .slice (some ⟨V2.heap.size, 0, none⟩) 1 1]) (V2.alloc (.cells #[.int .i64 f, .int .i64 a, .slice A2 bs.length c2, .int .i64 1, .bool true] Ty.slot)) = .ok (.slice A4 (L.length + 1) c4) V4 ∧
      Lift.Box V4 g Ty.rcache [vi room, .slice A L.length c, vi hand] ∧ Below w.heap.size w V4 ∧
      RLay (V4.setCell ⟨g, 1, none⟩ (.slice A4 (L.length + 1) c4)) g (fun k => Z k ∨ (w.heap.size ≤ k ∧ k < V4.heap.size)) room hand (L ++ [⟨A2, c2, ⟨f, a, bs, 1, true⟩⟩]) A4 c4 ∧ Keep Z w (V4.setCell ⟨g, 1, none⟩ (.slice A4 (L.length + 1) c4)) := by
  obtain ⟨v1, V1, hr1, ho1, hb1, _⟩ := run_append_lies (P := Try.prog) (w := w) (base := w.heap.size) (m := L.length) (c := c) 48 48 Ty.slot (.agg #[.int .i64 0, .int .i64 0, .slice none 0 0, .int .i64 0, .bool false]) 5 56 Try.underlying48 (by kernel_rfl) rfl (by decide) cellsL_one
    (World.ownsRow_nil _ _ _ _) (Lies.of_own h.own) (by rw [cellsL_length]) (by unfold maxLen; omega) (by omega) (Nat.le_refl _)
  rw [Nat.zero_add, List.nil_append] at ho1
  obtain ⟨A1, c1, rfl, -, -, -⟩ := own_parts ho1
  obtain ⟨A2, c2, V2, hr2, ho2, hb2⟩ := fresh_bytes Ab cb w.heap.size bs V1 (hb.below hb1) (by omega)
  have hwV2 : Below w.heap.size w V2 := hb1.trans (hb2.mono hb1.size)
  have hba := Joins.below_alloc1 V2 (.cells #[.int .i64 f, .int .i64 a, .slice A2 bs.length c2, .int .i64 1, .bool true] Ty.slot)
  have hl : Lies (V2.alloc (.cells #[.int .i64 f, .int .i64 a, .slice A2 bs.length c2, .int .i64 1, .bool true] Ty.slot)) (V2.heap.size + 1) (some ⟨V2.heap.size, 0, none⟩) [.int .i64 f, .int .i64 a, .slice A2 bs.length c2, .int .i64 1, .bool true] :=
    lies_block (cs := #[.int .i64 f, .int .i64 a, .slice A2 bs.length c2, .int .i64 1, .bool true]) (heap_alloc_new V2 _) (Nat.lt_succ_self _)
  have ho1' := own_later (own_later ho1 hb2) hba
  obtain ⟨v4, V4, hr4, ho4, hon4⟩ := run_append_onto (P := Try.prog) (B := V2.heap.size + 1) (m := 1) (c := 1) 48 48 Ty.slot (.agg #[.int .i64 0, .int .i64 0, .slice none 0 0, .int .i64 0, .bool false]) 5 56 Try.underlying48 (by kernel_rfl) rfl (by decide)
    (fun u hu => by simp at hu; rcases hu with rfl | rfl | rfl | rfl | rfl <;> rfl) ho1' hl rfl (by unfold maxLen; omega) (by omega) (Nat.le_trans hwV2.size hba.size)
  have hwA : Below w.heap.size w (V2.alloc (.cells #[.int .i64 f, .int .i64 a, .slice A2 bs.length c2, .int .i64 1, .bool true] Ty.slot)) := hwV2.trans (hba.mono hwV2.size)
  have hwV4 : Below w.heap.size w V4 := hwA.trans (hon4.below ho1' hwA.size)
  obtain ⟨A4, c4, rfl, -, -, -⟩ := own_parts ho4
  have hcell : cellsL L ++ [.int .i64 f, .int .i64 a, .slice A2 bs.length c2, .int .i64 1, .bool true] = cellsL (L ++ [⟨A2, c2, ⟨f, a, bs, 1, true⟩⟩]) := by rw [cellsL_append]; rfl
  rw [hcell] at ho4
  have hs2 : V1.heap.size ≤ V2.heap.size := hb2.size
  have hsA := hba.size
  have hs4 := hon4.keep.size
  have hs1 := hb1.size
  -- the bytes behind the last append
  have hoA := own_later ho2 hba
  have ho24 : V4.ownsRow V1.heap.size 5 1 (.slice A2 bs.length c2) bs.length (bs.map vb) :=
    own_kept hoA hon4.keep fun k hk e => own_two ho1' hoA (by decide) e hk
  obtain ⟨_, _, hv2, hc2, hm2, _⟩ := own_parts ho24
  injection hv2 with _ _ hv2
  subst hv2
  have hnew := h.renew (L' := L ++ [⟨A2, c2, ⟨f, a, bs, 1, true⟩⟩]) hwV4 ho4 (by simp) (by simpa using hm) (fun d hd => by
    rcases List.mem_append.1 hd with hd | hd
    · exact (h.ok d hd).later (fun k hk => hwV4.block k (h.lt k hk.1)) fun k hk => .inl ⟨hk.1, hk.2.1⟩
    · rw [List.mem_singleton.1 hd]
      refine ⟨(LiesP.of_own ho24).later (fun _ _ => rfl) fun k hk => .inr ⟨by omega, hk.2.1, fun ad e hk2 => ?_⟩, hc2, hm2, h8, hbs, by simp⟩
      obtain ⟨_, _, cs, fr, hcs⟩ := hk
      subst hk2
      rcases ho4.2 with ⟨h0, _⟩ | ⟨g', cap, cur, hv, _, hh, _⟩
      · omega
      · injection hv with hv
        rw [e] at hv
        injection hv with hv
        rw [hv] at hcs
        rw [hcs] at hh
        injection hh with hh
        injection hh with _ hh
        exact absurd hh (by decide))
  exact ⟨A1, c1, V1, A2, c2, V2, A4, c4, V4, hr1, hr2, hr4, h.box.below hwV4 (h.lt g h.sg), hwV4, hnew.1, hnew.2⟩
end
end Go.Proofs.Ytbeohfmikpbkhaa.Ck
