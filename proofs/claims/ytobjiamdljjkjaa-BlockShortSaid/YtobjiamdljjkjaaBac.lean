/- Entries in a slice of the call's own. -/
import Derived.Test.YtobjiamdljjkjaaSfn2
namespace Go.Proofs.Ytobjiamdljjkjaa.Sk
set_option linter.unusedVariables false
set_option linter.unusedSimpArgs false
open Go.RowKit Lift Ik
section
variable {w w' : World}
theorem own_blk {e : TypeId} {v : Value} {base n size k : Nat} {xs : List Value} (h : w.ownsRow base e size v n xs) (hk : v.ownBlock = some k) : ∃ cs fr, w.heap[k]? = some (.cells cs e fr) := by
  rcases h.2 with ⟨rfl, _⟩ | ⟨g', cap, cur, rfl, _, hh, _⟩
  · simp [Value.ownBlock] at hk
  · simp [Value.ownBlock] at hk
    subst hk
    exact ⟨_, _, hh⟩
theorem own_same {e : TypeId} {v : Value} {base n size : Nat} {xs : List Value} (h : w.ownsRow base e size v n xs) (hk : ∀ k, v.ownBlock = some k → w'.heap[k]? = w.heap[k]?) : w'.ownsRow base e size v n xs := by
  refine ⟨h.1, ?_⟩
  rcases h.2 with h0 | ⟨b, cap, cur, hv, hB, hh, r⟩
  · exact .inl h0
  · exact .inr ⟨b, cap, cur, hv, hB, (hk b (by rw [hv]; simp [Value.ownBlock])).trans hh, r⟩
end
abbrev kbox (A : Option Addr) (c : Nat) (k : K) : Obj := .cells #[.slice A k.key.length c, .int .u64 (k.seq : Int), .int .i64 k.kind] 38
theorem load_kbox {A : Option Addr} {c : Nat} {k : K} (W W' : World) (h : W'.heap[W.heap.size]? = (W.alloc (kbox A c k)).heap[W.heap.size]?) : W'.cell? ⟨W.heap.size, 0, none⟩ = some (.slice A k.key.length c) ∧ W'.cell? ⟨W.heap.size, 1, none⟩ = some (.int .u64 (k.seq : Int)) ∧ W'.cell? ⟨W.heap.size, 2, none⟩ = some (.int .i64 k.kind) := by
  have hc : ∀ (j : Nat), W'.cell? ⟨W.heap.size, j, none⟩ = (W.alloc (kbox A c k)).cell? ⟨W.heap.size, j, none⟩ := fun j => by simp only [World.cell?]; rw [h]
  have b := Lift.Box.new W 38 (KD.cells ⟨A, c, k⟩)
  exact ⟨(hc 0).trans (b.cell 0), (hc 1).trans (b.cell 1), (hc 2).trans (b.cell 2)⟩
/-- Entries in a slice of the call's own. -/
structure Ac (B : Nat) (w : World) (v : Value) (L : List D) : Prop where
  own : w.ownsRow B 48 4 v L.length (cellsL L)
  ok : ∀ d, d ∈ L → d.Ok w (Fresh B w)
section
variable {B : Nat} {w w' : World} {v : Value} {L : List D}
theorem Ac.nil (B : Nat) (w : World) : Ac B w (.slice none 0 0) [] := ⟨World.ownsRow_nil _ _ _ _, by simp⟩
theorem Ac.below (h : Ac B w v L) (hb : Below w.heap.size w w') : Ac B w' v L := ⟨own_later h.own hb, fun d hd => (h.ok d hd).later (fun k hk => hb.block k hk.2.1) fun k hk => Fresh.below hb k hk⟩
/-- One entry more: append(entries, entry). -/
theorem Ac.more (h : Ac B w v L) {d : D} (hd : d.Ok w (Fresh B w)) (hB : B ≤ w.heap.size) (hL : L.length ≤ 100000000) :
    ∃ v' w', Sem.run Try.prog (Builtin.append_ #[22, 22] 22 #[v, .slice (some ⟨w.heap.size, 0, none⟩) 1 1]) (w.alloc (ebox d)) = .ok v' w' ∧ Ac B w' v' (L ++ [d]) ∧ Below B w w' := by
  have hb := below_box w d
  have hl : Lies (w.alloc (ebox d)) (w.heap.size + 1) (some ⟨w.heap.size, 0, none⟩) d.cells := lies_block (cs := d.cells.toArray) (heap_alloc_new w _) (Nat.lt_succ_self _)
  have h1 := h.below hb
  obtain ⟨v', w', hr, ho, hon⟩ := run_append_onto (P := Try.prog) (m := 1) (c := 1) 22 22 48 (.agg #[.slice none 0 0, .int .u64 0, .int .i64 0, .slice none 0 0]) 4 64 Try.underlying22 (by kernel_rfl) rfl (by decide)
    (fun u hu => by simp [D.cells] at hu; rcases hu with rfl | rfl | rfl | rfl <;> rfl) h1.own hl rfl (by unfold maxLen; omega) (by omega) (Nat.le_trans hB hb.size)
  have hbel : Below B w w' := (hb.mono hB).trans (hon.below h1.own (Nat.le_trans hB hb.size))
  refine ⟨v', w', hr, ⟨by rw [List.length_append, cellsL_append]; simpa [cellsL] using ho, fun e he => ?_⟩, hbel⟩
  have hk : ∀ k, Fresh B w k → w'.heap[k]? = w.heap[k]? := fun k ⟨_, h2, cs, fr, h3⟩ => by
    rw [hon.keep.block k (Nat.lt_of_lt_of_le h2 hb.size) (fun hv => ?_), hb.block k h2]
    obtain ⟨cs2, fr2, h4⟩ := own_blk h1.own hv
    rw [hb.block k h2, h3] at h4
    injection h4 with h4
    injection h4 with _ h4
    exact absurd h4 (by decide)
  have hf : ∀ k, Fresh B w k → Fresh B w' k := fun k hk2 => by
    obtain ⟨h1, h2, cs, fr, h3⟩ := hk2
    exact ⟨h1, Nat.lt_of_lt_of_le h2 hbel.size, cs, fr, (hk k ⟨h1, h2, cs, fr, h3⟩).trans h3⟩
  rcases List.mem_append.1 he with he | he
  · exact (h.ok e he).later hk hf
  · simp at he
    subst he
    exact hd.later hk hf
/-- Entries are told, in new memory. -/
def Gave (w : World) (ts : List T) (e : Ending) (w' : World) : Prop := ∃ (A : Option Addr) (c : Nat) (L : List D), e = .returned (.slice A L.length c) ∧ L.map D.t = ts ∧ Ents w' (fun k => w.heap.size ≤ k ∧ k < w'.heap.size) A c L ∧ Below w.heap.size w w'
theorem Ac.gave {w0 : World} (h : Ac w0.heap.size w v L) (hb : Below w0.heap.size w0 w) : ∃ (A : Option Addr) (c : Nat), v = .slice A L.length c ∧ Gave w0 (L.map D.t) (.returned v) w := by
  obtain ⟨A, c, rfl, hc, hm, _⟩ := own_parts h.own
  exact ⟨A, c, rfl, A, c, L, rfl, rfl, ⟨(LiesP.of_own h.own).later (fun _ _ => rfl) fun k hk => ⟨hk.1, hk.2.1⟩, hc, hm, fun d hd => (h.ok d hd).mono fun k hk => ⟨hk.1, hk.2.1⟩⟩, hb⟩
end
end Go.Proofs.Ytobjiamdljjkjaa.Sk
