/- The records that All has read, in memory, and one more. -/
import Derived.Test.YtkmelhgpngochaaDoorFnext
import Derived.Test.YtkmelhgpngochaaDoorSeqs
import Derived.Test.YtkmelhgpngochaaDoorGoto
namespace Go.Proofs.YtkmelhgpngochaaDoor.Fr
set_option linter.unusedVariables false
set_option linter.unusedSimpArgs false
open Go.RowKit Lift Ik Sq
/-- Records in a slice vr of the call's own, outside of the blocks of vn and g. -/
structure Acc (B : Nat) (w : World) (g : Option Nat) (vr vn : Value) (L : List E) : Prop where
  own : w.ownsRow B 22 1 vr L.length (L.map E.v)
  each : ∀ e, e ∈ L → LiesP w (fun k => k < w.heap.size ∧ ¬ vr.ownBlock = some k ∧ ¬ vn.ownBlock = some k ∧ ¬ g = some k) e.a (e.bs.map vb) ∧ e.bs.length ≤ e.c ∧ e.c ≤ maxLen ∧ ∀ x, x ∈ e.bs → x < 256
  gr : ∀ j, g = some j → ¬ vr.ownBlock = some j
section
variable {B : Nat} {g : Option Nat} {w w' : World} {vr vn vn' : Value} {L : List E}
theorem Acc.nil (B : Nat) (g : Option Nat) (w : World) (vn : Value) : Acc B w g (.slice none 0 0) vn [] := ⟨World.ownsRow_nil _ _ _ _, by simp, by simp [Value.ownBlock]⟩
/-- Other blocks are written: g's, or new ones. -/
theorem Acc.keep (h : Acc B w g vr vn L) (hk : Keep (fun k => g = some k) w w') : Acc B w' g vr vn L :=
  ⟨own_kept h.own hk fun k hk2 e => h.gr k e hk2, fun e he => ⟨LiesP.later (h.each e he).1 (fun k hh => hk.block k hh.1 hh.2.2.2) fun k hh => ⟨Nat.lt_of_lt_of_le hh.1 hk.size, hh.2⟩, (h.each e he).2⟩, h.gr⟩
/-- The record under way is another one, in new memory or none. -/
theorem Acc.other (h : Acc B w g vr vn L) (hn : ∀ k, vn'.ownBlock = some k → w.heap.size ≤ k) : Acc B w g vr vn' L :=
  ⟨h.own, fun e he => ⟨LiesP.later (h.each e he).1 (fun _ _ => rfl) fun k hh => ⟨hh.1, hh.2.1, fun e2 => by have := hn k e2; omega, hh.2.2.2⟩, (h.each e he).2⟩, h.gr⟩
theorem Acc.fresh (h : Acc B w g vr vn L) (hb : Below w.heap.size w w') : Acc B w' g vr vn L :=
  ⟨own_later h.own hb, fun e he => ⟨LiesP.later (h.each e he).1 (fun k hh => hb.block k hh.1) fun k hh => ⟨Nat.lt_of_lt_of_le hh.1 hb.size, hh.2⟩, (h.each e he).2⟩, h.gr⟩
/-- The record under way grew. -/
theorem Acc.grew {n : Nat} {xs : List Value} (h : Acc B w g vr vn L) (ho : Onto vn vn' w w') (hown : w.ownsRow B 5 1 vn n xs) : Acc B w' g vr vn' L :=
  ⟨own_kept h.own ho.keep fun k hk e => own_two h.own hown (by decide) hk e,
   fun e he => ⟨LiesP.later (h.each e he).1 (fun k hh => ho.at_block hh.1 hh.2.2.1) fun k hh => ⟨Nat.lt_of_lt_of_le hh.1 ho.keep.size, hh.2.1, ho.off hh.1 hh.2.2.1, hh.2.2.2⟩, (h.each e he).2⟩, h.gr⟩
/-- One record more: append(records, record). -/
theorem Acc.more {A : Option Addr} {c : Nat} {bs : List Nat} (h : Acc B w g vr (.slice A bs.length c) L) (hown : w.ownsRow B 5 1 (.slice A bs.length c) bs.length (bs.map vb)) (hgB : ∀ j, g = some j → j < B)
    (hc : bs.length ≤ c) (hcm : c ≤ maxLen) (h8 : ∀ x, x ∈ bs → x < 256) (hB : B ≤ w.heap.size) (hL : L.length ≤ 2000000) :
    ∃ v' w', Sem.run Tryd.prog (Builtin.append_ #[26, 26] 26 #[vr, .slice (some ⟨w.heap.size, 0, none⟩) 1 1]) (w.alloc (.cells #[.slice A bs.length c] 22)) = .ok v' w' ∧ Acc B w' g v' (.slice none 0 0) (L ++ [⟨A, c, bs⟩]) ∧ Onto vr v' w w' := by
  have hb := Joins.below_alloc1 w (.cells #[.slice A bs.length c] 22)
  have hl : Lies (w.alloc (.cells #[.slice A bs.length c] 22)) (w.heap.size + 1) (some ⟨w.heap.size, 0, none⟩) [.slice A bs.length c] :=
    lies_block (cs := #[.slice A bs.length c]) (heap_alloc_new w _) (Nat.lt_succ_self _)
  obtain ⟨v', w', h1, h2, h3⟩ := run_append_onto (P := Tryd.prog) (m := 1) (c := 1) 26 26 22 (.slice none 0 0) 1 24 Tryd.underlying26 (by kernel_rfl) rfl (by decide)
      (fun u hu => by simp at hu; subst hu; rfl) (own_later h.own hb) hl (by simp) (by unfold maxLen; omega) (by omega) (Nat.le_trans hB hb.size)
  have hon := Onto.pre hb h3
  refine ⟨v', w', h1, ⟨?_, fun e he => ?_, fun j hj => hon.off (Nat.lt_of_lt_of_le (hgB j hj) hB) (h.gr j hj)⟩, hon⟩
  · rw [List.length_append, List.map_append]
    exact h2
  · rcases List.mem_append.1 he with he | he
    · obtain ⟨e1, e2⟩ := h.each e he
      exact ⟨LiesP.later e1 (fun k hh => hon.at_block hh.1 hh.2.1) fun k hh => ⟨Nat.lt_of_lt_of_le hh.1 hon.keep.size, hon.off hh.1 hh.2.1, by simp [Value.ownBlock], hh.2.2.2⟩, e2⟩
    · simp at he
      subst he
      refine ⟨?_, hc, hcm, h8⟩
      have typed : ∀ k, (B ≤ k ∧ k < w.heap.size ∧ ∃ cs fr, w.heap[k]? = some (.cells cs 5 fr)) → ¬ vr.ownBlock = some k ∧ ¬ g = some k := by
        rintro k ⟨hBk, _, cs, fr, hk⟩
        constructor
        · intro e
          rcases h.own.2 with ⟨h0, _⟩ | ⟨g', cap, cur, hv, _, hh, _⟩
          · rw [h0] at e; simp [Value.ownBlock] at e
          · rw [hv] at e
            simp [Value.ownBlock] at e
            subst e
            rw [hh] at hk
            injection hk with hk
            injection hk with _ h5
            exact absurd h5 (by decide)
        · intro e
          have := hgB k e
          omega
      refine LiesP.later (LiesP.of_own hown) (fun k hh => hon.at_block hh.2.1 (typed k hh).1) fun k hh => ⟨Nat.lt_of_lt_of_le hh.2.1 hon.keep.size, hon.off hh.2.1 (typed k hh).1, by simp [Value.ownBlock], (typed k hh).2⟩
theorem Acc.seqs (h : Acc B w g vr vn L) : ∃ A c, vr = .slice A L.length c ∧ Seqs w w.heap.size A c L := by
  obtain ⟨A, c, rfl, h1, h2, h3⟩ := own_parts h.own
  exact ⟨A, c, rfl, h3, h1, h2, fun e he => ⟨LiesP.lies (h.each e he).1 fun k hk => hk.1, (h.each e he).2.1, (h.each e he).2.2.1, (h.each e he).2.2.2⟩⟩
end
/-- What All tells of bytes. -/
def Told (w : World) (b : List Nat) (e : Ending) (w' : World) : Prop :=
  ∃ (A : Option Addr) (c : Nat) (L : List E) (n cl : Nat), e = .returned (.tuple #[.slice A L.length c, .int .i64 (n : Int), .int .i64 (cl : Int)]) ∧ Seqs w' w'.heap.size A c L ∧ Rd b 0 false [] 0 [] (L.map (·.bs), n, cl) ∧ Below w.heap.size w w'
/-- The place of the reader in memory. -/
def pos (g : Nat) (w : World) : Nat := match w.cell? ⟨g, 1, none⟩ with | some (.int _ n) => n.toNat | _ => 0
theorem pos_of {w : World} {g c a cs : Nat} {A As : Option Addr} {b : List Nat} (h : Rr w g A c b a As cs) : pos g w = a := by
  unfold pos
  rw [h.box.cell 1]
  simp
/-- What holds at the labels. -/
def At (B : Nat) (g : Nat) (A : Option Addr) (c : Nat) (b : List Nat) (As : Option Addr) (cs : Nat) (l : Nat) (v5 v6 v7 v8 v9 : Value) (w : World) : Prop :=
  (l = 0 ∧ ∃ (L : List E) (n a : Nat), v8 = .int .i64 (n : Int) ∧ Acc B w (some g) v5 (.slice none 0 0) L ∧ Rr w g A c b a As cs ∧ L.length ≤ a ∧ ∀ R, Rd b a false [] n (L.map (·.bs)) R → Rd b 0 false [] 0 [] R) ∨
  (l = 3 ∧ ∃ (L : List E) (n a : Nat) (now : List Nat), v8 = .int .i64 (n : Int) ∧ w.ownsRow B 5 1 v6 now.length (now.map vb) ∧ Acc B w (some g) v5 v6 L ∧ Rr w g A c b a As cs ∧ L.length + 1 ≤ a ∧ now.length ≤ a ∧ (∀ x, x ∈ now → x < 256) ∧ ∀ R, Rd b a true now n (L.map (·.bs)) R → Rd b 0 false [] 0 [] R) ∨
  (l = 2 ∧ ∃ (L : List E) (n a : Nat) (now d : List Nat) (ad : Addr) (cd : Nat), v8 = .int .i64 (n : Int) ∧ v7 = .slice (some ad) d.length cd ∧ w.ownsRow B 5 1 v6 now.length (now.map vb) ∧ Lies w g (some ad) (d.map vb) ∧ (∀ x, x ∈ d → x < 256) ∧ Acc B w (some g) v5 v6 L ∧ Rr w g A c b a As cs ∧ L.length + 1 ≤ a ∧ now.length + d.length ≤ a ∧ (∀ x, x ∈ now → x < 256) ∧ ∀ R, Rd b a false [] a (L.map (·.bs) ++ [now ++ d]) R → Rd b 0 false [] 0 [] R) ∨
  (l = 4 ∧ ∃ (L : List E) (n : Nat) (vn : Value), v8 = .int .i64 (n : Int) ∧ Acc B w (some g) v5 vn L ∧ Rd b 0 false [] 0 [] (L.map (·.bs), n, 2)) ∨
  (l = 1 ∧ ∃ (L : List E) (n cl : Nat) (vn : Value), v8 = .int .i64 (n : Int) ∧ v9 = .int .i64 (cl : Int) ∧ Acc B w (some g) v5 vn L ∧ Rd b 0 false [] 0 [] (L.map (·.bs), n, cl))
def rank (g n l : Nat) (w : World) : Nat := match l with
  | 0 => 10 * (n - pos g w) + 2
  | 3 => 10 * (n - pos g w) + 2
  | 2 => 10 * (n - pos g w) + 3
  | 4 => 1
  | _ => 0
end Go.Proofs.YtkmelhgpngochaaDoor.Fr
