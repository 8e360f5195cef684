/- What the laws on package disk share: the example of the document. -/
import Derived.Test.YtnbknihaefkllaaDmath
import Derived.Lib.SlBytesConst
namespace Go.Proofs.Ytnbknihaefkllaa.Dk
set_option linter.unusedVariables false
set_option linter.unusedSimpArgs false
open Go.RowKit Go.Maps Lift Ik

theorem num_any (n : Int) (w : World) : Calls Try.prog 13 #[.int .i64 n] w fun e w' => e = .returned (.int .i64 n) ∧ w = w' := by
  go_enter Try.func13, Try.ntmps13
  go_wp2
  go_ret
  exact ⟨rfl, rfl⟩

/-- true, and all old memory as it was. -/
def Yes (w : World) (e : Ending) (w' : World) : Prop := e = .returned (.bool true) ∧ Below w.heap.size w w'
abbrev nm (l : List UInt8) : ByteArray := ⟨l.toArray⟩
theorem run_str {w : World} {B c : Nat} {A : Option Addr} {bs : List Nat} (hl : Lies w B A (bs.map vb)) : Sem.run Try.prog (convert 31 9 (.slice A bs.length c)) w = .ok (.string (str bs)) w :=
  run_string_lies (P := Try.prog) (c := c) _ _ 5 Try.underlying31 Try.underlying5 Try.underlying9 hl
/-- A disk of the call's own, in blocks from B on. -/
def Own (B : Nat) (w0 w : World) (g : Nat) (S : Nat → Prop) (m : MS) : Prop := At w g S m ∧ (∀ k, S k → B ≤ k) ∧ Below B w0 w
theorem Own.told {B g : Nat} {w0 w w' : World} {S : Nat → Prop} {m : MS} {r : Nat × MS} {e : Ending} (h : Own B w0 w g S m) (hB : B ≤ w.heap.size) (ht : Told w g S r e w') : ∃ S', e = .returned (.int .i64 (r.1 : Int)) ∧ Own B w0 w' g S' r.2 ∧ Keep S w w' ∧ ∀ k, S' k → S k ∨ w.heap.size ≤ k := by
  obtain ⟨S', he, hA, hK, hS⟩ := ht
  exact ⟨S', he, ⟨hA, fun k hk => (hS k hk).elim (h.2.1 k) fun h1 => Nat.le_trans hB h1, h.2.2.trans (hK.below hB h.2.1)⟩, hK, hS⟩
theorem Own.done {B g : Nat} {w0 w w' : World} {S : Nat → Prop} {m m' : MS} {e : Ending} (h : Own B w0 w g S m) (hB : B ≤ w.heap.size) (ht : Done w g S m' e w') : ∃ S', e = .returned (.tuple #[]) ∧ Own B w0 w' g S' m' ∧ Keep S w w' ∧ ∀ k, S' k → S k ∨ w.heap.size ≤ k := by
  obtain ⟨S', he, hA, hK, hS⟩ := ht
  exact ⟨S', he, ⟨hA, fun k hk => (hS k hk).elim (h.2.1 k) fun h1 => Nat.le_trans hB h1, h.2.2.trans (hK.below hB h.2.1)⟩, hK, hS⟩
theorem Own.gave {B g : Nat} {w0 w w' : World} {S : Nat → Prop} {m m' : MS} {r : Nat × List Nat} {e : Ending} (h : Own B w0 w g S m) (hB : B ≤ w.heap.size) (ht : Gave w g S m' r e w') :
    ∃ (A : Option Addr) (c : Nat), e = .returned (.tuple #[.slice A r.2.length c, .int .i64 (r.1 : Int)]) ∧ LiesP w' (fun k => ¬ S k ∧ B ≤ k ∧ k < w'.heap.size) A (r.2.map vb) ∧ Own B w0 w' g S m' ∧ Keep S w w' := by
  obtain ⟨A, c, he, hl, _, _, hA, hK⟩ := ht
  exact ⟨A, c, he, hl.later (fun _ _ => rfl) fun k hk => ⟨fun hs => by have := h.1.lt k hs; omega, Nat.le_trans hB hk.1, hk.2⟩, ⟨hA, h.2.1, h.2.2.trans (hK.below hB h.2.1)⟩, hK⟩
/-- A new disk. -/
theorem new_own {B : Nat} {w0 : World} (room : Int) (hr : (Lit.int .i64 room).wf = true) (w : World) (hB : B ≤ w.heap.size) (h0 : Below B w0 w) :
    Calls Try.prog 6 #[.int .i64 room] w fun e w' => ∃ g S, e = .returned (.pointer (some ⟨g, 0, none⟩)) ∧ Own B w0 w' g S (newM room) ∧ w.heap.size ≤ g ∧ (∀ k, S k → w.heap.size ≤ k) ∧ Below w.heap.size w w' := by
  refine (new_any room hr w).mono ?_
  rintro e w' ⟨rfl, hA, hb⟩
  exact ⟨_, _, rfl, ⟨hA, fun k hk => by rw [hk]; exact hB, h0.trans (hb.mono hB)⟩, Nat.le_refl _, fun k hk => Nat.le_of_eq hk.symm, hb⟩
theorem Own.size {B g : Nat} {w0 w : World} {S : Nat → Prop} {m : MS} (h : Own B w0 w g S m) (hB : B ≤ w0.heap.size) : B ≤ w.heap.size := Nat.le_trans hB h.2.2.size
/-- Bytes that lie elsewhere stay. -/
theorem stays {w w' : World} {S S' : Nat → Prop} {B : Nat} {A : Option Addr} {xs : List Value} (h : LiesP w (fun k => ¬ S k ∧ B ≤ k ∧ k < w.heap.size) A xs) (hK : Keep S w w') (hS : ∀ k, S' k → S k ∨ w.heap.size ≤ k) : LiesP w' (fun k => ¬ S' k ∧ B ≤ k ∧ k < w'.heap.size) A xs :=
  h.later (fun k hk => hK.block k hk.2.2 hk.1) fun k hk => ⟨fun h1 => (hS k h1).elim hk.1 fun h2 => by omega, hk.2.1, Nat.lt_of_lt_of_le hk.2.2 hK.size⟩

set_option maxRecDepth 100000 in
set_option maxHeartbeats 1000000 in
theorem alive_any (w : World) : Calls Try.prog 4 #[] w (Yes w) := by
  have kc := fun (W : World) (C : Array Value) (n c : Nat) => Lib.run_convert_bytes_const (P := Try.prog) W 31 5 C n c Try.underlying31 Try.underlying5
  go_enter Try.func4, Try.ntmps4
  go_wp2_with fail
  refine (new_own 10 (by decide) w (Nat.le_refl _) (Below.refl _ _)).mono ?_
  rintro e W1 ⟨g, S1, rfl, hO1, _, _, _⟩
  have O1 := Lib.hid hO1
  clear hO1
  go_wp2_with fail
  have hb2 := Joins.below_alloc1 W1 (.cells #[.int .u8 97, .int .u8 98] 5 (2, 3))
  have hn2 : (W1.alloc (.cells #[.int .u8 97, .int .u8 98] 5 (2, 3))).heap[W1.heap.size]? = some (.cells #[.int .u8 97, .int .u8 98] 5 (2, 3)) := heap_alloc_new W1 _
  have hz2 : (W1.alloc (.cells #[.int .u8 97, .int .u8 98] 5 (2, 3))).heap.size = W1.heap.size + 1 := by simp
  have hl2 : LiesP (W1.alloc (.cells #[.int .u8 97, .int .u8 98] 5 (2, 3))) (fun k => ¬ S1 k ∧ k < (W1.alloc (.cells #[.int .u8 97, .int .u8 98] 5 (2, 3))).heap.size) (some ⟨W1.heap.size, 0, none⟩) ([97, 98].map vb) :=
    .inr ⟨_, rfl, ⟨fun h => Nat.lt_irrefl _ (O1.out.1.lt _ h), by rw [hz2]; exact Nat.lt_succ_self _⟩, fun j u hj => (lies_block hn2 (show W1.heap.size < W1.heap.size + 1 by omega)).place (by simp) |>.elim fun ad h => by cases h.1; exact h.2.2 j u hj⟩
  have O2 : Own w.heap.size w (W1.alloc (.cells #[.int .u8 97, .int .u8 98] 5 (2, 3))) g S1 (newM 10) := ⟨O1.out.1.below hb2, O1.out.2.1, O1.out.2.2.trans (hb2.mono (O1.out.size (Nat.le_refl _)))⟩
  have OB2 := Lib.hid O2
  have HA2 := Lib.hid (append_any ⟨#[97]⟩ (some ⟨W1.heap.size, 0, none⟩) 2 [97, 98] O2.1 (by decide) hl2 (by simp) (by simp) (by simp))
  clear hb2 hn2 hz2 O2 hl2 kc
  refine (show Calls Try.prog (8) #[.pointer (some ⟨g, 0, none⟩), .string ⟨#[97]⟩, .slice (some ⟨W1.heap.size, 0, none⟩) 2 2] _ _ from HA2.out).mono ?_
  intro e W3 ht
  obtain ⟨S3, rfl, hO3, _, _⟩ := OB2.out.told (OB2.out.size (Nat.le_refl _)) ht
  have ea : appendM (newM 10) ⟨#[97]⟩ [97, 98] = (0, ⟨10, [⟨⟨#[97]⟩, [97, 98], 0⟩], [], 0⟩) := append_new rfl nm_a rfl (by decide) (by decide) (by decide)
  rw [ea] at hO3 ⊢
  have O3 : Hid (Own w.heap.size w W3 g S3 ⟨10, [⟨⟨#[97]⟩, [97, 98], 0⟩], [], 0⟩) := Lib.hid hO3
  clear ht hO3 HA2 ea OB2
  go_wp2_with fail
  refine (crash_any 1 (by decide) O3.out.1).mono ?_
  intro e W4 ht
  obtain ⟨S4, rfl, hO4, _, _⟩ := O3.out.done (O3.out.size (Nat.le_refl _)) ht
  have ec : crashM ⟨10, [⟨⟨#[97]⟩, [97, 98], 0⟩], [], 0⟩ 1 = ⟨10, [⟨⟨#[97]⟩, [97], 1⟩], [], 0⟩ := by unfold crashM crm; simp
  rw [ec] at hO4
  have O4 := Lib.hid hO4
  clear ht hO4 ec
  go_wp2_with fail
  refine (read_any ⟨#[97]⟩ 0 9 (by decide) (by decide) O4.out.1 (by decide)).mono ?_
  intro e W5 ht
  obtain ⟨A5, c5, rfl, hl5, hO5, _⟩ := O4.out.gave (O4.out.size (Nat.le_refl _)) ht
  have er : readM ⟨10, [⟨⟨#[97]⟩, [97], 1⟩], [], 0⟩ ⟨#[97]⟩ 0 9 = (0, [97]) := read_all (f := ⟨⟨#[97]⟩, [97], 1⟩) rfl nm_a (get_head rfl) (by decide)
  rw [er] at hl5 ⊢
  have O5 := Lib.hid hO5
  have hs5 : Sem.run Try.prog (convert 31 9 (.slice A5 1 c5)) W5 = .ok (.string ⟨#[97]⟩) W5 := run_str (bs := [97]) (hl5.lies (B := W5.heap.size) fun k hk => hk.2.2)
  clear ht hO5 hl5 er
  go_wp2_with (go_at_call 13; refine (num_any _ _).mono ?_; rintro e w' ⟨rfl, rfl⟩)
  go_ret
  exact ⟨rfl, O5.out.2.2⟩
end Go.Proofs.Ytnbknihaefkllaa.Dk
