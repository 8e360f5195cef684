/- Buffers of the project in memory: how they lie, and what the calls that only read answer. -/
import Derived.Test.YtmnhklfljfglhaaOwn
import Derived.Test.YtmnhklfljfglhaaOpen
import Derived.ArgAppend
import Derived.Deep.RegionHeld3
import Derived.Deep.QuietTactic
import Derived.BigQuiet
import Derived.LoopTactic
import Derived.Lib.MinMax
import Derived.Lib.SliceRun
namespace Go.Proofs.Ytmnhklfljfglhaa.Bu
set_option linter.unusedVariables false
set_option linter.unusedSimpArgs false
open Go.RowKit Lift Ik
abbrev vi (n : Nat) : Value := .int .i64 (n : Int)
abbrev Ty.bufs : TypeId := 82
/-- Does a write overflow? -/
def over (bu ac n : Nat) : Bool := decide (0 < ac ∧ bu < ac + n)
/-- The verdict. -/
def ask (bu mo k ac n : Nat) : Nat := if bu < n then 2 else if over bu ac n = true ∧ mo ≤ k then 1 else 0
structure Ok (bu mo : Nat) (fs : List Nat) (ac : Nat) : Prop where
  b1 : 1 ≤ bu
  b2 : bu ≤ 1073741824
  m1 : 1 ≤ mo
  m2 : mo ≤ 100
  len : fs.length ≤ mo
  each : ∀ f, f ∈ fs → f ≤ bu
  act : ac ≤ bu
structure BL (w : World) (g : Nat) (S : Nat → Prop) (bu mo : Nat) (fs : List Nat) (ac : Nat) (A : Option Addr) (c : Nat) : Prop where
  box : Lift.Box w g Ty.bufs [vi bu, vi mo, vi ac, .slice A fs.length c]
  lies : LiesP w (fun k => S k ∧ k ≠ g) A (fs.map vi)
  hc : fs.length ≤ c
  hm : c ≤ maxLen
  nil : A = none → c = 0
  sg : S g
  lt : ∀ k, S k → k < w.heap.size
  ok : Ok bu mo fs ac
def BU (w : World) (g : Nat) (S : Nat → Prop) (bu mo : Nat) (fs : List Nat) (ac : Nat) : Prop := ∃ A c, BL w g S bu mo fs ac A c
section
variable {w w' : World} {g bu mo ac c : Nat} {S : Nat → Prop} {fs : List Nat} {A : Option Addr}
theorem BL.same (h : BL w g S bu mo fs ac A c) (hk : ∀ k, S k → w'.heap[k]? = w.heap[k]?) (hs : w.heap.size ≤ w'.heap.size) : BL w' g S bu mo fs ac A c :=
  ⟨h.box.at_block (hk g h.sg), h.lies.later (fun k h1 => hk k h1.1) fun _ h => h, h.hc, h.hm, h.nil, h.sg, fun k h1 => Nat.lt_of_lt_of_le (h.lt k h1) hs, h.ok⟩
theorem BU.same (h : BU w g S bu mo fs ac) (hk : ∀ k, S k → w'.heap[k]? = w.heap[k]?) (hs : w.heap.size ≤ w'.heap.size) : BU w' g S bu mo fs ac := by
  obtain ⟨A, c, h⟩ := h
  exact ⟨A, c, h.same hk hs⟩
theorem BU.lt (h : BU w g S bu mo fs ac) (k : Nat) (hk : S k) : k < w.heap.size := by
  obtain ⟨A, c, h⟩ := h
  exact h.lt k hk
theorem BU.ok (h : BU w g S bu mo fs ac) : Ok bu mo fs ac := by
  obtain ⟨A, c, h⟩ := h
  exact h.ok
theorem BU.below (h : BU w g S bu mo fs ac) (hb : Below w.heap.size w w') : BU w' g S bu mo fs ac := h.same (fun k hk => hb.block k (h.lt k hk)) hb.size
theorem BU.keep {X : Nat → Prop} (h : BU w g S bu mo fs ac) (hk : Keep X w w') (hX : ∀ k, S k → ¬ X k) : BU w' g S bu mo fs ac := h.same (fun k hs => hk.block k (h.lt k hs) (hX k hs)) hk.size
theorem BL.drawn (h : BL w g S bu mo fs ac A c) (n : Nat) : BL (w.drewN n) g S bu mo fs ac A c := h.same (fun k _ => rfl) (Nat.le_refl _)
theorem BL.facts (h : BL w g S bu mo fs ac A c) : w.cell? ⟨g, 0, none⟩ = some (.int .i64 (bu : Int)) ∧ w.cell? ⟨g, 1, none⟩ = some (.int .i64 (mo : Int)) ∧ w.cell? ⟨g, 2, none⟩ = some (.int .i64 (ac : Int)) ∧ w.cell? ⟨g, 3, none⟩ = some (.slice A fs.length c) :=
  ⟨h.box.cell 0, h.box.cell 1, h.box.cell 2, h.box.cell 3⟩
theorem limited_any (n : Int) (m : Nat) (hn : -9223372036854775808 ≤ n ∧ n ≤ 9223372036854775807) (hm : 1 ≤ m ∧ m ≤ 1073741824) (w : World) :
    Calls Try.prog 60 #[.int .i64 n, .int .i64 (m : Int)] w fun e w' => e = .returned (vi (min (max n 1) (m : Int)).toNat) ∧ w = w' := by
  obtain ⟨k, hk⟩ : ∃ k : Nat, max n 1 = (k : Int) := ⟨(max n 1).toNat, by omega⟩
  obtain ⟨j, hj⟩ : ∃ j : Nat, min (k : Int) (m : Int) = (j : Int) := ⟨(min (k : Int) (m : Int)).toNat, by omega⟩
  have E : Hid ((min (max n 1) (m : Int)).toNat = j) := Lib.hid (by rw [hk, hj]; rfl)
  go_enter Try.func60, Try.ntmps60
  go_wp2_with fail
  go_ret
  exact ⟨by rw [E.out]; rfl, rfl⟩
set_option maxHeartbeats 400000 in
theorem over_any (n : Nat) (h : BU w g S bu mo fs ac) (hn : n ≤ bu) :
    Calls Try.prog (62) #[.pointer (some ⟨g, 0, none⟩), .int .i64 (n : Int)] w fun e w' => e = .returned (.bool (over bu ac n)) ∧ ∃ m, w' = w.drewN m := by
  obtain ⟨A, c, h⟩ := h
  obtain ⟨-, hb2, -, -, -, -, hact⟩ := h.ok
  obtain ⟨f0, f1, f2, f3⟩ := h.facts
  have HL := Lib.hid h
  clear h
  go_enter (Try.func62), (Try.ntmps62)
  by_cases h0 : 0 < ac
  · have g0 : decide (0 < ac) = true := decide_eq_true h0
    have E : Hid (over bu ac n = decide ((bu : Int) - (ac : Int) < (n : Int))) := Lib.hid (by unfold over; rw [decide_eq_decide]; omega)
    clear h0
    go_wp2_with fail
    go_quiet (fail)
    go_wp2_with fail
    go_ret
    exact ⟨by rw [E.out]; rfl, _, rfl⟩
  · have g0 : decide (0 < ac) = false := decide_eq_false h0
    have E : Hid (over bu ac n = false) := Lib.hid (by unfold over; exact decide_eq_false (by omega))
    clear h0
    go_wp2_with fail
    go_quiet (fail)
    go_wp2_with fail
    go_ret
    exact ⟨by rw [E.out]; rfl, _, rfl⟩
theorem crowded_any (h : BU w g S bu mo fs ac) :
    Calls Try.prog (64) #[.pointer (some ⟨g, 0, none⟩)] w fun e w' => e = .returned (.bool (decide (mo ≤ fs.length))) ∧ ∃ m, w' = w.drewN m := by
  obtain ⟨A, c, h⟩ := h
  obtain ⟨-, hb2, -, hm2, hl, -, hact⟩ := h.ok
  obtain ⟨f0, f1, f2, f3⟩ := h.facts
  clear h
  go_enter (Try.func64), (Try.ntmps64)
  go_wp2_with fail
  go_quiet (fail)
  go_wp2_with fail
  go_ret
  exact ⟨by first | rfl | (congr 2; rw [decide_eq_decide]; omega), _, rfl⟩
end
end Go.Proofs.Ytmnhklfljfglhaa.Bu
