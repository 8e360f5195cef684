/- A cache of the call's own with other own blocks beside it; where its slots are. -/
import Derived.Test.YtbeohfmikpbkhaaCoL
namespace Go.Proofs.Ytbeohfmikpbkhaa.Ck
set_option linter.unusedVariables false
set_option linter.unusedSimpArgs false
open Go.RowKit Go.Maps Lift Ik
/-- The blocks R are the call's own too, and none of the cache's. -/
def Two (w0 w : World) (g : Nat) (Q : Nat → Prop) (room : Nat) (r : R) : Prop := ∃ Y, Own w0 w g Y room r ∧ ∀ k, Q k → k < w.heap.size ∧ ¬ Y k ∧ w0.heap.size ≤ k
def Stay (Q : Nat → Prop) (w w' : World) : Prop := ∀ k, Q k → w'.heap[k]? = w.heap[k]?
section
variable {w0 w w' : World} {g room : Nat} {Q : Nat → Prop} {r r' : R}
theorem Two.be (h : Two w0 w g Q room r) : Below w0.heap.size w0 w := by obtain ⟨Y, h, _⟩ := h; exact h.be
theorem Two.inv (h : Two w0 w g Q room r) : Inv room r := by obtain ⟨Y, h, _⟩ := h; exact h.oc.inv
theorem Two.below (h : Two w0 w g Q room r) (hb : Below w.heap.size w w') : Two w0 w' g Q room r := by
  obtain ⟨Y, h, hR⟩ := h
  exact ⟨Y, h.below hb, fun k hk => ⟨Nat.lt_of_lt_of_le (hR k hk).1 hb.size, (hR k hk).2⟩⟩
theorem Two.stay (h : Two w0 w g Q room r) (hb : Below w.heap.size w w') : Stay Q w w' := by
  obtain ⟨Y, h, hR⟩ := h
  exact fun k hk => hb.block k (hR k hk).1
theorem Two.fewer {S : Nat → Prop} (h : Two w0 w g Q room r) (hS : ∀ k, S k → Q k) : Two w0 w g S room r := by
  obtain ⟨Y, h, hR⟩ := h
  exact ⟨Y, h, fun k hk => hR k (hS k hk)⟩
/-- A block of the others is written. -/
theorem Two.set (h : Two w0 w g Q room r) {p : Addr} (hp : Q p.block) (v : Value) : Two w0 (w.setCell p v) g Q room r := by
  obtain ⟨Y, h, hR⟩ := h
  obtain ⟨h1, h2, h3⟩ := hR _ hp
  refine ⟨Y, ⟨h.oc.same (fun k hk => heap_setCell_other w p k v fun e => h2 (e ▸ hk)) (by simp [World.setCell]), h.ge, h.be.setCell h3 v⟩, fun k hk => ⟨?_, (hR k hk).2⟩⟩
  simp [World.setCell]; exact (hR k hk).1
/-- More blocks beside it. -/
theorem Two.more {S : Nat → Prop} (h : Two w0 w g Q room r) (hb : Below w.heap.size w w') (hS : ∀ k, S k → Q k ∨ (w.heap.size ≤ k ∧ k < w'.heap.size)) : Two w0 w' g S room r := by
  obtain ⟨Y, h, hR⟩ := h
  refine ⟨Y, h.below hb, fun k hk => ?_⟩
  rcases hS k hk with h1 | ⟨h1, h2⟩
  · exact ⟨Nat.lt_of_lt_of_le (hR k h1).1 hb.size, (hR k h1).2⟩
  · exact ⟨h2, fun hy => Nat.not_lt_of_le h1 (h.oc.lt k hy), Nat.le_trans h.be.size h1⟩
theorem Two.went {Y : Nat → Prop} (h : Own w0 w g Y room r) (hR : ∀ k, Q k → k < w.heap.size ∧ ¬ Y k ∧ w0.heap.size ≤ k) (hw : OWent w g Y room r' w') : Two w0 w' g Q room r' ∧ Stay Q w w' := by
  have hq := hw
  obtain ⟨Y', h1, h2, h3⟩ := hq
  have hge := h.ge
  have hbe := h.be
  refine ⟨⟨Y', ⟨h1, fun k hk => (h3 k hk).elim (hge k) fun h => Nat.le_trans hbe.size h, hbe.trans (h2.below hbe.size hge)⟩, fun k hk => ⟨Nat.lt_of_lt_of_le (hR k hk).1 h2.size, fun hy => (h3 k hy).elim (hR k hk).2.1 fun h => Nat.not_lt_of_le h (hR k hk).1, (hR k hk).2.2⟩⟩, fun k hk => h2.block k (hR k hk).1 (hR k hk).2.1⟩
theorem two_get (h : Two w0 w g Q room r) (f a : Int) (hf : wf64 f) (ha : wf64 a) (hp : pinned r.1 + 1 ≤ 1000) :
    Calls Try.prog (11) #[pt g, .int .i64 f, .int .i64 a] w fun e w' => ∃ A c bs, bs = (getC r f a).2.getD [] ∧ e = .returned (.tuple #[.slice A bs.length c, .bool (getC r f a).2.isSome]) ∧ w'.ownsRow w.heap.size 5 1 (.slice A bs.length c) bs.length (bs.map vb) ∧ Two w0 w' g Q room (getC r f a).1 ∧ Stay Q w w' := by
  obtain ⟨Y, h, hR⟩ := h
  refine (get_any f a hf ha h.oc hp).mono ?_
  rintro e w' ⟨A, c, bs, h1, h2, h3, h4, h5⟩
  exact ⟨A, c, bs, h1, h2, h3, ⟨Y, ⟨h4, h.ge, h.be.trans (h5.below h.be.size h.ge)⟩, fun k hk => ⟨Nat.lt_of_lt_of_le (hR k hk).1 h5.size, (hR k hk).2⟩⟩, fun k hk => h5.block k (hR k hk).1 (hR k hk).2.1⟩
theorem two_rel (h : Two w0 w g Q room r) (f a : Int) (hf : wf64 f) (ha : wf64 a) :
    Calls Try.prog (14) #[pt g, .int .i64 f, .int .i64 a] w fun e w' => e = .returned (.bool (relC r f a).2) ∧ Two w0 w' g Q room (relC r f a).1 ∧ Stay Q w w' := by
  obtain ⟨Y, h, hR⟩ := h
  refine (rel_any f a hf ha h.oc).mono ?_
  rintro e w' ⟨rfl, hw⟩
  exact ⟨rfl, Two.went h hR hw⟩
theorem two_drop (h : Two w0 w g Q room r) (f : Int) :
    Calls Try.prog (16) #[pt g, .int .i64 f] w fun e w' => e = .returned (vi ((dropC r f).2 : Nat)) ∧ Two w0 w' g Q room (dropC r f).1 ∧ Stay Q w w' := by
  obtain ⟨Y, h, hR⟩ := h
  refine (drop_any f h.oc).mono ?_
  rintro e w' ⟨rfl, hw⟩
  exact ⟨rfl, Two.went h hR hw⟩
theorem two_put (h : Two w0 w g Q room r) (f a : Int) (A : Option Addr) (c : Nat) (bs : List Nat) (hf : wf64 f) (ha : wf64 a) (hb : Lies w w0.heap.size A (bs.map vb)) (h0 : A = none → bs.length = 0 ∧ c = 0) (hfew : bs.length ≤ 100) (h8 : ∀ x, x ∈ bs → x < 256) (hp : pinned r.1 + 1 ≤ 1000) (hn : r.1.length + 1 ≤ 1000) :
    Calls Try.prog (10) #[pt g, .int .i64 f, .int .i64 a, .slice A bs.length c] w fun e w' => e = .returned (.bool (putC room r f a bs).2) ∧ Two w0 w' g Q room (putC room r f a bs).1 ∧ Stay Q w w' := by
  obtain ⟨Y, h, hR⟩ := h
  have hl : LiesP w (fun k => k < w.heap.size ∧ ¬ Y k) A (bs.map vb) := by
    rcases hb with h1 | ⟨ad, h1, h2, h3⟩
    · exact .inl h1
    · exact .inr ⟨ad, h1, ⟨Nat.lt_of_lt_of_le h2 h.be.size, fun hy => Nat.not_lt_of_le (h.ge _ hy) h2⟩, h3⟩
  refine (put_any f a A c bs hf ha h.oc hl h0 hfew h8 hp hn).mono ?_
  rintro e w' ⟨rfl, hw⟩
  exact ⟨rfl, Two.went h hR hw⟩
theorem two_used (h : Two w0 w g Q room r) : Calls Try.prog (19) #[pt g] w fun e w' => e = .returned (vi (used r.1 : Nat)) ∧ w = w' := by
  obtain ⟨Y, h, hR⟩ := h
  exact used_any h.oc
theorem two_pins (h : Two w0 w g Q room r) : Calls Try.prog (20) #[pt g] w fun e w' => e = .returned (vi (pinned r.1 : Nat)) ∧ Below w.heap.size w w' := by
  obtain ⟨Y, h, hR⟩ := h
  exact pins_any h.oc
end
/-- Every slot is of a few files and offsets. -/
def Small (c : R) : Prop := ∀ s, s ∈ c.1 → 0 ≤ s.file ∧ s.file < 4 ∧ 0 ≤ s.off ∧ s.off < 4
theorem small_new : Small ([], 0) := fun _ h => by cases h
theorem small_modify {c : R} {m : S → S} (h1 : ∀ s, (m s).file = s.file) (h2 : ∀ s, (m s).off = s.off) (h : Small c) (i : Nat) (k : Nat) : Small (c.1.modify i m, k) := by
  intro s hs
  rcases mem_modify hs with h3 | ⟨t, h3, rfl⟩
  · exact h s h3
  · rw [h1, h2]; exact h t h3
theorem small_get {c : R} (h : Small c) (f a : Int) : Small (getC c f a).1 := by
  unfold getC
  split
  · exact h
  · exact small_modify (m := pin) (fun _ => rfl) (fun _ => rfl) h _ _
theorem small_rel {c : R} (h : Small c) (f a : Int) : Small (relC c f a).1 := by
  unfold relC
  split
  · exact h
  · split
    · exact h
    · split
      · exact h
      · exact small_modify (m := unpin) (fun _ => rfl) (fun _ => rfl) h _ _
theorem small_less {l : List S} {c : R} (hl : Less l c.1) (h : Small c) (k : Nat) : Small (l, k) :=
  hl.all (P := fun f a _ _ => 0 ≤ f ∧ f < 4 ∧ 0 ≤ a ∧ a < 4) h
theorem small_drop {c : R} (h : Small c) (f : Int) : Small (dropC c f).1 := small_less (less_drop f c.1) h _
theorem small_put {c : R} (h : Small c) (room : Nat) (f a : Int) (b : List Nat) (hp : 0 ≤ f ∧ f < 4 ∧ 0 ≤ a ∧ a < 4) : Small (putC room c f a b).1 := by
  have hl := make_less room b.length c.1.length c
  unfold putC
  split
  · exact small_modify (m := pin) (fun _ => rfl) (fun _ => rfl) h _ _
  · split
    · intro s hs
      rcases List.mem_append.mp hs with h1 | h1
      · exact small_less (k := 0) hl h s h1
      · rw [List.mem_singleton.mp h1]; exact hp
    · exact small_less hl h _
theorem i64_and3 (n : Int) : bits .and .i64 n 3 = n % 4 := by
  have h3 : (BitVec.ofInt 64 3).toNat = 2 ^ 2 - 1 := by decide
  have key : (BitVec.ofInt 64 n &&& BitVec.ofInt 64 3).toNat = (n % ((2 ^ 64 : Nat) : Int)).toNat % 2 ^ 2 := by
    rw [BitVec.toNat_and, BitVec.toNat_ofInt, h3, Nat.and_two_pow_sub_one_eq_mod]
  show IntKind.i64.wrap ((BitVec.ofInt 64 n &&& BitVec.ofInt 64 3).toNat : Nat) = n % 4
  rw [key, IntKind.wrap_i64]
  omega
theorem and3 (n : Int) : ∃ F : Nat, F < 4 ∧ bits .and .i64 n 3 = (F : Int) := ⟨(n % 4).toNat, by omega, by rw [i64_and3]; omega⟩
end Go.Proofs.Ytbeohfmikpbkhaa.Ck
