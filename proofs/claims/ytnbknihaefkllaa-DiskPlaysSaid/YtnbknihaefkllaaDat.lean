/- Package disk: what a disk holds, and how it lies in memory. -/
import Derived.Test.YtnbknihaefkllaaSeg
import Derived.Test.YtnbknihaefkllaaByt
import Derived.Maps.OwnSet
import Derived.Maps.RangeWalk
namespace Go.Proofs.Ytnbknihaefkllaa.Dk
set_option linter.unusedVariables false
set_option linter.unusedSimpArgs false
open Go.RowKit Go.Maps Lift Ik

/-- A file, as it is told. -/
structure FM where
  nm : ByteArray
  bs : List Nat
  syn : Nat
/-- A file, and where it lies. -/
structure Fi where
  nm : ByteArray
  blk : Nat
  v : Value
  bs : List Nat
  syn : Nat
def Fi.m (f : Fi) : FM := ⟨f.nm, f.bs, f.syn⟩
/-- A disk, as it is told. -/
structure MS where
  room : Nat
  fs : List FM
  armed : List Int
  failed : Nat
def used (l : List FM) : Nat := (l.map fun f => f.bs.length).sum
abbrev kl (s : ByteArray) : Lit := .string s.data.toList
abbrev dat (b : Nat) : DataW Unit := .lit (.int .i64 (b : Int))
def ent (f : Fi) : Lit × DataW Unit := (kl f.nm, dat f.blk)
/-- How a pointer to a file reads. -/
def ptrR : Value → Option (DataW Unit × List MemPlace)
  | .pointer none => some (.nil, [])
  | .pointer (some ⟨b, 0, none⟩) => some (dat b, [])
  | _ => none
theorem ptrR_nil {v : Value} {ps : List MemPlace} (h : ptrR v = some (.nil, ps)) : v = .pointer none := by
  unfold ptrR at h
  split at h
  · rfl
  · simp [dat] at h
  · cases h
theorem ptrR_some {v : Value} {b : Nat} {ps : List MemPlace} (h : ptrR v = some (dat b, ps)) : v = .pointer (some ⟨b, 0, none⟩) := by
  unfold ptrR at h
  split at h
  · simp [dat] at h
  · rename_i b0
    simp [dat] at h
    obtain ⟨h1, _⟩ := h
    obtain rfl : b0 = b := by omega
    rfl
  · cases h
abbrev Ty.disk : TypeId := 44
abbrev Ty.file : TypeId := 51
abbrev Ty.map : TypeId := 42
theorem law : Keyed Try.prog 9 := string_keyed Try.underlying9
theorem zeroE (w : World) : (zeroValue 49).run Try.prog w = .ok (.pointer none) w := by kernel_rfl

/-- A file in memory, in the blocks S. -/
structure Fi.ok (w : World) (S : Nat → Prop) (f : Fi) : Prop where
  box : Box w f.blk Ty.file [f.v, .int .i64 (f.syn : Int)]
  own : w.ownsRow 0 5 1 f.v f.bs.length (f.bs.map vb)
  sb : S f.blk
  sv : ∀ k, f.v.ownBlock = some k → S k
  syn : f.syn ≤ f.bs.length
  len : f.bs.length ≤ 16777216
  byte : ∀ x, x ∈ f.bs → x < 256
  nm : f.nm.size ≤ 40
/-- Two files share no memory. -/
def sep (f g : Fi) : Prop := f.blk ≠ g.blk ∧ f.nm ≠ g.nm ∧ ∀ k, f.v.ownBlock = some k → g.v.ownBlock ≠ some k
theorem sep_symm {f g : Fi} (h : sep f g) : sep g f := ⟨fun e => h.1 e.symm, fun e => h.2.1 e.symm, fun k hk hf => h.2.2 k hf hk⟩
/-- The map of the files, and the files. -/
structure Files (w : World) (S : Nat → Prop) (M : Option Nat) (fs : List Fi) : Prop where
  map : (M = none ∧ fs = []) ∨ ∃ b, M = some b ∧ S b ∧ w.ownsMap Try.prog 9 ptrR b fs.length (.map (fs.map ent))
  ok : ∀ f, f ∈ fs → f.ok w S
  sep : fs.Pairwise sep
/-- The armed failures. -/
def Armed (w : World) (S : Nat → Prop) (A : Option Addr) (l : List Int) : Prop := LiesP w (fun k => S k ∧ ∃ cs fr, w.heap[k]? = some (.cells cs 3 fr)) A (l.map (Value.int .i64))
/-- A disk in memory: its struct in block g, all of it in the blocks S. -/
structure Lay (w : World) (g : Nat) (S : Nat → Prop) (m : MS) (fs : List Fi) (M : Option Nat) (A : Option Addr) (c : Nat) : Prop where
  box : Box w g Ty.disk [.int .i64 (m.room : Int), .int .i64 (used m.fs : Int), .map M, .slice A m.armed.length c, .int .i64 (m.failed : Int)]
  sg : S g
  files : Files w S M fs
  told : m.fs = fs.map Fi.m
  armed : Armed w S A m.armed
  cap : m.armed.length ≤ c
  capm : c ≤ maxLen
  wf : ∀ x, x ∈ m.armed → (Lit.int .i64 x).wf = true
  lt : ∀ k, S k → k < w.heap.size
  room : m.room ≤ 9223372036854775807
  fits : used m.fs ≤ m.room
  many : m.fs.length ≤ 1000
def At (w : World) (g : Nat) (S : Nat → Prop) (m : MS) : Prop := ∃ fs M A c, Lay w g S m fs M A c

section
variable {w w' : World} {g : Nat} {S S' T : Nat → Prop} {m : MS} {fs : List Fi} {M : Option Nat} {A : Option Addr} {c : Nat}
/-- T are blocks of which no file and no map lies. -/
def Off (w : World) (S T : Nat → Prop) : Prop := ∀ k, T k → k < w.heap.size → ¬ S k ∨ ∃ us fr, w.heap[k]? = some (.cells us Ty.disk fr)
theorem off_apart (h : ∀ k, S k → ¬ T k) : Off w S T := fun k hk _ => .inl fun hs => h k hs hk
theorem off_box {us : List Value} (hb : Box w g Ty.disk us) : Off w S (· = g) := fun k hk _ => by subst hk; exact .inr ⟨_, _, hb⟩
theorem Fi.ok.keep {f : Fi} (h : f.ok w S) (hk : Keep T w w') (hT : Off w S T) (hS : ∀ k, S k → S' k) : f.ok w' S' := by
  have n1 : ¬ T f.blk := fun ht => (hT _ ht h.box.lt).elim (fun h1 => h1 h.sb) fun ⟨us, fr, h1⟩ => by
    have h2 := h.box
    unfold Box at h2
    rw [h1] at h2
    injection h2 with h2
    injection h2 with _ h2 _
    exact absurd h2 (by decide)
  have n2 : ∀ k, f.v.ownBlock = some k → ¬ T k := fun k hv ht => by
    rcases h.own.2 with ⟨h0, _⟩ | ⟨b, cap, cur, hv', _, hh, _⟩
    · rw [h0] at hv; simp [Value.ownBlock] at hv
    · rw [hv'] at hv
      simp [Value.ownBlock] at hv
      subst hv
      refine (hT _ ht (Array.getElem?_eq_some_iff.1 hh).1).elim (fun h1 => h1 (h.sv _ (by rw [hv']; simp [Value.ownBlock]))) fun ⟨us, fr, h1⟩ => ?_
      rw [h1] at hh
      injection hh with hh
      injection hh with _ hh _
      exact absurd hh (by decide)
  refine ⟨h.box.keep hk n1, ?_, hS _ h.sb, fun k hv => hS _ (h.sv k hv), h.syn, h.len, h.byte, h.nm⟩
  refine ⟨h.own.1, ?_⟩
  rcases h.own.2 with h0 | ⟨b, cap, cur, hv, hB, hh, r⟩
  · exact .inl h0
  · exact .inr ⟨b, cap, cur, hv, hB, (hk.block b (Array.getElem?_eq_some_iff.1 hh).1 (n2 b (by rw [hv]; simp [Value.ownBlock]))).trans hh, r⟩
theorem map_keep {b n : Nat} {D : DataW Unit} (h : w.ownsMap Try.prog 9 ptrR b n D) (hk : Keep T w w') (hT : ¬ T b) : w'.ownsMap Try.prog 9 ptrR b n D := by
  have hlt := h.lt
  obtain ⟨es, clock, hb, r⟩ := h
  exact ⟨es, clock, (hk.block b hlt hT).trans hb, r⟩
theorem map_not {b n : Nat} {D : DataW Unit} (h : w.ownsMap Try.prog 9 ptrR b n D) (hT : Off w S T) (hs : S b) : ¬ T b := fun ht => by
  have hlt := h.lt
  obtain ⟨es, clock, hb, _⟩ := h
  refine (hT b ht hlt).elim (fun h1 => h1 hs) fun ⟨us, fr, h1⟩ => ?_
  rw [hb] at h1
  cases h1
theorem Files.keep (h : Files w S M fs) (hk : Keep T w w') (hT : Off w S T) (hS : ∀ k, S k → S' k) : Files w' S' M fs := by
  refine ⟨?_, fun f hf => (h.ok f hf).keep hk hT hS, h.sep⟩
  rcases h.map with h0 | ⟨b, hM, hs, hm⟩
  · exact .inl h0
  · exact .inr ⟨b, hM, hS b hs, map_keep hm hk (map_not hm hT hs)⟩
theorem Armed.keep {l : List Int} (h : Armed w S A l) (hk : Keep T w w') (hT : ∀ k, T k → S k → ¬ ∃ cs fr, w.heap[k]? = some (.cells cs 3 fr)) (hS : ∀ k, S k → S' k) : Armed w' S' A l := by
  refine LiesP.later h (fun k hk1 => ?_) fun k hk1 => ?_
  · obtain ⟨hs, cs, fr, hh⟩ := hk1
    exact hk.block k (Array.getElem?_eq_some_iff.1 hh).1 fun ht => hT k ht hs ⟨cs, fr, hh⟩
  · obtain ⟨hs, cs, fr, hh⟩ := hk1
    exact ⟨hS k hs, cs, fr, (hk.block k (Array.getElem?_eq_some_iff.1 hh).1 fun ht => hT k ht hs ⟨cs, fr, hh⟩).trans hh⟩
/-- What happens elsewhere leaves a disk as it is. -/
theorem Lay.keep (h : Lay w g S m fs M A c) (hk : Keep T w w') (hT : ∀ k, S k → ¬ T k) : Lay w' g S m fs M A c :=
  ⟨h.box.keep hk (hT g h.sg), h.sg, h.files.keep hk (off_apart hT) fun _ => id, h.told, h.armed.keep hk (fun k ht hs => absurd ht (hT k hs)) fun _ => id, h.cap, h.capm, h.wf,
    fun k hs => Nat.lt_of_lt_of_le (h.lt k hs) hk.size, h.room, h.fits, h.many⟩
theorem At.keep (h : At w g S m) (hk : Keep T w w') (hT : ∀ k, S k → ¬ T k) : At w' g S m := by
  obtain ⟨fs, M, A, c, h⟩ := h
  exact ⟨fs, M, A, c, h.keep hk hT⟩
theorem At.below (h : At w g S m) (hk : Below w.heap.size w w') : At w' g S m :=
  h.keep (T := fun _ => False) (below_keep hk) fun _ _ => id
theorem At.lt (h : At w g S m) (k : Nat) (hk : S k) : k < w.heap.size := by
  obtain ⟨fs, M, A, c, h⟩ := h
  exact h.lt k hk
/-- The blocks S, and the new ones. -/
def Gr (S : Nat → Prop) (w w' : World) (k : Nat) : Prop := S k ∨ (w.heap.size ≤ k ∧ k < w'.heap.size)
theorem Lay.facts (h : Lay w g S m fs M A c) : w.cell? ⟨g, 0, none⟩ = some (.int .i64 (m.room : Int)) ∧ w.cell? ⟨g, 1, none⟩ = some (.int .i64 (used m.fs : Int)) ∧ w.cell? ⟨g, 2, none⟩ = some (.map M) ∧
    w.cell? ⟨g, 3, none⟩ = some (.slice A m.armed.length c) ∧ w.cell? ⟨g, 4, none⟩ = some (.int .i64 (m.failed : Int)) ∧
    w.frozen? ⟨g, 1, none⟩ = false ∧ w.frozen? ⟨g, 2, none⟩ = false ∧ w.frozen? ⟨g, 3, none⟩ = false ∧ w.frozen? ⟨g, 4, none⟩ = false :=
  ⟨h.box.cell 0, h.box.cell 1, h.box.cell 2, h.box.cell 3, h.box.cell 4, h.box.free 1, h.box.free 2, h.box.free 3, h.box.free 4⟩
end
end Go.Proofs.Ytnbknihaefkllaa.Dk
