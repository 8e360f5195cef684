/- One file of a disk is written: what becomes of the disk. -/
import Derived.Test.YtnbknihaefkllaaDbeg
namespace Go.Proofs.Ytnbknihaefkllaa.Dk
set_option linter.unusedVariables false
set_option linter.unusedSimpArgs false
open Go.RowKit Go.Maps Lift Ik

def get (l : List FM) (nm : ByteArray) : Option FM := l.find? fun f => decide (f.nm = nm)
def put1 (l : List FM) (f : FM) : List FM := l.map fun x => if x.nm = f.nm then f else x
def sub (fs : List Fi) (f : Fi) : List Fi := fs.map fun x => if x.nm = f.nm then f else x
theorem look_get (fs : List Fi) (nm : ByteArray) : get (fs.map Fi.m) nm = (look fs nm).map Fi.m := by
  unfold get look
  rw [List.find?_map]
  rfl
theorem sub_told (fs : List Fi) (f : Fi) : (sub fs f).map Fi.m = put1 (fs.map Fi.m) f.m := by
  unfold sub put1
  rw [List.map_map, List.map_map]
  refine List.map_congr_left fun x _ => ?_
  show Fi.m (if x.nm = f.nm then f else x) = if x.nm = f.nm then f.m else x.m
  split <;> rfl
theorem sub_length (fs : List Fi) (f : Fi) : (sub fs f).length = fs.length := by unfold sub; simp
theorem put1_length (fs : List FM) (f : FM) : (put1 fs f).length = fs.length := by unfold put1; simp
theorem used_put1 : ∀ (l : List FM) (f f' : FM), l.Pairwise (fun a b => a.nm ≠ b.nm) → f ∈ l → f'.nm = f.nm → used (put1 l f') + f.bs.length = used l + f'.bs.length := by
  intro l f f' hp hf hn
  induction l with
  | nil => simp at hf
  | cons a l ih =>
    obtain ⟨h1, h2⟩ := List.pairwise_cons.1 hp
    have e : ∀ (b : FM) (r : List FM), used (b :: r) = b.bs.length + used r := fun b r => by simp [used]
    rcases List.mem_cons.1 hf with rfl | hf'
    · have hs : put1 l f' = l := by
        unfold put1
        rw [show l = l.map id by simp]
        rw [List.map_map]
        refine List.map_congr_left fun x hx => ?_
        show (if x.nm = f'.nm then f' else x) = x
        rw [if_neg fun e1 => h1 x hx (by rw [e1, hn])]
      have hc : put1 (f :: l) f' = f' :: put1 l f' := by unfold put1; rw [List.map_cons, if_pos hn.symm]
      rw [hc, hs, e, e]
      omega
    · have hne : ¬ a.nm = f'.nm := fun e1 => h1 f hf' (by rw [e1, hn])
      have hc : put1 (a :: l) f' = a :: put1 l f' := by unfold put1; rw [List.map_cons, if_neg hne]
      rw [hc, e, e]
      have := ih h2 hf'
      omega
theorem used_mem {l : List FM} {f : FM} (h : f ∈ l) : f.bs.length ≤ used l := by
  induction l with
  | nil => simp at h
  | cons a l ih =>
    have e : used (a :: l) = a.bs.length + used l := by simp [used]
    rcases List.mem_cons.1 h with rfl | h
    · omega
    · have := ih h; omega

section
variable {w w' : World} {g : Nat} {S S' T : Nat → Prop} {m : MS} {fs : List Fi} {M : Option Nat} {A : Option Addr} {c : Nat}
theorem Fi.ok.keep0 {f : Fi} (h : f.ok w S) (hk : Keep T w w') (n1 : ¬ T f.blk) (n2 : ∀ k, f.v.ownBlock = some k → ¬ T k) (hS : ∀ k, S k → S' k) : f.ok w' S' := by
  refine ⟨h.box.keep hk n1, ?_, hS _ h.sb, fun k hv => hS _ (h.sv k hv), h.syn, h.len, h.byte, h.nm⟩
  refine ⟨h.own.1, ?_⟩
  rcases h.own.2 with h0 | ⟨b, cap, cur, hv, hB, hh, r⟩
  · exact .inl h0
  · exact .inr ⟨b, cap, cur, hv, hB, (hk.block b (Array.getElem?_eq_some_iff.1 hh).1 (n2 b (by rw [hv]; simp [Value.ownBlock]))).trans hh, r⟩
/-- A file's bytes' block is one of bytes. -/
theorem Fi.ok.bytes {f : Fi} (h : f.ok w S) {k : Nat} (hk : f.v.ownBlock = some k) : k < w.heap.size ∧ ∃ cs fr, w.heap[k]? = some (.cells cs 5 fr) := by
  rcases h.own.2 with ⟨h0, _⟩ | ⟨b, cap, cur, hv', _, hh, _⟩
  · rw [h0] at hk; simp [Value.ownBlock] at hk
  · rw [hv'] at hk
    simp [Value.ownBlock] at hk
    subst hk
    exact ⟨(Array.getElem?_eq_some_iff.1 hh).1, _, _, hh⟩
theorem nm_inj {x f : Fi} (h : fs.Pairwise sep) (hx : x ∈ fs) (hf : f ∈ fs) (e : x.nm = f.nm) : x = f := by
  induction fs with
  | nil => simp at hx
  | cons a l ih =>
    obtain ⟨h1, h2⟩ := List.pairwise_cons.1 h
    rcases List.mem_cons.1 hx with rfl | hx'
    · rcases List.mem_cons.1 hf with rfl | hf'
      · rfl
      · exact absurd e (h1 f hf').2.1
    · rcases List.mem_cons.1 hf with rfl | hf'
      · exact absurd e.symm (h1 x hx').2.1
      · exact ih h2 hx' hf'
theorem sep_of {x f : Fi} (h : fs.Pairwise sep) (hx : x ∈ fs) (hf : f ∈ fs) (e : x.nm ≠ f.nm) : Dk.sep x f := by
  induction fs with
  | nil => simp at hx
  | cons a l ih =>
    obtain ⟨h1, h2⟩ := List.pairwise_cons.1 h
    rcases List.mem_cons.1 hx with rfl | hx'
    · rcases List.mem_cons.1 hf with rfl | hf'
      · exact absurd rfl e
      · exact h1 f hf'
    · rcases List.mem_cons.1 hf with rfl | hf'
      · exact sep_symm (h1 x hx')
      · exact ih h2 hx' hf'
theorem names_apart (h : fs.Pairwise sep) : (fs.map Fi.m).Pairwise (fun a b => a.nm ≠ b.nm) := by
  rw [List.pairwise_map]
  exact h.imp fun hs => hs.2.1
/-- The blocks of one file, and the disk's own struct. -/
def Of (g : Nat) (f : Fi) (k : Nat) : Prop := k = g ∨ k = f.blk ∨ f.v.ownBlock = some k
theorem typed {k : Nat} {cs cs' : Array Value} {t t' : TypeId} {fr fr' : Nat × Nat} (h : w.heap[k]? = some (.cells cs t fr)) (h' : w.heap[k]? = some (.cells cs' t' fr')) (hne : t ≠ t') : False := by
  rw [h] at h'
  injection h' with h'
  injection h' with _ h' _
  exact hne h'
theorem Files.apart {f x : Fi} {us : List Value} (h : Files w S M fs) (hb : Box w g Ty.disk us) (hf : f ∈ fs) (hx : x ∈ fs) (hne : x.nm ≠ f.nm) : ¬ Of g f x.blk ∧ ∀ k, x.v.ownBlock = some k → ¬ Of g f k := by
  obtain ⟨s1, _, s3⟩ := sep_of h.sep hx hf hne
  have o1 := h.ok x hx
  have o2 := h.ok f hf
  constructor
  · rintro (e | e | e)
    · have h1 := o1.box
      rw [e] at h1
      exact typed hb h1 (by decide)
    · exact s1 e
    · obtain ⟨_, cs, fr, h1⟩ := o2.bytes e
      exact typed o1.box h1 (by decide)
  · intro k hk
    obtain ⟨_, cs, fr, h1⟩ := o1.bytes hk
    rintro (e | e | e)
    · subst e; exact typed hb h1 (by decide)
    · subst e; exact typed o2.box h1 (by decide)
    · exact s3 k hk e
theorem Files.map_apart {f : Fi} {us : List Value} {b n : Nat} {D : DataW Unit} (h : Files w S M fs) (hb : Box w g Ty.disk us) (hf : f ∈ fs) (hm : w.ownsMap Try.prog 9 ptrR b n D) : ¬ Of g f b := by
  obtain ⟨es, clock, hh, _⟩ := hm
  have o2 := h.ok f hf
  rintro (e | e | e)
  · subst e
    unfold Box at hb
    rw [hh] at hb
    cases hb
  · subst e
    have := o2.box
    unfold Box at this
    rw [hh] at this
    cases this
  · obtain ⟨_, cs, fr, h1⟩ := o2.bytes e
    rw [hh] at h1
    cases h1
/-- One file is written. -/
theorem Files.sub {f f' : Fi} {us : List Value} (h : Files w S M fs) (hb : Box w g Ty.disk us) (hk : Keep (Of g f) w w') (hf : f ∈ fs) (hn : f'.nm = f.nm) (hbk : f'.blk = f.blk) (ho : f'.ok w' S')
    (hv : ∀ k, f'.v.ownBlock = some k → f.v.ownBlock = some k ∨ w.heap.size ≤ k) (hS : ∀ k, S k → S' k) : Files w' S' M (Dk.sub fs f') := by
  have hent : (Dk.sub fs f').map ent = fs.map ent := by
    unfold Dk.sub
    rw [List.map_map]
    refine List.map_congr_left fun x hx => ?_
    show ent (if x.nm = f'.nm then f' else x) = ent x
    split
    · rename_i e
      have := nm_inj h.sep hx hf (e.trans hn)
      subst this
      unfold ent
      rw [hn, hbk]
    · rfl
  refine ⟨?_, ?_, ?_⟩
  · rcases h.map with ⟨_, h0⟩ | ⟨b, hM, hs, hm⟩
    · rw [h0] at hf; simp at hf
    · refine .inr ⟨b, hM, hS b hs, ?_⟩
      rw [hent, sub_length]
      exact map_keep hm hk (h.map_apart hb hf hm)
  · intro y hy
    unfold Dk.sub at hy
    obtain ⟨x, hx, rfl⟩ := List.mem_map.1 hy
    split
    · exact ho
    · rename_i e
      obtain ⟨n1, n2⟩ := h.apart hb hf hx (fun e1 => e (e1.trans hn.symm))
      exact (h.ok x hx).keep0 hk n1 n2 hS
  · unfold Dk.sub
    rw [List.pairwise_map]
    refine h.sep.imp_of_mem fun {x y} hx hy hs => ?_
    -- x, y: two files; one of them may be the one that is written
    have key : ∀ z, z ∈ fs → z.nm ≠ f.nm → Dk.sep f' z := fun z hz hne => by
      obtain ⟨s1, _, s3⟩ := sep_of h.sep hf hz (fun e => hne e.symm)
      refine ⟨by rw [hbk]; exact s1, by rw [hn]; exact fun e => hne e.symm, fun k hk1 hk2 => ?_⟩
      rcases hv k hk1 with h1 | h1
      · exact s3 k h1 hk2
      · have := ((h.ok z hz).bytes hk2).1
        omega
    by_cases ex : x.nm = f'.nm
    · rw [if_pos ex]
      have := nm_inj h.sep hx hf (ex.trans hn)
      subst this
      rw [if_neg fun e => hs.2.1 (ex.trans e.symm)]
      exact key y hy fun e => hs.2.1 e.symm
    · rw [if_neg ex]
      by_cases ey : y.nm = f'.nm
      · rw [if_pos ey]
        have := nm_inj h.sep hy hf (ey.trans hn)
        subst this
        exact sep_symm (key x hx hs.2.1)
      · rw [if_neg ey]; exact hs
theorem Of_not_ints {f : Fi} {us : List Value} (h : Files w S M fs) (hb : Box w g Ty.disk us) (hf : f ∈ fs) (k : Nat) (hk : Of g f k) : ¬ ∃ cs fr, w.heap[k]? = some (.cells cs 3 fr) := by
  rintro ⟨cs, fr, h1⟩
  rcases hk with e | e | e
  · subst e; exact typed hb h1 (by decide)
  · subst e; exact typed (h.ok f hf).box h1 (by decide)
  · obtain ⟨_, cs', fr', h2⟩ := (h.ok f hf).bytes e
    exact typed h2 h1 (by decide)
/-- One file is written, and the disk's struct. -/
theorem Lay.sub {f f' : Fi} (h : Lay w g S m fs M A c) (hk : Keep (Of g f) w w') (hf : f ∈ fs) (hn : f'.nm = f.nm) (hbk : f'.blk = f.blk) (ho : f'.ok w' S')
    (hv : ∀ k, f'.v.ownBlock = some k → f.v.ownBlock = some k ∨ w.heap.size ≤ k) (hS : ∀ k, S k → S' k) (hlt : ∀ k, S' k → k < w'.heap.size)
    (hb : Box w' g Ty.disk [.int .i64 (m.room : Int), .int .i64 (used (put1 m.fs f'.m) : Int), .map M, .slice A m.armed.length c, .int .i64 (m.failed : Int)]) (hu : used (put1 m.fs f'.m) ≤ m.room) :
    Lay w' g S' { m with fs := put1 m.fs f'.m } (Dk.sub fs f') M A c :=
  ⟨hb, hS g h.sg, h.files.sub h.box hk hf hn hbk ho hv hS, by rw [sub_told, ← h.told], h.armed.keep hk (fun k ht _ => Of_not_ints h.files h.box hf k ht) hS, h.cap, h.capm, h.wf, hlt, h.room, hu, by rw [put1_length]; exact h.many⟩
end
end Go.Proofs.Ytnbknihaefkllaa.Dk
