/- A file more: what becomes of the disk. -/
import Derived.Test.YtnbknihaefkllaaDread
namespace Go.Proofs.Ytnbknihaefkllaa.Dk
set_option linter.unusedVariables false
set_option linter.unusedSimpArgs false
open Go.RowKit Go.Maps Lift Ik

/-- A file more, where its name comes in order. -/
def insM (f : FM) : List FM → List FM
  | [] => [f]
  | y :: r => if (kl f.nm).before (kl y.nm) then f :: y :: r else y :: insM f r
def insF (f : Fi) : List Fi → List Fi
  | [] => [f]
  | y :: r => if (kl f.nm).before (kl y.nm) then f :: y :: r else y :: insF f r
theorem insF_told (f : Fi) : ∀ l : List Fi, (insF f l).map Fi.m = insM f.m (l.map Fi.m)
  | [] => rfl
  | y :: r => by
    unfold insF
    rw [List.map_cons]
    unfold insM
    show List.map Fi.m (if (kl f.nm).before (kl y.nm) = true then _ else _) = if (kl f.nm).before (kl y.nm) = true then _ else _
    split
    · rfl
    · rw [List.map_cons, insF_told f r]
theorem insF_ent (f : Fi) : ∀ l : List Fi, (insF f l).map ent = DataW.insert (ent f) (l.map ent)
  | [] => rfl
  | y :: r => by
    unfold insF
    rw [List.map_cons]
    unfold DataW.insert
    show List.map ent (if (kl f.nm).before (kl y.nm) = true then _ else _) = if (kl f.nm).before (kl y.nm) = true then _ else _
    split
    · rfl
    · rw [List.map_cons, insF_ent f r]
theorem insF_length (f : Fi) : ∀ l : List Fi, (insF f l).length = l.length + 1
  | [] => rfl
  | y :: r => by unfold insF; split <;> simp [insF_length f r]
theorem insM_length (f : FM) : ∀ l : List FM, (insM f l).length = l.length + 1
  | [] => rfl
  | y :: r => by unfold insM; split <;> simp [insM_length f r]
theorem insF_mem (f x : Fi) : ∀ l : List Fi, x ∈ insF f l ↔ x = f ∨ x ∈ l
  | [] => by simp [insF]
  | y :: r => by
    unfold insF
    split
    · simp
    · rw [List.mem_cons, insF_mem f x r, List.mem_cons]
      constructor
      · rintro (h | h | h) <;> simp [h]
      · rintro (h | h | h) <;> simp [h]
theorem insF_pair {f : Fi} : ∀ {l : List Fi}, l.Pairwise sep → (∀ x, x ∈ l → sep f x) → (insF f l).Pairwise sep
  | [], _, _ => by simp [insF]
  | y :: r, hp, hf => by
    obtain ⟨h1, h2⟩ := List.pairwise_cons.1 hp
    unfold insF
    split
    · exact List.pairwise_cons.2 ⟨hf, hp⟩
    · refine List.pairwise_cons.2 ⟨fun x hx => ?_, insF_pair h2 fun x hx => hf x (by simp [hx])⟩
      rcases (insF_mem f x r).1 hx with rfl | hx
      · exact sep_symm (hf y (by simp))
      · exact h1 x hx
theorem used_insM (f : FM) : ∀ l : List FM, used (insM f l) = used l + f.bs.length
  | [] => by simp [insM, used]
  | y :: r => by
    have e : ∀ (b : FM) (r : List FM), used (b :: r) = b.bs.length + used r := fun b r => by simp [used]
    unfold insM
    split
    · rw [e, e]; omega
    · rw [e, e, used_insM f r]; omega
theorem put_ins {f f' : FM} (hn : f'.nm = f.nm) : ∀ {l : List FM}, (∀ x, x ∈ l → x.nm ≠ f.nm) → put1 (insM f l) f' = insM f' l
  | [], _ => by simp [insM, put1, hn]
  | y :: r, h => by
    have hy : ¬ y.nm = f'.nm := fun e => h y (by simp) (e.trans hn)
    have hr : put1 r f' = r := by
      unfold put1
      conv => rhs; rw [← List.map_id r]
      refine List.map_congr_left fun x hx => ?_
      show (if x.nm = f'.nm then f' else x) = x
      rw [if_neg fun e => h x (by simp [hx]) (e.trans hn)]
    have ih := put_ins hn (l := r) fun x hx => h x (by simp [hx])
    unfold insM
    rw [hn]
    split
    · show put1 (f :: y :: r) f' = _
      have : put1 (f :: y :: r) f' = f' :: y :: put1 r f' := by unfold put1; rw [List.map_cons, List.map_cons, if_pos hn.symm, if_neg hy]
      rw [this, hr]
    · have : put1 (y :: insM f r) f' = y :: put1 (insM f r) f' := by unfold put1; rw [List.map_cons, if_neg hy]
      rw [this, ih]
theorem get_none {l : List FM} {nm : ByteArray} : get l nm = none ↔ ∀ x, x ∈ l → x.nm ≠ nm := by
  unfold get
  rw [List.find?_eq_none]
  constructor
  · intro h x hx e; exact h x hx (by simp [e])
  · intro h x hx e; exact h x hx (by simpa using e)
theorem look_none {l : List Fi} {nm : ByteArray} : look l nm = none ↔ ∀ x, x ∈ l → x.nm ≠ nm := by
  unfold look
  rw [List.find?_eq_none]
  constructor
  · intro h x hx e; exact h x hx (by simp [e])
  · intro h x hx e; exact h x hx (by simpa using e)
theorem put_ent {fs : List Fi} {nm : ByteArray} (h : ∀ x, x ∈ fs → x.nm ≠ nm) (d : DataW Unit) : (DataW.map (fs.map ent)).put (kl nm) d = .map (DataW.insert (kl nm, d) (fs.map ent)) := by
  unfold DataW.put
  simp only
  rw [List.filter_eq_self.2]
  intro p hp
  obtain ⟨x, hx, rfl⟩ := List.mem_map.1 hp
  show (!(kl x.nm).sameKey (kl nm)) = true
  rw [kl_same, decide_eq_false (h x hx)]
  rfl
/-- How many entries a map has is no bound but the number. -/
theorem tight {w : World} {b n : Nat} {D : DataW Unit} (h : w.ownsMap Try.prog 9 ptrR b n D) : w.ownsMap Try.prog 9 ptrR b (Maps.size D) D := by
  obtain ⟨es, clock, hb, F, hs, hD⟩ := h
  exact ⟨es, clock, hb, F, by rw [hD]; simp [Maps.size, length_sorted], hD⟩
theorem used_le {l : List FM} (h : ∀ f, f ∈ l → f.bs.length ≤ 16777216) : used l ≤ l.length * 16777216 := by
  induction l with
  | nil => simp [used]
  | cons a l ih =>
    have e : used (a :: l) = a.bs.length + used l := by simp [used]
    have h1 := h a (by simp)
    have h2 := ih fun f hf => h f (by simp [hf])
    rw [e, List.length_cons]
    omega

section
variable {w w' : World} {g : Nat} {S S' T : Nat → Prop} {m : MS} {fs : List Fi} {M : Option Nat} {A : Option Addr} {c : Nat}
theorem Lay.used_le (h : Lay w g S m fs M A c) : used m.fs ≤ 16777216000 := by
  have := Dk.used_le (l := m.fs) fun f hf => by
    rw [h.told] at hf
    obtain ⟨x, hx, rfl⟩ := List.mem_map.1 hf
    exact (h.files.ok x hx).len
  have := h.many
  omega
/-- The blocks of the disk's struct and of its map. -/
def Hd (g : Nat) (M : Option Nat) (k : Nat) : Prop := k = g ∨ M = some k
theorem Files.head_apart {us : List Value} (h : Files w S M fs) (hb : Box w g Ty.disk us) (x : Fi) (hx : x ∈ fs) : ¬ Hd g M x.blk ∧ ∀ k, x.v.ownBlock = some k → ¬ Hd g M k := by
  have o1 := h.ok x hx
  have hm : ∀ k, M = some k → ∃ es clock, w.heap[k]? = some (.map es clock) := fun k hk => by
    rcases h.map with ⟨h0, _⟩ | ⟨b, hM, hs, hm⟩
    · rw [h0] at hk; cases hk
    · rw [hM] at hk
      cases hk
      obtain ⟨es, clock, hh, _⟩ := hm
      exact ⟨es, clock, hh⟩
  constructor
  · rintro (e | e)
    · have h1 := o1.box
      rw [e] at h1
      exact typed hb h1 (by decide)
    · obtain ⟨es, clock, h1⟩ := hm _ e
      have h2 := o1.box
      unfold Box at h2
      rw [h1] at h2
      cases h2
  · intro k hk
    obtain ⟨_, cs, fr, h1⟩ := o1.bytes hk
    rintro (e | e)
    · subst e; exact typed hb h1 (by decide)
    · obtain ⟨es, clock, h2⟩ := hm _ e
      rw [h1] at h2
      cases h2
theorem Lay.head_not_ints (h : Lay w g S m fs M A c) (k : Nat) (hk : Hd g M k) : ¬ ∃ cs fr, w.heap[k]? = some (.cells cs 3 fr) := by
  rintro ⟨cs, fr, h1⟩
  rcases hk with e | e
  · subst e; exact typed h.box h1 (by decide)
  · rcases h.files.map with ⟨h0, _⟩ | ⟨b, hM, hs, hm⟩
    · rw [h0] at e; cases e
    · rw [hM] at e
      cases e
      obtain ⟨es, clock, hh, _⟩ := hm
      rw [hh] at h1
      cases h1
/-- A file more. -/
theorem Lay.add {f0 : Fi} {b : Nat} (h : Lay w g S m fs M A c) (hk : Keep (Hd g M) w w') (hok : f0.ok w' S') (hnew : w.heap.size ≤ f0.blk) (hv : f0.v = .slice none 0 0) (hno : ∀ x, x ∈ fs → x.nm ≠ f0.nm)
    (hmap : w'.ownsMap Try.prog 9 ptrR b (fs.length + 1) (.map ((insF f0 fs).map ent))) (hsb : S' b) (hS : ∀ k, S k → S' k) (hlt : ∀ k, S' k → k < w'.heap.size)
    (hb : Box w' g Ty.disk [.int .i64 (m.room : Int), .int .i64 (used m.fs : Int), .map (some b), .slice A m.armed.length c, .int .i64 (m.failed : Int)]) (h0 : f0.bs = []) (hn : fs.length + 1 ≤ 1000) :
    Lay w' g S' { m with fs := insM f0.m m.fs } (insF f0 fs) (some b) A c := by
  have hu : used (insM f0.m m.fs) = used m.fs := by
    rw [used_insM]
    have : f0.m.bs = [] := h0
    rw [this]
    rfl
  refine ⟨by show Box _ _ _ [_, .int .i64 (used (insM f0.m m.fs) : Int), _, _, _]; rw [hu]; exact hb, hS g h.sg, ⟨.inr ⟨b, rfl, hsb, by rw [insF_length]; exact hmap⟩, fun x hx => ?_, ?_⟩, by rw [insF_told, ← h.told],
    h.armed.keep hk (fun k ht _ => h.head_not_ints k ht) hS, h.cap, h.capm, h.wf, hlt, h.room, by show used (insM f0.m m.fs) ≤ _; rw [hu]; exact h.fits, ?_⟩
  · rcases (insF_mem f0 x fs).1 hx with rfl | hx
    · exact hok
    · obtain ⟨n1, n2⟩ := h.files.head_apart h.box x hx
      exact (h.files.ok x hx).keep0 hk n1 n2 hS
  · refine insF_pair h.files.sep fun x hx => ⟨fun e => ?_, fun e => hno x hx e.symm, fun k hk1 => ?_⟩
    · have := (h.files.ok x hx).box.lt
      omega
    · rw [hv] at hk1
      simp [Value.ownBlock] at hk1
  · show (insM f0.m m.fs).length ≤ 1000
    rw [insM_length, h.told, List.length_map]
    exact hn
end
end Go.Proofs.Ytnbknihaefkllaa.Dk
