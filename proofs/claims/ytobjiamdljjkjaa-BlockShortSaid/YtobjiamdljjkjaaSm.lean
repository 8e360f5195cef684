/- Entries in the order of their keys: what a list of them answers, and what the links of a skip list are. -/
import Derived.Test.YtobjiamdljjkjaaIkm
namespace Go.Proofs.Ytobjiamdljjkjaa.Sk
set_option linter.unusedVariables false
open Ik

/-- An entry, as it is told. -/
structure T where
  k : K
  val : List Nat
theorem K.eq {a b : K} (h : cmpK a b = 0) : a = b := by
  obtain ⟨h1, h2, h3⟩ := (cmpK_zero a b).1 h
  cases a; cases b; simp_all
theorem lt_asymm {a b : K} (h : cmpK a b < 0) : ¬ cmpK b a < 0 := by rw [cmpK_swap]; omega
theorem le_lt {a b c : K} (h1 : cmpK a b ≤ 0) (h2 : cmpK b c < 0) : cmpK a c < 0 := by
  have h := cmpK_trans a b c h1 (by omega)
  by_cases h0 : cmpK a c = 0
  · have := K.eq h0
    subst this
    have := cmpK_swap a b
    omega
  · omega
theorem lt_le {a b c : K} (h1 : cmpK a b < 0) (h2 : cmpK b c ≤ 0) : cmpK a c < 0 := by
  have h := cmpK_trans a b c (by omega) h2
  by_cases h0 : cmpK a c = 0
  · have := K.eq h0
    subst this
    have := cmpK_swap a b
    omega
  · omega
theorem lt_trans {a b c : K} (h1 : cmpK a b < 0) (h2 : cmpK b c < 0) : cmpK a c < 0 := lt_le h1 (by omega)
theorem lt_self (a : K) : ¬ cmpK a a < 0 := by rw [cmpK_self]; decide

section
variable {α β : Type} (f : α → K)
/-- Those before a key; those from it on. -/
def bef (L : List α) (k : K) : List α := L.takeWhile fun q => decide (cmpK (f q) k < 0)
def aft (L : List α) (k : K) : List α := L.dropWhile fun q => decide (cmpK (f q) k < 0)
def Sorted (L : List α) : Prop := L.Pairwise fun p q => cmpK (f p) (f q) < 0
variable {f} {L : List α} {k : K}
theorem bef_aft (L : List α) (k : K) : bef f L k ++ aft f L k = L := List.takeWhile_append_dropWhile
theorem bef_lt : ∀ q, q ∈ bef f L k → cmpK (f q) k < 0 := fun q hq => by
  have : ∀ (l : List α), q ∈ l.takeWhile (fun q => decide (cmpK (f q) k < 0)) → cmpK (f q) k < 0 := by
    intro l
    induction l with
    | nil => intro h; simp at h
    | cons x l ih =>
      intro h
      rw [List.takeWhile_cons] at h
      split at h
      · rename_i hx
        rcases List.mem_cons.1 h with rfl | h
        · simpa using hx
        · exact ih h
      · simp at h
  exact this L hq
theorem aft_head {x : α} {v : List α} (h : aft f L k = x :: v) : ¬ cmpK (f x) k < 0 := by
  have : ∀ (l : List α), l.dropWhile (fun q => decide (cmpK (f q) k < 0)) = x :: v → ¬ cmpK (f x) k < 0 := by
    intro l
    induction l with
    | nil => intro h; simp at h
    | cons y l ih =>
      intro h
      rw [List.dropWhile_cons] at h
      split at h
      · exact ih h
      · rename_i hy
        injection h with h1 h2
        subst h1
        simpa using hy
  exact this L h
theorem aft_ge (hs : Sorted f L) : ∀ q, q ∈ aft f L k → ¬ cmpK (f q) k < 0 := by
  intro q hq
  have h0 := bef_aft (f := f) L k
  rcases h : aft f L k with _ | ⟨x, v⟩
  · rw [h] at hq; simp at hq
  · have hx := aft_head h
    rw [h] at hq
    rcases List.mem_cons.1 hq with rfl | hv
    · exact hx
    · have hs2 : Sorted f (bef f L k ++ aft f L k) := by rw [h0]; exact hs
      have := (List.pairwise_append.1 hs2).2.1
      rw [h] at this
      have := (List.pairwise_cons.1 this).1 q hv
      intro hq
      exact hx (lt_trans this hq)
theorem bef_eq {u v : List α} (hu : ∀ q, q ∈ u → cmpK (f q) k < 0) (hv : ∀ q, q ∈ v → ¬ cmpK (f q) k < 0) : bef f (u ++ v) k = u ∧ aft f (u ++ v) k = v := by
  induction u with
  | nil =>
    rcases v with _ | ⟨x, v⟩
    · exact ⟨rfl, rfl⟩
    · have := hv x (by simp)
      simp [bef, aft, this]
  | cons y u ih =>
    have h1 := hu y (by simp)
    obtain ⟨h2, h3⟩ := ih fun q hq => hu q (by simp [hq])
    constructor
    · simp only [bef, List.cons_append, List.takeWhile_cons, h1, decide_true, if_true] at h2 ⊢
      rw [h2]
    · simp only [aft, List.cons_append, List.dropWhile_cons, h1, decide_true, if_true] at h3 ⊢
      rw [h3]
theorem bef_map (g : β → α) (M : List β) : bef f (M.map g) k = (bef (f ∘ g) M k).map g ∧ aft f (M.map g) k = (aft (f ∘ g) M k).map g := by
  constructor
  · simp only [bef, List.takeWhile_map]; rfl
  · simp only [aft, List.dropWhile_map]; rfl
theorem ins_sorted {q : α} (hs : Sorted f L) (hk : f q = k) (hn : ∀ x v, aft f L k = x :: v → cmpK (f x) k ≠ 0) : Sorted f (bef f L k ++ q :: aft f L k) := by
  have hs2 : Sorted f (bef f L k ++ aft f L k) := by rw [bef_aft]; exact hs
  obtain ⟨h1, h2, h3⟩ := List.pairwise_append.1 hs2
  have hq : ∀ x, x ∈ aft f L k → cmpK k (f x) < 0 := by
    intro x hx
    rcases h : aft f L k with _ | ⟨y, v⟩
    · rw [h] at hx; simp at hx
    · have n1 := aft_head h
      have n2 := hn y v h
      have n3 : cmpK k (f y) < 0 := by rw [cmpK_swap]; omega
      rw [h] at hx h2
      rcases List.mem_cons.1 hx with rfl | hv
      · exact n3
      · exact lt_trans n3 ((List.pairwise_cons.1 h2).1 x hv)
  refine List.pairwise_append.2 ⟨h1, List.pairwise_cons.2 ⟨fun x hx => by rw [hk]; exact hq x hx, h2⟩, fun a ha b hb => ?_⟩
  rcases List.mem_cons.1 hb with rfl | hb
  · rw [hk]; exact bef_lt a ha
  · exact h3 a ha b hb
theorem ins_perm (q : α) : (bef f L k ++ q :: aft f L k).Perm (q :: L) := by
  have := (List.perm_middle (a := q) (l₁ := bef f L k) (l₂ := aft f L k))
  rwa [bef_aft] at this
/-- Lists in order that have the same keys have them in the same places. -/
theorem sorted_ext : ∀ {L M : List K}, Sorted id L → Sorted id M → (∀ x, x ∈ L ↔ x ∈ M) → L = M
  | [], [], _, _, _ => rfl
  | [], y :: M, _, _, h => by have := (h y).2 (by simp); simp at this
  | x :: L, [], _, _, h => by have := (h x).1 (by simp); simp at this
  | x :: L, y :: M, hL, hM, h => by
    obtain ⟨a1, a2⟩ := List.pairwise_cons.1 hL
    obtain ⟨b1, b2⟩ := List.pairwise_cons.1 hM
    have e : x = y := by
      rcases List.mem_cons.1 ((h x).1 (by simp)) with e | e
      · exact e
      · rcases List.mem_cons.1 ((h y).2 (by simp)) with e' | e'
        · exact e'.symm
        · exact absurd (a1 y e') (lt_asymm (b1 x e))
    subst e
    rw [sorted_ext a2 b2 fun z => ?_]
    constructor
    · intro hz
      rcases List.mem_cons.1 ((h z).1 (by simp [hz])) with e | e
      · subst e; exact absurd (a1 z hz) (lt_self z)
      · exact e
    · intro hz
      rcases List.mem_cons.1 ((h z).2 (by simp [hz])) with e | e
      · subst e; exact absurd (b1 z hz) (lt_self z)
      · exact e
end

/-- Links: from a on, through l, to the end. -/
def Path (f : Nat → Nat) : Nat → List Nat → Prop
  | a, [] => f a = 0
  | a, b :: l => f a = b ∧ b ≠ 0 ∧ Path f b l
theorem Path.next {f : Nat → Nat} : ∀ {a : Nat} {u v : List Nat}, Path f a (u ++ v) → f (u.getLastD a) = v.headD 0
  | a, [], [], h => h
  | a, [], x :: v, h => h.1
  | a, b :: u, v, h => by
    have h2 := Path.next (a := b) (u := u) (v := v) h.2.2
    rw [List.getLastD_cons]
    exact h2
theorem Path.congr {f f' : Nat → Nat} : ∀ {a : Nat} {l : List Nat}, (∀ y, y = a ∨ y ∈ l → f' y = f y) → Path f a l → Path f' a l
  | a, [], h, hp => (h a (.inl rfl)).trans hp
  | a, b :: l, h, hp => ⟨(h a (.inl rfl)).trans hp.1, hp.2.1, Path.congr (fun y hy => h y (by rcases hy with rfl | hy <;> simp [*])) hp.2.2⟩
theorem getLastD_mem {a : Nat} {u : List Nat} : u.getLastD a = a ∨ u.getLastD a ∈ u := by
  induction u generalizing a with
  | nil => left; rfl
  | cons b u ih =>
    right
    rw [List.getLastD_cons]
    rcases ih (a := b) with h | h
    · rw [h]; exact List.mem_cons_self
    · exact List.mem_cons_of_mem _ h
theorem Path.insert {f f' : Nat → Nat} {n : Nat} (hn : n ≠ 0) : ∀ {a : Nat} {u v : List Nat}, Path f a (u ++ v) → (a :: (u ++ v)).Nodup → f' (u.getLastD a) = n → f' n = v.headD 0 → (∀ y, y = a ∨ y ∈ u ++ v → y ≠ u.getLastD a → f' y = f y) → Path f' a (u ++ n :: v)
  | a, [], [], h, hd, h1, h2, h3 => ⟨h1, hn, h2⟩
  | a, [], x :: v, h, hd, h1, h2, h3 => by
    refine ⟨h1, hn, h2, h.2.1, Path.congr (fun y hy => h3 y (.inr ?_) ?_) h.2.2⟩
    · rcases hy with rfl | hy <;> simp [*]
    · simp only [List.nil_append] at hd
      have := (List.nodup_cons.1 hd).1
      intro e
      simp only [List.getLastD_nil] at e
      subst e
      rcases hy with rfl | hy
      · simp at this
      · exact this (by simp [hy])
  | a, b :: u, v, h, hd, h1, h2, h3 => by
    have hd2 := List.nodup_cons.1 hd
    rw [List.getLastD_cons] at h1
    refine ⟨?_, h.2.1, Path.insert hn (a := b) (u := u) (v := v) h.2.2 hd2.2 h1 h2 fun y hy hne => h3 y (.inr ?_) ?_⟩
    · rw [h3 a (.inl rfl) ?_]
      · exact h.1
      · intro e
        rw [List.getLastD_cons] at e
        apply hd2.1
        rcases getLastD_mem (a := b) (u := u) with q | q
        · rw [e, q]; exact List.mem_cons_self
        · rw [e]; exact List.mem_cons_of_mem _ (List.mem_append_left _ q)
    · rcases hy with rfl | hy
      · exact List.mem_cons_self
      · exact List.mem_cons_of_mem _ hy
    · rw [List.getLastD_cons]; exact hne

/-- An entry of a skip list: its link, what it tells, its height. -/
structure Q where
  a : Nat
  t : T
  h : Nat
abbrev qk (q : Q) : K := q.t.k
/-- Those on a level. -/
def on (i : Nat) (L : List Q) : List Nat := (L.filter fun q => decide (i < q.h)).map Q.a
theorem on_append (i : Nat) (L M : List Q) : on i (L ++ M) = on i L ++ on i M := by simp [on]
theorem on_mem {i x : Nat} {L : List Q} : x ∈ on i L ↔ ∃ q, q ∈ L ∧ i < q.h ∧ q.a = x := by
  simp [on, and_assoc]
structure Good (nx : Nat → Nat → Nat) (L : List Q) : Prop where
  sorted : Sorted qk L
  idx : ∀ q, q ∈ L → 1 ≤ q.a
  hs : ∀ q, q ∈ L → 1 ≤ q.h ∧ q.h ≤ 12
  nod : (L.map Q.a).Nodup
  path : ∀ i, i < 12 → Path (nx · i) 0 (on i L)
/-- Where a search for k ends on level i. -/
def stop (L : List Q) (k : K) (i : Nat) : Nat := (on i (bef qk L k)).getLastD 0
theorem Good.next {nx : Nat → Nat → Nat} {L : List Q} (h : Good nx L) {i : Nat} (hi : i < 12) {u v : List Nat} (e : on i L = u ++ v) : nx (u.getLastD 0) i = v.headD 0 := by
  have := h.path i hi
  rw [e] at this
  exact this.next
theorem on_nodup {L : List Q} (h : (L.map Q.a).Nodup) (i : Nat) : (on i L).Nodup := by
  have : (on i L).Sublist (L.map Q.a) := List.Sublist.map _ List.filter_sublist
  exact h.sublist this
theorem Good.insert {nx nx' : Nat → Nat → Nat} {L : List Q} (h : Good nx L) (q : Q) (ha : 1 ≤ q.a) (hh : 1 ≤ q.h ∧ q.h ≤ 12) (hnew : ∀ r, r ∈ L → r.a ≠ q.a) (htw : ∀ x v, aft qk L q.t.k = x :: v → cmpK x.t.k q.t.k ≠ 0)
    (h1 : ∀ i, i < q.h → nx' (stop L q.t.k i) i = q.a) (h2 : ∀ i, i < q.h → nx' q.a i = nx (stop L q.t.k i) i) (h3 : ∀ i y, i < 12 → y ≠ q.a → (i < q.h → y ≠ stop L q.t.k i) → nx' y i = nx y i) :
    Good nx' (bef qk L q.t.k ++ q :: aft qk L q.t.k) := by
  have hp := ins_perm (f := qk) (L := L) (k := q.t.k) q
  have hmem : ∀ r, r ∈ bef qk L q.t.k ++ q :: aft qk L q.t.k → r = q ∨ r ∈ L := fun r hr => by
    have := hp.mem_iff.1 hr
    simpa using this
  refine ⟨ins_sorted h.sorted rfl htw, fun r hr => ?_, fun r hr => ?_, ?_, fun i hi => ?_⟩
  · rcases hmem r hr with rfl | hr
    · exact ha
    · exact h.idx r hr
  · rcases hmem r hr with rfl | hr
    · exact hh
    · exact h.hs r hr
  · refine (hp.map Q.a).nodup_iff.2 ?_
    simp only [List.map_cons]
    refine List.nodup_cons.2 ⟨fun hm => ?_, h.nod⟩
    obtain ⟨r, hr, e⟩ := List.mem_map.1 hm
    exact hnew r hr e
  · have hpath := h.path i hi
    have hL : on i L = on i (bef qk L q.t.k) ++ on i (aft qk L q.t.k) := by rw [← on_append, bef_aft]
    have hnn : ∀ y, y ∈ on i L → y ≠ q.a ∧ y ≠ 0 := fun y hy => by
      obtain ⟨r, hr, _, rfl⟩ := on_mem.1 hy
      exact ⟨hnew r hr, by have := h.idx r hr; omega⟩
    by_cases hiq : i < q.h
    · have e : on i (bef qk L q.t.k ++ q :: aft qk L q.t.k) = on i (bef qk L q.t.k) ++ q.a :: on i (aft qk L q.t.k) := by
        rw [on_append]; simp [on, hiq]
      rw [e]
      rw [hL] at hpath
      refine Path.insert (by omega) hpath ?_ (h1 i hiq) ?_ fun y hy hne => h3 i y hi ?_ fun _ => hne
      · rw [← hL]
        exact List.nodup_cons.2 ⟨fun h0 => (hnn 0 h0).2 rfl, on_nodup h.nod i⟩
      · rw [h2 i hiq]
        exact hpath.next
      · rw [← hL] at hy
        rcases hy with rfl | hy
        · omega
        · exact (hnn y hy).1
    · have e : on i (bef qk L q.t.k ++ q :: aft qk L q.t.k) = on i L := by
        rw [hL, on_append]; simp [on, hiq]
      rw [e]
      refine hpath.congr fun y hy => h3 i y hi ?_ fun h0 => absurd h0 hiq
      rcases hy with rfl | hy
      · omega
      · exact (hnn y hy).1
theorem stop_mem {nx : Nat → Nat → Nat} {L : List Q} (k : K) (i : Nat) : stop L k i = 0 ∨ ∃ q, q ∈ L ∧ i < q.h ∧ q.a = stop L k i := by
  rcases getLastD_mem (a := 0) (u := on i (bef qk L k)) with h | h
  · exact .inl h
  · obtain ⟨q, hq, h1, h2⟩ := on_mem.1 h
    exact .inr ⟨q, by rw [← bef_aft (f := qk) L k]; simp [hq], h1, h2⟩
/-- Going down a level, the search goes on within what is before the key. -/
theorem stop_down {L : List Q} (k : K) (i : Nat) : ∃ u v, on i (bef qk L k) = u ++ v ∧ u.getLastD 0 = stop L k (i + 1) := by
  rcases getLastD_mem (a := 0) (u := on (i + 1) (bef qk L k)) with h | h
  · exact ⟨[], _, rfl, h.symm⟩
  · obtain ⟨q, hq, h1, h2⟩ := on_mem.1 h
    have : stop L k (i + 1) ∈ on i (bef qk L k) := on_mem.2 ⟨q, hq, by omega, h2⟩
    obtain ⟨u, v, e⟩ := List.append_of_mem this
    exact ⟨u ++ [stop L k (i + 1)], v, by rw [e]; simp, by simp [List.getLastD_eq_getLast?]⟩

/-- A list of entries, with their heights, as it is told: what it answers. -/
abbrev Row := List (T × Nat)
abbrev rk (r : T × Nat) : K := r.1.k
def seekR (R : Row) (k : K) : Option T := (aft rk R k).head?.map (·.1)
def befR (R : Row) (k : K) : Option T := (bef rk R k).getLast?.map (·.1)
def getR (R : Row) (key : List Nat) (seq : Nat) : Option T := (R.find? fun r => decide (r.1.k.key = key ∧ r.1.k.seq ≤ seq)).map (·.1)
def insR (R : Row) (t : T) (h : Nat) : Row := bef rk R t.k ++ (t, h) :: aft rk R t.k
def twice (R : Row) (k : K) : Prop := ∃ r v, aft rk R k = r :: v ∧ cmpK r.1.k k = 0
def levR (R : Row) (i : Nat) : List T := (R.filter fun r => decide (i < r.2)).map (·.1)
def cost (r : T × Nat) : Nat := r.1.k.key.length + r.1.val.length + 16 + 8 * r.2
def bytesR (R : Row) : Nat := (R.map cost).sum
theorem bytesR_ins (R : Row) (t : T) (h : Nat) : bytesR (insR R t h) = bytesR R + cost (t, h) := by
  unfold bytesR insR
  rw [((ins_perm (f := rk) (L := R) (k := t.k) (t, h)).map cost).sum_nat]
  simp; omega
theorem insR_length (R : Row) (t : T) (h : Nat) : (insR R t h).length = R.length + 1 := by
  have := (ins_perm (f := rk) (L := R) (k := t.k) (t, h)).length_eq
  unfold insR
  rw [this]
  rfl
theorem insR_mem {R : Row} {t : T} {h : Nat} {r : T × Nat} : r ∈ insR R t h ↔ r = (t, h) ∨ r ∈ R := by
  have := (ins_perm (f := rk) (L := R) (k := t.k) (t, h)).mem_iff (a := r)
  unfold insR
  rw [this]
  exact List.mem_cons
theorem insR_sorted {R : Row} {t : T} {h : Nat} (hs : Sorted rk R) (hn : ¬ twice R t.k) : Sorted rk (insR R t h) :=
  ins_sorted hs rfl fun x v e h0 => hn ⟨x, v, e, h0⟩
/-- The height that an entry gets. -/
def hgt (h : Int) : Nat := (min (max h 1) 12).toNat
theorem hgt_le (h : Int) : 1 ≤ hgt h ∧ hgt h ≤ 12 ∧ ((hgt h : Nat) : Int) = min (max h 1) 12 := by unfold hgt; omega
end Go.Proofs.Ytobjiamdljjkjaa.Sk
