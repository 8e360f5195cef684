/- Plain mathematics of the edits: which are right, how each is written, how bytes are read, and that one undoes the other. -/
import Derived.Test.YthhmjjmjicmhdaaBm
namespace Go.Proofs.Ythhmjjmjicmhdaa.Ed
set_option linter.unusedVariables false
set_option linter.unusedSimpArgs false
open Vn Ik Bt

/-- A run and an edit. -/
structure Ru where
  file : Int
  bytes : Int
  count : Int
  first : List Nat
  last : List Nat
  seq : Nat
structure E where
  add : List Ru
  drop : List Int
  next : Int
  log : Int
  seq : Nat
def okR (r : Ru) : Bool :=
  decide (1 ≤ r.file ∧ r.file ≤ 1099511627776) && (decide (1 ≤ r.bytes ∧ r.bytes ≤ 16777216) && (decide (1 ≤ r.count ∧ r.count ≤ 16777216) && (decide (1 ≤ r.first.length ∧ r.first.length ≤ 256) && (decide (1 ≤ r.last.length ∧ r.last.length ≤ 256) &&
    (decide (cmpB r.first r.last ≤ 0) && decide (1 ≤ r.seq ∧ r.seq ≤ 72057594037927935))))))
def okF (x : Int) : Bool := decide (1 ≤ x ∧ x ≤ 1099511627776)
def okN (x : Int) : Bool := decide (0 ≤ x ∧ x ≤ 1099511627776)
def right (e : E) : Bool :=
  decide (e.add.length ≤ 100) && (decide (e.drop.length ≤ 100) && (okN e.next && (okN e.log && (decide (e.seq ≤ 72057594037927935) && (decide (e.add.map (·.file)).Nodup && (decide e.drop.Nodup && (e.add.all okR && e.drop.all okF)))))))
def encI (x : Int) : List Nat := enc x.toNat
def encR (r : Ru) : List Nat := encI r.file ++ (encI r.bytes ++ (encI r.count ++ (text r.first ++ (text r.last ++ (enc r.seq ++ [])))))
def encE (e : E) : List Nat := enc e.add.length ++ (e.add.flatMap encR ++ (enc e.drop.length ++ (e.drop.flatMap encI ++ (encI e.next ++ (encI e.log ++ (enc e.seq ++ []))))))
/-- What Bytes answers. -/
def bytesE (e : E) : List Nat := if right e = true then encE e else []

/-- A reader's answer: an error, or what was read and the bytes behind it. -/
abbrev P (α : Type) := Except Nat (α × List Nat)
section
variable {α β : Type}
def bd (x : P α) (f : α → List Nat → P β) : P β := match x with
  | .error e => .error e
  | .ok (a, r) => f a r
def ret (a : α) (l : List Nat) : P α := .ok (a, l)
def rnum (l : List Nat) : P Nat := if (dec l 0 0).2.2 ≠ 0 then .error (dec l 0 0).2.2 else .ok ((dec l 0 0).1, l.drop (dec l 0 0).2.1)
def cutI (x : Nat) : Int := if 4611686018427387904 < x then 4611686018427387904 else (x : Int)
def rint (l : List Nat) : P Int := bd (rnum l) fun x r => ret (cutI x) r
def upTo (n x : Nat) (r : List Nat) : P Nat := if n < x then .error 2 else ret x r
def rmost (n : Nat) (l : List Nat) : P Nat := bd (rnum l) (upTo n)
def rtake (n : Nat) (r : List Nat) : P (List Nat) := if r.length < n then .error 4 else .ok (r.take n, r.drop n)
def rbytes (l : List Nat) : P (List Nat) := bd (rmost 256 l) rtake
def rrun (l : List Nat) : P Ru := bd (rint l) fun a l => bd (rint l) fun b l => bd (rint l) fun c l => bd (rbytes l) fun f l => bd (rbytes l) fun g l => bd (rnum l) fun s l => ret ⟨a, b, c, f, g, s⟩ l
def rmany (f : List Nat → P α) : Nat → List Nat → P (List α)
  | 0, l => ret [] l
  | n + 1, l => bd (f l) fun a l => bd (rmany f n l) fun as l => ret (a :: as) l
def redit (l : List Nat) : P E := bd (rmost 100 l) fun n l => bd (rmany rrun n l) fun A l => bd (rmost 100 l) fun m l => bd (rmany rint m l) fun D l => bd (rint l) fun x l => bd (rint l) fun y l => bd (rnum l) fun s l => ret ⟨A, D, x, y, s⟩ l
def noE : E := ⟨[], [], 0, 0, 0⟩
/-- What Read answers: the error and the edit. -/
def readE (bs : List Nat) : Nat × E := match redit bs with
  | .error e => (e, noE)
  | .ok (e, r) => if r ≠ [] ∨ right e = false then (2, noE) else (0, e)

/-! ### Forwards -/
/-- The bytes w are the value a, and no part of them is anything. -/
structure Codes (f : List Nat → P α) (a : α) (w : List Nat) : Prop where
  good : ∀ l, f (w ++ l) = .ok (a, l)
  torn : ∀ k, k < w.length → f (w.take k) = .error 4
theorem codes_ret (a : α) : Codes (ret a) a [] := ⟨fun l => rfl, fun k hk => by simp at hk⟩
theorem Codes.bd {f : List Nat → P α} {g : α → List Nat → P β} {a : α} {b : β} {w v : List Nat} (h : Codes f a w) (k : Codes (g a) b v) : Codes (fun l => Ed.bd (f l) g) b (w ++ v) := by
  refine ⟨fun l => ?_, fun i hi => ?_⟩
  · show Ed.bd (f (w ++ v ++ l)) g = _
    rw [List.append_assoc, h.good]
    exact k.good l
  · show Ed.bd (f ((w ++ v).take i)) g = _
    by_cases hw : i < w.length
    · rw [List.take_append_of_le_length (by omega), h.torn i hw]; rfl
    · rw [List.take_append, List.take_of_length_le (by omega), h.good]
      exact k.torn _ (by rw [List.length_append] at hi; omega)
theorem codes_num {x : Nat} (hx : x < 18446744073709551616) : Codes rnum x (enc x) := by
  refine ⟨fun l => ?_, fun k hk => ?_⟩
  · unfold rnum
    rw [dec_enc0 x l hx]
    simp
  · unfold rnum
    have := dec_pre 9 x 0 0 k (by omega) hk
    unfold enc
    rw [this]
    simp
theorem codes_int {x : Int} (h0 : 0 ≤ x) (hx : x ≤ 4611686018427387904) : Codes rint x (encI x) := by
  have h := Codes.bd (codes_num (x := x.toNat) (by omega)) (g := fun x r => ret (cutI x) r) (codes_ret (cutI x.toNat))
  rw [List.append_nil, show cutI x.toNat = x by unfold cutI; rw [if_neg (by omega)]; omega] at h
  exact h
theorem codes_most {n x : Nat} (hx : x ≤ n) (hn : n < 1000000) : Codes (rmost n) x (enc x) := by
  have hg : Codes (upTo n x) x [] := ⟨fun l => by unfold upTo; rw [if_neg (by omega)]; rfl, fun k hk => by simp at hk⟩
  have h := Codes.bd (codes_num (x := x) (by omega)) hg
  rw [List.append_nil] at h
  exact h
theorem codes_take (b : List Nat) : Codes (rtake b.length) b b := by
  refine ⟨fun l => ?_, fun k hk => ?_⟩
  · unfold rtake
    rw [if_neg (by rw [List.length_append]; omega)]
    simp
  · unfold rtake
    rw [if_pos (by rw [List.length_take]; omega)]
theorem codes_bytes {b : List Nat} (h : b.length ≤ 256) : Codes rbytes b (text b) := Codes.bd (codes_most h (by decide)) (codes_take b)
theorem okR_parts {r : Ru} (h : okR r = true) : (1 ≤ r.file ∧ r.file ≤ 1099511627776) ∧ (1 ≤ r.bytes ∧ r.bytes ≤ 16777216) ∧ (1 ≤ r.count ∧ r.count ≤ 16777216) ∧ (1 ≤ r.first.length ∧ r.first.length ≤ 256) ∧ (1 ≤ r.last.length ∧ r.last.length ≤ 256) ∧ cmpB r.first r.last ≤ 0 ∧ (1 ≤ r.seq ∧ r.seq ≤ 72057594037927935) := by
  unfold okR at h
  simp only [Bool.and_eq_true, decide_eq_true_eq] at h
  exact h
theorem codes_run {r : Ru} (h : okR r = true) : Codes rrun r (encR r) := by
  obtain ⟨h1, h2, h3, h4, h5, h6, h7⟩ := okR_parts h
  exact Codes.bd (codes_int (by omega) (by omega)) (Codes.bd (codes_int (by omega) (by omega)) (Codes.bd (codes_int (by omega) (by omega)) (Codes.bd (codes_bytes h4.2) (Codes.bd (codes_bytes h5.2) (Codes.bd (codes_num (by omega)) (codes_ret r))))))
theorem codes_many {f : List Nat → P α} {en : α → List Nat} : ∀ {as : List α}, (∀ a, a ∈ as → Codes f a (en a)) → Codes (rmany f as.length) as (as.flatMap en)
  | [], _ => codes_ret []
  | a :: as, h => by
    have ih := codes_many (f := f) (en := en) (as := as) fun b hb => h b (List.mem_cons_of_mem _ hb)
    have h2 := Codes.bd (h a (List.mem_cons_self ..)) (g := fun a l => Ed.bd (rmany f as.length l) fun as l => ret (a :: as) l) (b := a :: as) (Codes.bd ih (codes_ret (a :: as)))
    rw [List.append_nil] at h2
    rw [List.flatMap_cons]
    exact h2
theorem right_parts {e : E} (h : right e = true) : e.add.length ≤ 100 ∧ e.drop.length ≤ 100 ∧ okN e.next = true ∧ okN e.log = true ∧ e.seq ≤ 72057594037927935 ∧ (e.add.map (·.file)).Nodup ∧ e.drop.Nodup ∧ (∀ r, r ∈ e.add → okR r = true) ∧ ∀ x, x ∈ e.drop → okF x = true := by
  unfold right at h
  simp only [Bool.and_eq_true, decide_eq_true_eq, List.all_eq_true] at h
  exact h
theorem codes_edit {e : E} (h : right e = true) : Codes redit e (encE e) := by
  obtain ⟨h1, h2, h3, h4, h5, h6, h7, h8, h9⟩ := right_parts h
  have n3 := of_decide_eq_true h3
  have n4 := of_decide_eq_true h4
  exact Codes.bd (codes_most h1 (by decide)) (Codes.bd (codes_many fun r hr => codes_run (h8 r hr)) (Codes.bd (codes_most h2 (by decide)) (Codes.bd (codes_many fun x hx => codes_int (by have := of_decide_eq_true (h9 x hx); omega) (by have := of_decide_eq_true (h9 x hx); omega))
    (Codes.bd (codes_int n3.1 (by omega)) (Codes.bd (codes_int n4.1 (by omega)) (Codes.bd (codes_num (by omega)) (codes_ret e)))))))
theorem read_good {e : E} (h : right e = true) (more : List Nat) : readE (encE e ++ more) = if more = [] then (0, e) else (2, noE) := by
  unfold readE
  rw [(codes_edit h).good]
  simp only [h, Bool.true_eq_false, or_false]
  by_cases hm : more = []
  · rw [if_pos hm, if_neg (fun k => k hm)]
  · rw [if_neg hm, if_pos hm]
theorem read_torn {e : E} (h : right e = true) {k : Nat} (hk : k < (encE e).length) : readE ((encE e).take k) = (4, noE) := by
  unfold readE
  rw [(codes_edit h).torn k hk]

/-! ### Backwards -/
def Byt (l : List Nat) : Prop := ∀ c, c ∈ l → c < 256
theorem bd_ok {x : P α} {f : α → List Nat → P β} {b : β} {r : List Nat} (h : bd x f = .ok (b, r)) : ∃ a l, x = .ok (a, l) ∧ f a l = .ok (b, r) := by
  unfold bd at h
  split at h
  · cases h
  · exact ⟨_, _, rfl, h⟩
theorem back_num {l r : List Nat} {x : Nat} (hb : Byt l) (h : rnum l = .ok (x, r)) : l = enc x ++ r ∧ Byt r ∧ x < 18446744073709551616 := by
  unfold rnum at h
  split at h
  · cases h
  · rename_i h0
    simp only [Except.ok.injEq, Prod.mk.injEq] at h
    obtain ⟨rfl, rfl⟩ := h
    have h0 : (dec l 0 0).2.2 = 0 := by omega
    obtain ⟨z, rest, h1, h2, h3, -, h5⟩ := dec_back 9 l 0 0 (dec l 0 0).1 (dec l 0 0).2.1 (by omega) (by simp) hb (Prod.ext rfl (Prod.ext rfl h0))
    have hz : (dec l 0 0).1 = z := by rw [h1]; simp
    rw [hz]
    have hk : (dec l 0 0).2.1 = (enc z).length := by rw [h3]; unfold enc; omega
    rw [hk]
    have hl : l = enc z ++ rest := h2
    have hd : l.drop (enc z).length = rest := by rw [hl]; simp
    rw [hd]
    exact ⟨hl, fun c hc => hb c (by rw [hl]; exact List.mem_append_right _ hc), by omega⟩
theorem back_int {l r : List Nat} {x : Int} (hb : Byt l) (h : rint l = .ok (x, r)) (hx : x < 4611686018427387904) : l = encI x ++ r ∧ Byt r := by
  obtain ⟨a, l', h1, h2⟩ := bd_ok h
  unfold ret at h2
  simp only [Except.ok.injEq, Prod.mk.injEq] at h2
  obtain ⟨h2, rfl⟩ := h2
  obtain ⟨k1, k2, _⟩ := back_num hb h1
  have ha : x.toNat = a := by unfold cutI at h2; split at h2 <;> omega
  unfold encI
  rw [ha]
  exact ⟨k1, k2⟩
theorem back_most {n : Nat} {l r : List Nat} {x : Nat} (hb : Byt l) (h : rmost n l = .ok (x, r)) : l = enc x ++ r ∧ Byt r := by
  obtain ⟨a, l', h1, h2⟩ := bd_ok h
  unfold upTo at h2
  split at h2
  · cases h2
  · unfold ret at h2
    simp only [Except.ok.injEq, Prod.mk.injEq] at h2
    obtain ⟨rfl, rfl⟩ := h2
    obtain ⟨k1, k2, _⟩ := back_num hb h1
    exact ⟨k1, k2⟩
theorem back_bytes {l r b : List Nat} (hb : Byt l) (h : rbytes l = .ok (b, r)) : l = text b ++ r ∧ Byt r := by
  obtain ⟨n, l', h1, h2⟩ := bd_ok h
  obtain ⟨k1, k2⟩ := back_most hb h1
  unfold rtake at h2
  split at h2
  · cases h2
  · simp only [Except.ok.injEq, Prod.mk.injEq] at h2
    obtain ⟨rfl, rfl⟩ := h2
    have hl : (l'.take n).length = n := by rw [List.length_take]; omega
    unfold text
    rw [hl, List.append_assoc, List.take_append_drop]
    exact ⟨k1, fun c hc => k2 c (List.mem_of_mem_drop hc)⟩
theorem back_run {l r : List Nat} {x : Ru} (hb : Byt l) (h : rrun l = .ok (x, r)) (hx : okR x = true) : l = encR x ++ r ∧ Byt r := by
  obtain ⟨o1, o2, o3, -⟩ := okR_parts hx
  obtain ⟨a, l1, h1, h⟩ := bd_ok h
  obtain ⟨b, l2, h2, h⟩ := bd_ok h
  obtain ⟨c, l3, h3, h⟩ := bd_ok h
  obtain ⟨f, l4, h4, h⟩ := bd_ok h
  obtain ⟨g, l5, h5, h⟩ := bd_ok h
  obtain ⟨s, l6, h6, h⟩ := bd_ok h
  unfold ret at h
  simp only [Except.ok.injEq, Prod.mk.injEq] at h
  obtain ⟨rfl, rfl⟩ := h
  simp only at o1 o2 o3
  obtain ⟨e1, b1⟩ := back_int hb h1 (by omega)
  obtain ⟨e2, b2⟩ := back_int b1 h2 (by omega)
  obtain ⟨e3, b3⟩ := back_int b2 h3 (by omega)
  obtain ⟨e4, b4⟩ := back_bytes b3 h4
  obtain ⟨e5, b5⟩ := back_bytes b4 h5
  obtain ⟨e6, b6, _⟩ := back_num b5 h6
  refine ⟨?_, b6⟩
  rw [e1, e2, e3, e4, e5, e6]
  simp [encR]
theorem back_many {f : List Nat → P α} {en : α → List Nat} {ok : α → Prop} (hf : ∀ l a r, Byt l → f l = .ok (a, r) → ok a → l = en a ++ r ∧ Byt r) : ∀ (n : Nat) {l r : List Nat} {as : List α}, Byt l → rmany f n l = .ok (as, r) → (∀ a, a ∈ as → ok a) → l = as.flatMap en ++ r ∧ Byt r ∧ as.length = n
  | 0, l, r, as, hb, h, _ => by
    unfold rmany ret at h
    simp only [Except.ok.injEq, Prod.mk.injEq] at h
    obtain ⟨rfl, rfl⟩ := h
    exact ⟨rfl, hb, rfl⟩
  | n + 1, l, r, as, hb, h, ho => by
    unfold rmany at h
    obtain ⟨a, l1, h1, h⟩ := bd_ok h
    obtain ⟨as', l2, h2, h⟩ := bd_ok h
    unfold ret at h
    simp only [Except.ok.injEq, Prod.mk.injEq] at h
    obtain ⟨rfl, rfl⟩ := h
    obtain ⟨e1, b1⟩ := hf _ _ _ hb h1 (ho a (List.mem_cons_self ..))
    obtain ⟨e2, b2, e3⟩ := back_many hf n b1 h2 fun b hb => ho b (List.mem_cons_of_mem _ hb)
    refine ⟨?_, b2, by rw [List.length_cons, e3]⟩
    rw [e1, e2, List.flatMap_cons, List.append_assoc]
/-- An error is not 0. -/
def Nz (f : List Nat → P α) : Prop := ∀ l e, f l = .error e → e ≠ 0
theorem Nz.bd {f : List Nat → P α} {g : α → List Nat → P β} (h : Nz f) (k : ∀ a, Nz (g a)) : Nz (fun l => Ed.bd (f l) g) := by
  intro l e he
  change Ed.bd (f l) g = _ at he
  unfold Ed.bd at he
  cases hf : f l with
  | error x =>
    rw [hf] at he
    simp only [Except.error.injEq] at he
    rw [← he]; exact h l x hf
  | ok p =>
    obtain ⟨a, r⟩ := p
    rw [hf] at he
    exact k a r e he
theorem nz_ret (a : α) : Nz (ret a) := fun l e h => by cases h
theorem nz_num : Nz rnum := by
  intro l e h
  unfold rnum at h
  split at h
  · rename_i h0
    simp only [Except.error.injEq] at h
    rw [← h]; exact h0
  · cases h
theorem nz_int : Nz rint := Nz.bd nz_num fun a => nz_ret _
theorem nz_most (n : Nat) : Nz (rmost n) := Nz.bd nz_num fun x l e h => by
  unfold upTo at h
  split at h
  · simp only [Except.error.injEq] at h; omega
  · cases h
theorem nz_bytes : Nz rbytes := Nz.bd (nz_most 256) fun n l e h => by
  unfold rtake at h
  split at h
  · simp only [Except.error.injEq] at h; omega
  · cases h
theorem nz_run : Nz rrun := Nz.bd nz_int fun _ => Nz.bd nz_int fun _ => Nz.bd nz_int fun _ => Nz.bd nz_bytes fun _ => Nz.bd nz_bytes fun _ => Nz.bd nz_num fun _ => nz_ret _
theorem nz_many {f : List Nat → P α} (h : Nz f) : ∀ n, Nz (rmany f n)
  | 0 => nz_ret _
  | n + 1 => Nz.bd h fun _ => Nz.bd (nz_many h n) fun _ => nz_ret _
theorem nz_edit : Nz redit := Nz.bd (nz_most 100) fun _ => Nz.bd (nz_many nz_run _) fun _ => Nz.bd (nz_most 100) fun _ => Nz.bd (nz_many nz_int _) fun _ => Nz.bd nz_int fun _ => Nz.bd nz_int fun _ => Nz.bd nz_num fun _ => nz_ret _
theorem read_back {bs : List Nat} (hb : Byt bs) (h : (readE bs).1 = 0) : encE (readE bs).2 = bs ∧ right (readE bs).2 = true := by
  unfold readE at h ⊢
  cases hr : redit bs with
  | error e =>
    rw [hr] at h
    exact absurd h (nz_edit _ _ hr)
  | ok p =>
    obtain ⟨e, r⟩ := p
    rw [hr] at h
    simp only at h ⊢
    split at h
    · cases h
    · rename_i hc
      rw [if_neg hc]
      have h0 : r = [] := Classical.byContradiction fun k => hc (.inl k)
      have hri : right e = true := by
        cases hq : right e with
        | true => rfl
        | false => exact absurd (.inr hq) hc
      refine ⟨?_, hri⟩
      subst h0
      obtain ⟨q1, q2, q3, q4, q5, q6, q7, q8, q9⟩ := right_parts hri
      have n3 := of_decide_eq_true q3
      have n4 := of_decide_eq_true q4
      obtain ⟨n, l1, h1, hr⟩ := bd_ok hr
      obtain ⟨A, l2, h2, hr⟩ := bd_ok hr
      obtain ⟨m, l3, h3, hr⟩ := bd_ok hr
      obtain ⟨D, l4, h4, hr⟩ := bd_ok hr
      obtain ⟨x, l5, h5, hr⟩ := bd_ok hr
      obtain ⟨y, l6, h6, hr⟩ := bd_ok hr
      obtain ⟨s, l7, h7, hr⟩ := bd_ok hr
      unfold ret at hr
      simp only [Except.ok.injEq, Prod.mk.injEq] at hr
      obtain ⟨rfl, rfl⟩ := hr
      simp only at q1 q2 q3 q4 q5 q6 q7 q8 q9 n3 n4
      obtain ⟨e1, b1⟩ := back_most hb h1
      obtain ⟨e2, b2, c2⟩ := back_many (ok := fun r => okR r = true) (fun l a r => back_run) n b1 h2 q8
      obtain ⟨e3, b3⟩ := back_most b2 h3
      obtain ⟨e4, b4, c4⟩ := back_many (ok := fun x => okF x = true) (en := encI) (fun l a r hb h ho => back_int hb h (by have := of_decide_eq_true ho; omega)) m b3 h4 q9
      obtain ⟨e5, b5⟩ := back_int b4 h5 (by omega)
      obtain ⟨e6, b6⟩ := back_int b5 h6 (by omega)
      obtain ⟨e7, b7, _⟩ := back_num b6 h7
      rw [e1, e2, e3, e4, e5, e6, e7, ← c2, ← c4]
      simp [encE]
end
end Go.Proofs.Ythhmjjmjicmhdaa.Ed
