/- The document's reader of edits, from single numbers to rows of runs, told as a reader that stops at its first error. -/
import Derived.Test.YthhmjjmjicmhdaaGetv
import Derived.Test.YthhmjjmjicmhdaaBm
import Derived.Test.YthhmjjmjicmhdaaSeg
import Derived.Test.YthhmjjmjicmhdaaEm
import Derived.Test.YthhmjjmjicmhdaaOwn
import Derived.Test.YthhmjjmjicmhdaaEfr
import Derived.Deep.DeepCutAuto
import Derived.Deep.Cut
import Derived.StillTailTactics
import Derived.Test.YthhmjjmjicmhdaaMade
import Derived.Test.YthhmjjmjicmhdaaEac
/- Small facts for readers of bytes: what a varint's decoding comes to, parts of slices. (As in XBrd1, XBrd2, XBref1, without package batch.) -/
namespace Go.Proofs.Ythhmjjmjicmhdaa.Ed
set_option linter.unusedVariables false
set_option linter.unusedSimpArgs false
open Go.RowKit Lift Ik Vn Vt
theorem slice_at (A : Option Addr) (n c p m : Nat) (h : p + m ≤ n) (hc : n ≤ c) (hm : c ≤ maxLen) :
    ∃ A', (0 < m → A' = A.map (·.add p)) ∧ (A.isSome = true → A'.isSome = true) ∧ ∀ W : World, Sem.run Try.prog (Instr.slice 29 (.slice A n c) (some (.int .i64 (p : Int))) (some (.int .i64 ((p : Int) + (m : Int)))) none) W = .ok (.slice A' m (c - p)) W := by
  unfold maxLen at hm
  by_cases hcp : c = p
  · refine ⟨A, fun h0 => by omega, id, fun W => ?_⟩
    obtain rfl : m = 0 := by omega
    obtain rfl : n = p := by omega
    subst hcp
    go_simp
  · refine ⟨A.map (·.add p), fun _ => rfl, fun h => by simpa using h, fun W => ?_⟩
    go_simp
    rw [if_pos ⟨by omega, by omega⟩, if_pos (by omega), show ((p : Int) + (m : Int)).toNat - p = m by omega]
theorem dec_three : ∀ (l : List Nat) (i y : Nat), (dec l i y).2.2 = 0 ∨ (dec l i y).2.2 = 2 ∨ (dec l i y).2.2 = 4 := by
  intro l
  induction l with
  | nil => intro i y; simp [dec]
  | cons c l ih =>
    intro i y
    simp only [dec]
    split
    · simp
    · split
      · simp
      · exact ih _ _
theorem dec_len : ∀ (l : List Nat) (i y : Nat), (dec l i y).2.2 = 0 → i + 1 ≤ (dec l i y).2.1 ∧ (dec l i y).2.1 ≤ i + l.length := by
  intro l
  induction l with
  | nil => intro i y h; simp [dec] at h
  | cons c l ih =>
    intro i y h
    simp only [dec] at h ⊢
    split
    · rename_i h1
      rw [if_pos h1] at h
      cases h
    · rename_i h1
      rw [if_neg h1] at h
      split
      · simp
      · rename_i h2
        rw [if_neg h2] at h
        have := ih _ _ h
        simp
        omega

theorem res_at (bs : List Nat) (p : Nat) (h : p ≤ bs.length) {x k er : Nat} (hd : dec (bs.drop p) 0 0 = (x, k, er)) : Vt.told (Vt.res bs (p : Int)) = .returned (.tuple #[.int .u64 (x : Int), .int .i64 ((if er = 0 then p + k else 0 : Nat) : Int), .int .i64 (er : Int)]) := by
  have e : decAt bs p = (x, k, er) := hd
  unfold Vt.told Vt.res
  rw [if_neg (by omega), Int.toNat_natCast, e]

theorem sub_lies {w : World} {B p m : Nat} {A A' : Option Addr} {bs : List Nat} (hl : Lies w B A (bs.map Vt.vb)) (h : p + m ≤ bs.length) (hA : 0 < m → A' = A.map (·.add p)) : Lies w B A' (((bs.drop p).take m).map Vt.vb) := by
  by_cases h0 : m = 0
  · left; subst h0; simp
  · rw [hA (by omega)]
    obtain ⟨ad, rfl, hadb, hcell⟩ := hl.place (by simp; omega)
    refine .inr ⟨ad.add p, rfl, by rw [add_block]; exact hadb, fun j u hj => ?_⟩
    rw [add_add]
    refine hcell _ _ ?_
    rw [← hj, List.getElem?_map, List.getElem?_map, List.getElem?_take_of_lt, List.getElem?_drop]
    have := (List.getElem?_eq_some_iff.1 hj).1
    simp at this
    omega
end Go.Proofs.Ythhmjjmjicmhdaa.Ed

/- The document's own reader of edits: number, int, most. -/
namespace Go.Proofs.Ythhmjjmjicmhdaa.Ed
set_option linter.unusedVariables false
set_option linter.unusedSimpArgs false
open Go.RowKit Lift Ik Vn
section
variable {α β : Type} {f : List Nat → P α} {bs : List Nat} {p q er er' : Nat}
/-- How a reader goes on from place and error to the next ones, where it read a. -/
def Rel (f : List Nat → P α) (bs : List Nat) (p er : Nat) (a : α) (q er' : Nat) : Prop :=
  (er ≠ 0 ∧ er' = er) ∨ (er = 0 ∧ ((er' = 0 ∧ f (bs.drop p) = .ok (a, bs.drop q)) ∨ (er' ≠ 0 ∧ f (bs.drop p) = .error er')))
theorem Rel.bd {g : α → List Nat → P β} {a : α} {b : β} {q' er'' : Nat} (h : Rel f bs p er a q er') (k : Rel (g a) bs q er' b q' er'') : Rel (fun l => Ed.bd (f l) g) bs p er b q' er'' := by
  rcases h with ⟨h1, h2⟩ | ⟨h1, ⟨h2, h3⟩ | ⟨h2, h3⟩⟩
  · subst h2
    rcases k with ⟨_, k2⟩ | ⟨k1, _⟩
    · exact .inl ⟨h1, k2⟩
    · exact absurd k1 h1
  · subst h2
    rcases k with ⟨k1, _⟩ | ⟨_, ⟨k2, k3⟩ | ⟨k2, k3⟩⟩
    · exact absurd rfl k1
    · exact .inr ⟨h1, .inl ⟨k2, by show Ed.bd (f (bs.drop p)) g = _; rw [h3]; exact k3⟩⟩
    · exact .inr ⟨h1, .inr ⟨k2, by show Ed.bd (f (bs.drop p)) g = _; rw [h3]; exact k3⟩⟩
  · rcases k with ⟨k1, k2⟩ | ⟨k1, _⟩
    · exact .inr ⟨h1, .inr ⟨by rw [k2]; exact h2, by show Ed.bd (f (bs.drop p)) g = _; rw [h3, k2]; rfl⟩⟩
    · exact absurd k1 h2
theorem rel_ret (a : α) : Rel (ret a) bs p er a p er := by
  by_cases h : er = 0
  · exact .inr ⟨h, .inl ⟨h, rfl⟩⟩
  · exact .inl ⟨h, rfl⟩
end
/-- The reader in block g, over the bytes bs below it: at the place p, with the error er. -/
structure At (w : World) (g : Nat) (A : Option Addr) (c : Nat) (bs : List Nat) (p er : Nat) : Prop where
  box : Box w g 72 [.slice A bs.length c, .int .i64 (p : Int), .int .i64 (er : Int)]
  lies : Lies w g A (bs.map vb)
  len : bs.length ≤ c
  cap : c ≤ maxLen
  few : bs.length ≤ 20000000
  byt : Byt bs
  le : p ≤ bs.length
  low : er ≤ 100
section
variable {w w' : World} {g : Nat} {A : Option Addr} {c : Nat} {bs : List Nat} {p q er er' : Nat}
theorem At.same (h : At w g A c bs p er) (hk : ∀ k, k ≤ g → w'.heap[k]? = w.heap[k]?) : At w' g A c bs p er :=
  ⟨h.box.at_block (hk g (Nat.le_refl _)), h.lies.later fun p hp => World.cell?_of_block (w := w) (hk p.block (Nat.le_of_lt hp)), h.len, h.cap, h.few, h.byt, h.le, h.low⟩
theorem At.below (h : At w g A c bs p er) (hb : Below w.heap.size w w') : At w' g A c bs p er := h.same fun k hk => hb.block k (Nat.lt_of_le_of_lt hk h.box.lt)
theorem At.put (h : At w g A c bs p er) (hp : q ≤ bs.length) (he : er' ≤ 100) (hk : Keep (· = g) w w') (hb : Box w' g 72 [.slice A bs.length c, .int .i64 (q : Int), .int .i64 (er' : Int)]) : At w' g A c bs q er' :=
  ⟨hb, h.lies.later fun p hp => World.cell?_of_block (w := w) (hk.block p.block (Nat.lt_trans hp h.box.lt) (Nat.ne_of_lt hp)), h.len, h.cap, h.few, h.byt, hp, he⟩
/-- What a call that reads a by f leaves. -/
def Went {α : Type} (w : World) (g : Nat) (A : Option Addr) (c : Nat) (bs : List Nat) (p er : Nat) (f : List Nat → P α) (a : α) (w' : World) : Prop :=
  ∃ q er', At w' g A c bs q er' ∧ Keep (· = g) w w' ∧ Rel f bs p er a q er'
theorem drop_drop_len {l : List Nat} {p k : Nat} : (l.drop p).drop k = l.drop (p + k) := by rw [List.drop_drop]
set_option maxRecDepth 100000 in
set_option maxHeartbeats 400000 in
theorem number_any (h : At w g A c bs p er) : Calls Try.prog (49) #[.pointer (some ⟨g, 0, none⟩)] w fun e w' => ∃ x : Nat, e = .returned (.int .u64 (x : Int)) ∧ x < 18446744073709551616 ∧ (er ≠ 0 → x = 0) ∧ Went w g A c bs p er rnum x w' := by
  by_cases h0 : er = 0
  · subst h0
    obtain ⟨x, k, e1, hd⟩ : ∃ x k e1, dec (bs.drop p) 0 0 = (x, k, e1) := ⟨_, _, _, rfl⟩
    have hget := fun m => Vt.getv_calls A c g bs (p : Int) (w.drewN m) (h.lies.later fun _ _ => rfl) h.len (Nat.le_trans h.len h.cap) h.byt
    rw [res_at bs p h.le hd] at hget
    have h3 := dec_three (bs.drop p) 0 0
    have hlen := dec_len (bs.drop p) 0 0
    rw [hd] at h3 hlen
    simp only at h3 hlen
    have hlp : (bs.drop p).length = bs.length - p := List.length_drop
    have hnum : rnum (bs.drop p) = if e1 ≠ 0 then .error e1 else .ok (x, (bs.drop p).drop k) := by unfold rnum; rw [hd]
    obtain ⟨f0, f1, f2, z0, z1, z2⟩ := h.box.facts3
    have H := Lib.hid h
    by_cases he : e1 = 0
    · subst he
      rw [if_pos rfl] at hget
      have hx : x < 18446744073709551616 := (back_num (fun c hc => h.byt c (List.mem_of_mem_drop hc)) (by rw [hnum, if_neg (by simp)])).2.2
      have HG := Lib.hid hget
      have HN : Hid (rnum (bs.drop p) = .ok (x, bs.drop (p + k))) := Lib.hid (by rw [hnum, if_neg (by simp), List.drop_drop])
      have HLE : Hid (p + k ≤ bs.length) := Lib.hid (by have := hlen rfl; have := h.le; omega)
      have HX := Lib.hid hx
      clear h hget hd h3 hlen hnum hlp hx
      go_enter (Try.func49), (Try.ntmps49)
      go_wp2_with fail
      go_quiet (first | (go_at_call 78; refine Calls.quiet_of_same ((HG.out _).mono fun e w' hh => ⟨hh.1, hh.2.symm⟩)))
      have hd := (Joins.below_draws _ _ nq : Below w.heap.size w (w.drewN nq))
      have H1 := Lib.hid (H.out.below hd)
      have z1 : (w.drewN nq).frozen? ⟨g, 1, none⟩ = false := H1.out.box.free 1
      have f1 : (w.drewN nq).cell? ⟨g, 1, none⟩ = some (.int .i64 (p : Int)) := H1.out.box.cell 1
      have HK := Lib.hid (below_keep (S := (· = g)) hd)
      clear hd
      generalize w.drewN nq = w1 at *
      go_wp2_with fail
      go_ret
      refine ⟨x, rfl, HX.out, fun k => absurd rfl k, p + k, 0, H1.out.put HLE.out (by decide) ((Keep.refl (· = g) w1).setCell (p := ⟨g, 1, none⟩) (.inr rfl) _) (H1.out.box.set 1 _), HK.out.trans ((Keep.refl (· = g) w1).setCell (p := ⟨g, 1, none⟩) (.inr rfl) _) fun _ _ => id, .inr ⟨rfl, .inl ⟨rfl, HN.out⟩⟩⟩
    · rw [if_neg he] at hget
      have HG := Lib.hid hget
      have HN : Hid (rnum (bs.drop p) = .error e1) := Lib.hid (by rw [hnum, if_pos he])
      have HE : Hid (e1 ≠ 0 ∧ e1 ≤ 100) := Lib.hid ⟨he, by omega⟩
      have t1 : ((e1 : Int) != 0) = true := by rw [bne_iff_ne]; omega
      clear h hget hd h3 hlen hnum hlp he
      go_enter (Try.func49), (Try.ntmps49)
      go_wp2_with fail
      go_quiet (first | (go_at_call 78; refine Calls.quiet_of_same ((HG.out _).mono fun e w' hh => ⟨hh.1, hh.2.symm⟩)))
      have hd := (Joins.below_draws _ _ nq : Below w.heap.size w (w.drewN nq))
      have H1 := Lib.hid (H.out.below hd)
      have z1 : (w.drewN nq).frozen? ⟨g, 2, none⟩ = false := H1.out.box.free 2
      have f1 : (w.drewN nq).cell? ⟨g, 2, none⟩ = some (.int .i64 (0 : Int)) := H1.out.box.cell 2
      have HK := Lib.hid (below_keep (S := (· = g)) hd)
      clear hd
      generalize w.drewN nq = w1 at *
      go_wp2_with fail
      go_ret
      exact ⟨0, rfl, by decide, fun _ => rfl, p, e1, H1.out.put H1.out.le HE.out.2 ((Keep.refl (· = g) w1).setCell (p := ⟨g, 2, none⟩) (.inr rfl) _) (H1.out.box.set 2 _), HK.out.trans ((Keep.refl (· = g) w1).setCell (p := ⟨g, 2, none⟩) (.inr rfl) _) fun _ _ => id, .inr ⟨rfl, .inr ⟨HE.out.1, HN.out⟩⟩⟩
  · obtain ⟨f0, f1, f2, z0, z1, z2⟩ := h.box.facts3
    have H := Lib.hid h
    have t1 : ((er : Int) != 0) = true := by rw [bne_iff_ne]; omega
    have HE := Lib.hid h0
    clear h h0
    go_enter (Try.func49), (Try.ntmps49)
    go_wp2_with fail
    go_ret
    exact ⟨0, rfl, by decide, fun _ => rfl, p, er, H.out, Keep.refl _ _, .inl ⟨HE.out, rfl⟩⟩
end
end Go.Proofs.Ythhmjjmjicmhdaa.Ed

/- The document's own reader of edits: int, most, bytes. -/
namespace Go.Proofs.Ythhmjjmjicmhdaa.Ed
set_option linter.unusedVariables false
set_option linter.unusedSimpArgs false
open Go.RowKit Lift Ik Vn
section
variable {w w' : World} {g : Nat} {A : Option Addr} {c : Nat} {bs : List Nat} {p q er er' : Nat}
theorem cutI_wf (x : Nat) : 0 ≤ cutI x ∧ cutI x ≤ 4611686018427387904 := by unfold cutI; split <;> omega
theorem int_any (h : At w g A c bs p er) : Calls Try.prog (47) #[.pointer (some ⟨g, 0, none⟩)] w fun e w' => ∃ z : Int, e = .returned (.int .i64 z) ∧ 0 ≤ z ∧ z ≤ 4611686018427387904 ∧ Went w g A c bs p er rint z w' := by
  have HN := Lib.hid (number_any h)
  clear h
  go_enter (Try.func47), (Try.ntmps47)
  go_wp2_with fail
  refine HN.out.mono ?_
  rintro e w1 ⟨x, rfl, hx, -, q, er1, h1, hk, hr⟩
  have H : Hid (Went w g A c bs p er rint (cutI x) w1) := Lib.hid ⟨q, er1, h1, hk, hr.bd (rel_ret _)⟩
  clear h1 hk hr HN
  by_cases hb : 4611686018427387904 < x
  · have d1 : decide ((4611686018427387904 : Int) < (x : Int)) = true := decide_eq_true (by omega)
    have d2 : decide (4611686018427387904 < x) = true := decide_eq_true hb
    have HC : Hid (cutI x = 4611686018427387904) := Lib.hid (if_pos hb)
    clear hb
    go_wp2_with fail
    go_ret
    exact ⟨_, rfl, by decide, by decide, by have := H.out; rw [HC.out] at this; exact this⟩
  · have d1 : decide ((4611686018427387904 : Int) < (x : Int)) = false := decide_eq_false (by omega)
    have d2 : decide (4611686018427387904 < x) = false := decide_eq_false hb
    have HC : Hid (cutI x = (x : Int)) := Lib.hid (if_neg hb)
    have HX := Lib.hid hb
    have wr : IntKind.i64.wrap (x : Int) = (x : Int) := IntWalk.i64_in _ (by omega)
    clear hb
    go_wp2_with fail
    go_ret
    exact ⟨_, rfl, by omega, by have := HX.out; omega, by have := H.out; rw [HC.out] at this; exact this⟩
theorem most_any (h : At w g A c bs p er) (n : Nat) (hn : n < 1000000) : Calls Try.prog (46) #[.pointer (some ⟨g, 0, none⟩), .int .i64 (n : Int)] w fun e w' => ∃ m : Nat, e = .returned (.int .i64 (m : Int)) ∧ m ≤ n ∧ Went w g A c bs p er (rmost n) m w' := by
  have HN := Lib.hid (number_any h)
  have u1 := u64_in n (by omega)
  clear h
  go_enter (Try.func46), (Try.ntmps46)
  go_wp2_with fail
  refine HN.out.mono ?_
  rintro e w1 ⟨x, rfl, hx, -, q, er1, h1, hk, hr⟩
  obtain ⟨f0, f1, f2, z0, z1, z2⟩ := h1.box.facts3
  have H1 := Lib.hid h1
  have HK := Lib.hid hk
  have HR := Lib.hid hr
  clear h1 hk hr HN f0 f1 z0 z1
  by_cases h0 : er1 = 0
  · subst h0
    by_cases hb : n < x
    · have d1 : decide (n < x) = true := decide_eq_true hb
      have HB := Lib.hid hb
      clear hb
      go_wp2_with fail
      go_ret
      exact ⟨0, rfl, Nat.zero_le _, q, 2, H1.out.put H1.out.le (by decide) ((Keep.refl (· = g) w1).setCell (p := ⟨g, 2, none⟩) (.inr rfl) _) (H1.out.box.set 2 _), HK.out.trans ((Keep.refl (· = g) w1).setCell (p := ⟨g, 2, none⟩) (.inr rfl) _) fun _ _ => id,
        HR.out.bd (.inr ⟨rfl, .inr ⟨by decide, if_pos HB.out⟩⟩)⟩
    · have d1 : decide (n < x) = false := decide_eq_false hb
      have HB := Lib.hid hb
      have wr : IntKind.i64.wrap (x : Int) = (x : Int) := IntWalk.i64_in _ (by omega)
      clear hb
      go_wp2_with fail
      go_ret
      exact ⟨x, rfl, by have := HB.out; omega, q, 0, H1.out, HK.out, HR.out.bd (.inr ⟨rfl, .inl ⟨rfl, if_neg HB.out⟩⟩)⟩
  · have t1 : ((er1 : Int) == 0) = false := by rw [beq_eq_false_iff_ne]; omega
    have t2 : ((er1 : Int) != 0) = true := by rw [bne_iff_ne]; omega
    have HE := Lib.hid h0
    clear h0
    go_wp2_with fail
    go_ret
    exact ⟨0, rfl, Nat.zero_le _, q, er1, H1.out, HK.out, HR.out.bd (.inl ⟨HE.out, rfl⟩)⟩
set_option maxRecDepth 100000 in
set_option maxHeartbeats 400000 in
theorem bytes_rd (h : At w g A c bs p er) : Calls Try.prog (48) #[.pointer (some ⟨g, 0, none⟩)] w fun e w' => ∃ A1 c1 b, e = .returned (.slice A1 b.length c1) ∧ New w w' A1 c1 b ∧ b.length ≤ 256 ∧ Went w g A c bs p er rbytes b w' := by
  have HN := Lib.hid (most_any h 256 (by decide))
  clear h
  go_enter (Try.func48), (Try.ntmps48)
  go_wp2_with fail
  refine HN.out.mono ?_
  rintro e w1 ⟨m, rfl, hm, q, er1, h1, hk, hr⟩
  obtain ⟨f0, f1, f2, z0, z1, z2⟩ := h1.box.facts3
  have H1 := Lib.hid h1
  have HK := Lib.hid hk
  have HR := Lib.hid hr
  have b1 := h1.le
  have b2 := h1.few
  clear h1 hk hr HN
  by_cases h0 : er1 = 0
  · subst h0
    by_cases hb : bs.length - q < m
    · have d1 : decide ((bs.length : Int) - (q : Int) < (m : Int)) = true := decide_eq_true (by omega)
      have HB := Lib.hid hb
      clear hb
      go_wp2_with fail
      go_quiet (fail)
      have hd := (Joins.below_draws _ _ nq : Below w1.heap.size w1 (w1.drewN nq))
      have H2 := Lib.hid (H1.out.below hd)
      have HK2 := Lib.hid (HK.out.trans (below_keep (S := (· = g)) hd) fun _ _ => id)
      have z2 : (w1.drewN nq).frozen? ⟨g, 2, none⟩ = false := H2.out.box.free 2
      have f2 : (w1.drewN nq).cell? ⟨g, 2, none⟩ = some (.int .i64 (0 : Int)) := H2.out.box.cell 2
      clear hd f0 f1 z0 z1 H1 HK
      generalize w1.drewN nq = w2 at *
      go_wp2_with fail
      go_ret
      exact ⟨none, 0, [], rfl, new_nil _ _, by decide, q, 4, H2.out.put H2.out.le (by decide) ((Keep.refl (· = g) w2).setCell (p := ⟨g, 2, none⟩) (.inr rfl) _) (H2.out.box.set 2 _), HK2.out.trans ((Keep.refl (· = g) w2).setCell (p := ⟨g, 2, none⟩) (.inr rfl) _) fun _ _ => id,
        HR.out.bd (.inr ⟨rfl, .inr ⟨by decide, if_pos (by rw [List.length_drop]; exact HB.out)⟩⟩)⟩
    · have d1 : decide ((bs.length : Int) - (q : Int) < (m : Int)) = false := decide_eq_false (by omega)
      have HB : Hid (q + m ≤ bs.length) := Lib.hid (by omega)
      clear hb
      go_wp2_with fail
      go_quiet (fail)
      have hd := (Joins.below_draws _ _ nq : Below w1.heap.size w1 (w1.drewN nq))
      have H2 := Lib.hid (H1.out.below hd)
      have HK2 := Lib.hid (HK.out.trans (below_keep (S := (· = g)) hd) fun _ _ => id)
      have z1 : (w1.drewN nq).frozen? ⟨g, 1, none⟩ = false := H2.out.box.free 1
      have f1 : (w1.drewN nq).cell? ⟨g, 1, none⟩ = some (.int .i64 (q : Int)) := H2.out.box.cell 1
      clear hd f0 f2 z0 z2 H1 HK
      generalize w1.drewN nq = w2 at *
      go_upto_region 8 with fail
      have hk3 := (Keep.refl (· = g) w2).setCell (p := ⟨g, 1, none⟩) (.inr rfl) (.int .i64 ((q : Int) + (m : Int)))
      have H3 : Hid (At (w2.setCell ⟨g, 1, none⟩ (.int .i64 ((q : Int) + (m : Int)))) g A c bs (q + m) 0) := Lib.hid (H2.out.put HB.out (by decide) hk3 (by have := H2.out.box.set 1 (.int .i64 ((q : Int) + (m : Int))); exact this))
      have HK3 := Lib.hid (HK2.out.trans hk3 fun _ _ => id)
      clear hk3 f1 z1 H2 HK2
      generalize w2.setCell ⟨g, 1, none⟩ (.int .i64 ((q : Int) + (m : Int))) = w3 at *
      have f0 : w3.cell? ⟨g, 0, none⟩ = some (.slice A bs.length c) := H3.out.box.cell 0
      have f1 : w3.cell? ⟨g, 1, none⟩ = some (.int .i64 ((q : Int) + (m : Int))) := by have := H3.out.box.cell 1; simpa using this
      obtain ⟨A', hA', -, hsl⟩ := slice_at A bs.length c q m HB.out H3.out.len H3.out.cap
      have HLS := Lib.hid (sub_lies H3.out.lies HB.out hA')
      have hml : ((bs.drop q).take m).length = m := by rw [List.length_take, List.length_drop]; have := HB.out; omega
      obtain ⟨F, hF⟩ : ∃ F, F = (bs.drop q).take m := ⟨_, rfl⟩
      rw [← hF] at HLS hml
      have HF := Lib.hid hF
      have HFL := Lib.hid hml
      obtain ⟨v, w4, hr4, ho4, hb4, -⟩ := run_append_lies (P := Try.prog) (w := w3.drew) (base := w3.drew.heap.size) (m := m) (c := c - q) 29 29 5 (.int .u8 0) 1 1 Try.underlying29 (by kernel_rfl) rfl (by decide)
        (fun u hu => by simp at hu; obtain ⟨_, _, rfl⟩ := hu; rfl) (World.ownsRow_nil _ _ _ _) HLS.out (by simp [hml]) (by unfold maxLen; omega) (by omega) (Nat.le_refl _)
      rw [Nat.zero_add, List.nil_append] at ho4
      obtain ⟨A4, c4, rfl, hc4, hm4, -⟩ := own_parts ho4
      have HO4 := Lib.hid (LiesP.of_own ho4)
      have HR4 := Lib.hid hr4
      have HB4 := Lib.hid hb4
      have HCL := Lib.hid (show m ≤ c4 ∧ c4 ≤ maxLen from ⟨hc4, hm4⟩)
      clear hml hF hA' ho4 hr4 hb4 hc4 hm4
      have wq : IntKind.i64.wrap (q : Int) = (q : Int) := IntWalk.i64_in _ (by omega)
      go_still_tail 15, (by kernel_rfl)
      change wpList _ _ _ _ _ w3.drew
      go_wp2_with (at_builtin; refine wpList_append_run rfl _ _ 29 rfl rfl rfl HR4.out ?_)
      go_ret
      have hsz : w.heap.size ≤ w3.heap.size := HK3.out.size
      refine ⟨A4, c4, F, by rw [HFL.out]; rfl, ⟨HO4.out.later (fun _ _ => rfl) fun k hk => ⟨Nat.le_trans hsz hk.1, hk.2⟩, by rw [HFL.out]; exact HCL.out.1, HCL.out.2, fun x hx => H3.out.byt x ?_⟩, by rw [HFL.out]; exact hm, q + m, 0, (H3.out.below (Below.refl _ _).drew).below HB4.out, HK3.out.trans (below_keep (((Below.refl _ _).drew).trans HB4.out)) fun _ _ => id, HR.out.bd (.inr ⟨rfl, .inl ⟨rfl, ?_⟩⟩)⟩
      · rw [HF.out] at hx; exact List.mem_of_mem_drop (List.mem_of_mem_take hx)
      · unfold rtake
        rw [if_neg (by rw [List.length_drop]; have := HB.out; omega), HF.out, List.drop_drop]
  · have t2 : ((er1 : Int) != 0) = true := by rw [bne_iff_ne]; omega
    have HE := Lib.hid h0
    clear h0
    go_wp2_with fail
    go_ret
    exact ⟨none, 0, [], rfl, new_nil _ _, by decide, q, er1, H1.out, HK.out, HR.out.bd (.inl ⟨HE.out, rfl⟩)⟩
end
end Go.Proofs.Ythhmjjmjicmhdaa.Ed

/- The document's own ReadEdit: what its loops keep. -/
namespace Go.Proofs.Ythhmjjmjicmhdaa.Ed
set_option linter.unusedVariables false
set_option linter.unusedSimpArgs false
open Go.RowKit Lift Ik
section
variable {α β : Type} {f : List Nat → P α} {bs : List Nat} {p q er er' : Nat}
theorem rmany_snoc : ∀ (n : Nat) (l : List Nat), rmany f (n + 1) l = Ed.bd (rmany f n l) fun xs l => Ed.bd (f l) fun a l => ret (xs ++ [a]) l
  | 0, l => by
    show Ed.bd (f l) (fun a l => Ed.bd (ret [] l) fun xs l => ret (a :: xs) l) = Ed.bd (ret [] l) _
    rfl
  | n + 1, l => by
    have hl : rmany f (n + 1 + 1) l = Ed.bd (f l) fun a l => Ed.bd (rmany f (n + 1) l) fun xs l => ret (a :: xs) l := rfl
    have hr : rmany f (n + 1) l = Ed.bd (f l) fun a l => Ed.bd (rmany f n l) fun xs l => ret (a :: xs) l := rfl
    rw [hl, hr]
    cases hf : f l with
    | error e => rfl
    | ok x =>
      obtain ⟨a, r⟩ := x
      show Ed.bd (rmany f (n + 1) r) _ = Ed.bd (Ed.bd (rmany f n r) _) _
      rw [rmany_snoc n r]
      cases hm : rmany f n r with
      | error e => rfl
      | ok y =>
        obtain ⟨xs, r2⟩ := y
        show Ed.bd (Ed.bd (f r2) _) _ = Ed.bd (f r2) _
        cases hg : f r2 with
        | error e => rfl
        | ok z => rfl
theorem Rel.snoc {n : Nat} {xs : List α} {a : α} {q' er'' : Nat} (h : Rel (rmany f n) bs p er xs q er') (k : Rel f bs q er' a q' er'') : Rel (rmany f (n + 1)) bs p er (xs ++ [a]) q' er'' := by
  have h2 := h.bd (g := fun xs l => Ed.bd (f l) fun a l => ret (xs ++ [a]) l) (k.bd (g := fun a l => ret (xs ++ [a]) l) (rel_ret _))
  rcases h2 with h2 | ⟨h3, h2⟩
  · exact .inl h2
  · refine .inr ⟨h3, ?_⟩
    rw [rmany_snoc]
    exact h2
theorem rmany_err {e : Nat} {l : List Nat} {k : Nat} (h : rmany f k l = .error e) : ∀ n, rmany f (k + n) l = .error e
  | 0 => h
  | n + 1 => by
    rw [← Nat.add_assoc, rmany_snoc, rmany_err h n]
    rfl
theorem Rel.stop {k n : Nat} {xs xs' : List α} (h : Rel (rmany f k) bs p er xs q er') (he : er' ≠ 0) (hn : k ≤ n) : Rel (rmany f n) bs p er xs' q er' := by
  rcases h with h | ⟨h1, ⟨h2, _⟩ | ⟨h2, h3⟩⟩
  · exact .inl h
  · exact absurd h2 he
  · refine .inr ⟨h1, .inr ⟨h2, ?_⟩⟩
    have := rmany_err h3 (n - k)
    rw [show k + (n - k) = n by omega] at this
    exact this
end
abbrev zeroEd : List Value := [.slice none 0 0, .slice none 0 0, .int .i64 0, .int .i64 0, .int .u64 0]
/-- What ReadEdit has while it reads: the result, the reader, the edit so far. -/
structure RS (w wr : World) (A : Option Addr) (c : Nat) (bs : List Nat) (q er : Nat) (va vd : Value) (L : List D) (Z : List Int) (nx lg : Int) (sq : Nat) : Prop where
  rd : At wr (w.heap.size + 1) A c bs q er
  res : Box wr w.heap.size 26 zeroEd
  box : Box wr (w.heap.size + 1 + 1) 26 [va, vd, .int .i64 nx, .int .i64 lg, .int .u64 (sq : Int)]
  add : Ac (w.heap.size + 3) wr va L
  drop : wr.ownsRow (w.heap.size + 3) 3 1 vd Z.length (Z.map (.int .i64))
  be : Below w.heap.size w wr
  size : w.heap.size + 3 ≤ wr.heap.size
section
variable {w wr w' : World} {A : Option Addr} {c : Nat} {bs : List Nat} {q er q' er' : Nat} {va vd va' vd' : Value} {L L' : List D} {Z Z' : List Int} {nx lg : Int} {sq : Nat}
theorem RS.went (h : RS w wr A c bs q er va vd L Z nx lg sq) (ha : At w' (w.heap.size + 1) A c bs q' er') (hk : Keep (· = w.heap.size + 1) wr w') : RS w w' A c bs q' er' va vd L Z nx lg sq :=
  ⟨ha, h.res.keep hk (by omega), h.box.keep hk (by omega), h.add.low hk fun k hk => by omega, own_kept h.drop hk fun k hv hs => by have := (h.drop.lt k hv).1; omega, h.be.trans (hk.below h.be.size fun k hk => by omega), Nat.le_trans h.size hk.size⟩
theorem RS.below (h : RS w wr A c bs q er va vd L Z nx lg sq) (hb : Below wr.heap.size wr w') : RS w w' A c bs q er va vd L Z nx lg sq :=
  ⟨h.rd.below hb, h.res.below hb h.res.lt, h.box.below hb h.box.lt, h.add.below hb, own_later h.drop hb, h.be.trans (hb.mono h.be.size), Nat.le_trans h.size hb.size⟩
/-- A block that is none of these is written. -/
theorem RS.other {S : Nat → Prop} (h : RS w wr A c bs q er va vd L Z nx lg sq) (hk : Keep S wr w') (hS : ∀ k, S k → w.heap.size + 3 ≤ k) (h1 : ∀ k, va.ownBlock = some k → ¬ S k) (h2 : ∀ k, vd.ownBlock = some k → ¬ S k) (h3 : ∀ k, Fresh (w.heap.size + 3) wr k → ¬ S k) : RS w w' A c bs q er va vd L Z nx lg sq :=
  ⟨h.rd.same fun k hk2 => hk.block k (by have := h.size; omega) fun hs => by have := hS k hs; omega, h.res.keep hk fun hs => by have := hS _ hs; omega, h.box.keep hk fun hs => by have := hS _ hs; omega, h.add.keep hk h1 h3, own_kept h.drop hk h2,
    h.be.trans (hk.below h.be.size fun k hs => by have := hS k hs; omega), Nat.le_trans h.size hk.size⟩
theorem fresh_ne {B X k : Nat} {T : TypeId} {us : List Value} (hb : Box wr X T us) (hT : T ≠ 5) (hf : Fresh B wr k) : ¬ k = X := fun e => by
  subst e
  obtain ⟨_, _, cs, fr, h⟩ := hf
  unfold Box at hb
  rw [h] at hb
  injection hb with hb
  injection hb with _ hb
  exact hT hb.symm
/-- A run's own box is written. -/
theorem RS.poke {X i : Nat} {us : List Value} {u : Value} (h : RS w wr A c bs q er va vd L Z nx lg sq) (hX : Box wr X 41 us) (hge : w.heap.size + 3 ≤ X) (hn : ¬ va.ownBlock = some X) : RS w (wr.setCell ⟨X, i, none⟩ u) A c bs q er va vd L Z nx lg sq :=
  h.other (S := (· = X)) ((Keep.refl (· = X) wr).setCell (p := ⟨X, i, none⟩) (.inr rfl) u) (fun k hk => by omega) (fun k hv hk => hn (by rw [hv, hk])) (fun k hv hk => own_apart h.drop hX (by decide) (by rw [hv, hk])) fun k hf hk => fresh_ne hX (by decide) hf hk
/-- A cell of the edit is written. -/
theorem RS.set (h : RS w wr A c bs q er va vd L Z nx lg sq) (i : Nat) (u : Value) {nx' lg' : Int} {sq' : Nat} (hu : [va, vd, .int .i64 nx, .int .i64 lg, .int .u64 (sq : Int)].set i u = [va, vd, .int .i64 nx', .int .i64 lg', .int .u64 (sq' : Int)]) : RS w (wr.setCell ⟨w.heap.size + 1 + 1, i, none⟩ u) A c bs q er va vd L Z nx' lg' sq' := by
  have hk := (Keep.refl (· = w.heap.size + 1 + 1) wr).setCell (p := ⟨w.heap.size + 1 + 1, i, none⟩) (.inr rfl) u
  have hbx := h.box.set i u
  rw [hu] at hbx
  exact ⟨h.rd.same fun k hk2 => hk.block k (by have := h.size; omega) (by omega), h.res.keep hk (by omega), hbx, h.add.low hk fun k hk => by omega, own_kept h.drop hk fun k hv hs => by have := (h.drop.lt k hv).1; omega, h.be.setCell (by show w.heap.size ≤ w.heap.size + 1 + 1; omega) _, Nat.le_trans h.size hk.size⟩
/-- One run more. -/
theorem RS.addRun (h : RS w wr A c bs q er va vd L Z nx lg sq) {d : D} (hd : d.Ok wr (Fresh (w.heap.size + 3) wr)) (hL : L.length ≤ 1000) :
    ∃ v' w', Sem.run Try.prog (Builtin.append_ #[22, 22] 22 #[va, .slice (some ⟨wr.heap.size, 0, none⟩) 1 1]) (wr.alloc (rbox d)) = .ok v' w' ∧ w'.cell? ⟨w.heap.size + 1 + 1, 0, none⟩ = some va ∧ w'.frozen? ⟨w.heap.size + 1 + 1, 0, none⟩ = false ∧ RS w (w'.setCell ⟨w.heap.size + 1 + 1, 0, none⟩ v') A c bs q er v' vd (L ++ [d]) Z nx lg sq := by
  obtain ⟨v', w', hr, ha, hon⟩ := h.add.more hd h.size (by omega)
  have hk := hon.keep
  have hg : ∀ k, va.ownBlock = some k → w.heap.size + 3 ≤ k := fun k hv => (h.add.own.lt k hv).1
  have hbx : Box w' (w.heap.size + 1 + 1) 26 [va, vd, .int .i64 nx, .int .i64 lg, .int .u64 (sq : Int)] := h.box.keep hk fun hs => by have := hg _ hs; omega
  have hk2 := (Keep.refl (· = w.heap.size + 1 + 1) w').setCell (p := ⟨w.heap.size + 1 + 1, 0, none⟩) (.inr rfl) v'
  have hbe : Below w.heap.size w w' := h.be.trans (hk.below h.be.size fun k hs => by have := hg k hs; omega)
  have hsz : w.heap.size + 3 ≤ w'.heap.size := Nat.le_trans h.size hk.size
  refine ⟨v', w', hr, hbx.cell 0, hbx.free 0, ?_, ?_, hbx.set 0 v', ha.low hk2 fun k hk => by omega, own_kept (own_kept h.drop hk fun k hv hs => own_two h.add.own h.drop (by decide) hs hv) hk2 fun k hv hs => by have := (h.drop.lt k hv).1; omega, hbe.setCell (by show w.heap.size ≤ w.heap.size + 1 + 1; omega) _, Nat.le_trans hsz hk2.size⟩
  · have h1 : At w' (w.heap.size + 1) A c bs q er := h.rd.same fun k hk2 => hk.block k (by have := h.size; omega) fun hs => by have := hg k hs; omega
    exact h1.same fun k hk3 => hk2.block k (by omega) (by omega)
  · exact (h.res.keep hk fun hs => by have := hg _ hs; omega).keep hk2 (by omega)
/-- One file more, in the world of the number's box. -/
theorem RS.addNum (h : RS w wr A c bs q er va vd L Z nx lg sq) (z : Int) (hZ : Z.length ≤ 1000) :
    ∃ v' w', Sem.run Try.prog (Builtin.append_ #[23, 23] 23 #[vd, .slice (some ⟨wr.heap.size, 0, none⟩) 1 1]) (wr.alloc (.cells #[.int .i64 z] 3)) = .ok v' w' ∧ w'.cell? ⟨w.heap.size + 1 + 1, 1, none⟩ = some vd ∧ w'.frozen? ⟨w.heap.size + 1 + 1, 1, none⟩ = false ∧ RS w (w'.setCell ⟨w.heap.size + 1 + 1, 1, none⟩ v') A c bs q er va v' L (Z ++ [z]) nx lg sq ∧ Keep (fun k => w.heap.size + 1 + 1 < k) wr w' := by
  obtain ⟨v', w', hr, ha, hon⟩ := more_num z h.drop (by omega) h.size
  have hk := hon.keep
  have hg : ∀ k, vd.ownBlock = some k → w.heap.size + 3 ≤ k := fun k hv => (h.drop.lt k hv).1
  have hbx : Box w' (w.heap.size + 1 + 1) 26 [va, vd, .int .i64 nx, .int .i64 lg, .int .u64 (sq : Int)] := h.box.keep hk fun hs => by have := hg _ hs; omega
  have hk2 := (Keep.refl (· = w.heap.size + 1 + 1) w').setCell (p := ⟨w.heap.size + 1 + 1, 1, none⟩) (.inr rfl) v'
  have hbe : Below w.heap.size w w' := h.be.trans (hk.below h.be.size fun k hs => by have := hg k hs; omega)
  have hsz : w.heap.size + 3 ≤ w'.heap.size := Nat.le_trans h.size hk.size
  have hac : Ac (w.heap.size + 3) w' va L := h.add.keep hk (fun k hv hs => own_two h.add.own h.drop (by decide) hv hs) fun k hf hs => by
    obtain ⟨cs, fr, h1⟩ := own_blk h.drop hs
    obtain ⟨_, _, cs2, fr2, h2⟩ := hf
    rw [h1] at h2
    injection h2 with h2
    injection h2 with _ h2
    exact absurd h2 (by decide)
  refine ⟨v', w', hr, hbx.cell 1, hbx.free 1, ⟨?_, ?_, hbx.set 1 v', hac.low hk2 fun k hk => by omega, own_kept ha hk2 fun k hv hs => by have := (ha.lt k hv).1; omega, hbe.setCell (by show w.heap.size ≤ w.heap.size + 1 + 1; omega) _, Nat.le_trans hsz hk2.size⟩, ⟨hk.os, hk.tape, hk.output, hk.size, fun k hlt hs => hk.block k hlt fun hv => hs (by have := hg k hv; omega)⟩⟩
  · have h1 : At w' (w.heap.size + 1) A c bs q er := h.rd.same fun k hk2 => hk.block k (by have := h.size; omega) fun hs => by have := hg k hs; omega
    exact h1.same fun k hk3 => hk2.block k (by omega) (by omega)
  · exact (h.res.keep hk fun hs => by have := hg _ hs; omega).keep hk2 (by omega)
end
end Go.Proofs.Ythhmjjmjicmhdaa.Ed
