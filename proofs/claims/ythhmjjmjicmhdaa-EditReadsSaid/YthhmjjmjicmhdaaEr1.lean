/- The document's own reader of edits: number, int, most. -/
import Derived.Test.YthhmjjmjicmhdaaEr0
import Derived.Test.YthhmjjmjicmhdaaEm
import Derived.Test.YthhmjjmjicmhdaaOwn
namespace Go.Proofs.Ythhmjjmjicmhdaa.Ed
set_option linter.unusedVariables false
set_option linter.unusedSimpArgs false
open Go.RowKit Lift Ik Vn
section
variable {α β : Type} {f : List Nat → P α} {bs : List Nat} {p q er er' : Nat}
/-- How a reader goes on from place and error to the next ones, where it read a. -/
def Rel (f : List Nat → P α) (bs : List Nat) (p er : Nat) (a : α) (q er' : Nat) : Prop :=
  (er ≠ 0 ∧ er' = er) ∨ (er = 0 ∧ ((er' = 0 ∧ f (bs.drop p) = .ok (a, bs.drop q)) ∨ (er' ≠ 0 ∧ f (bs.drop p) = .error er')))
theorem Rel.bd {g : α → List Nat → P β} {a : α} {b : β} {q' er'' : Nat} (h : Rel f bs p er a q er') (k : Rel (g a) bs q er' b q' er'') : Rel (fun l => Ed.bd (f l) g) bs p er b q' er'' := by
  rcases h with ⟨h1, h2⟩ | ⟨h1, ⟨h2, h3⟩ | ⟨h2, h3⟩⟩
  · subst h2
    rcases k with ⟨_, k2⟩ | ⟨k1, _⟩
    · exact .inl ⟨h1, k2⟩
    · exact absurd k1 h1
  · subst h2
    rcases k with ⟨k1, _⟩ | ⟨_, ⟨k2, k3⟩ | ⟨k2, k3⟩⟩
    · exact absurd rfl k1
    · exact .inr ⟨h1, .inl ⟨k2, by show Ed.bd (f (bs.drop p)) g = _; rw [h3]; exact k3⟩⟩
    · exact .inr ⟨h1, .inr ⟨k2, by show Ed.bd (f (bs.drop p)) g = _; rw [h3]; exact k3⟩⟩
  · rcases k with ⟨k1, k2⟩ | ⟨k1, _⟩
    · exact .inr ⟨h1, .inr ⟨by rw [k2]; exact h2, by show Ed.bd (f (bs.drop p)) g = _; rw [h3, k2]; rfl⟩⟩
    · exact absurd k1 h2
theorem rel_ret (a : α) : Rel (ret a) bs p er a p er := by
  by_cases h : er = 0
  · exact .inr ⟨h, .inl ⟨h, rfl⟩⟩
  · exact .inl ⟨h, rfl⟩
end
/-- The reader in block g, over the bytes bs below it: at the place p, with the error er. -/
structure At (w : World) (g : Nat) (A : Option Addr) (c : Nat) (bs : List Nat) (p er : Nat) : Prop where
  box : Box w g 72 [.slice A bs.length c, .int .i64 (p : Int), .int .i64 (er : Int)]
  lies : Lies w g A (bs.map vb)
  len : bs.length ≤ c
  cap : c ≤ maxLen
  few : bs.length ≤ 20000000
  byt : Byt bs
  le : p ≤ bs.length
  low : er ≤ 100
section
variable {w w' : World} {g : Nat} {A : Option Addr} {c : Nat} {bs : List Nat} {p q er er' : Nat}
theorem At.same (h : At w g A c bs p er) (hk : ∀ k, k ≤ g → w'.heap[k]? = w.heap[k]?) : At w' g A c bs p er :=
  ⟨h.box.at_block (hk g (Nat.le_refl _)), h.lies.later fun p hp => World.cell?_of_block (w := w) (hk p.block (Nat.le_of_lt hp)), h.len, h.cap, h.few, h.byt, h.le, h.low⟩
theorem At.below (h : At w g A c bs p er) (hb : Below w.heap.size w w') : At w' g A c bs p er := h.same fun k hk => hb.block k (Nat.lt_of_le_of_lt hk h.box.lt)
theorem At.put (h : At w g A c bs p er) (hp : q ≤ bs.length) (he : er' ≤ 100) (hk : Keep (· = g) w w') (hb : Box w' g 72 [.slice A bs.length c, .int .i64 (q : Int), .int .i64 (er' : Int)]) : At w' g A c bs q er' :=
  ⟨hb, h.lies.later fun p hp => World.cell?_of_block (w := w) (hk.block p.block (Nat.lt_trans hp h.box.lt) (Nat.ne_of_lt hp)), h.len, h.cap, h.few, h.byt, hp, he⟩
/-- What a call that reads a by f leaves. -/
def Went {α : Type} (w : World) (g : Nat) (A : Option Addr) (c : Nat) (bs : List Nat) (p er : Nat) (f : List Nat → P α) (a : α) (w' : World) : Prop :=
  ∃ q er', At w' g A c bs q er' ∧ Keep (· = g) w w' ∧ Rel f bs p er a q er'
theorem drop_drop_len {l : List Nat} {p k : Nat} : (l.drop p).drop k = l.drop (p + k) := by rw [List.drop_drop]
set_option maxRecDepth 100000 in
set_option maxHeartbeats 400000 in
theorem number_any (h : At w g A c bs p er) : Calls Try.prog (49) #[.pointer (some ⟨g, 0, none⟩)] w fun e w' => ∃ x : Nat, e = .returned (.int .u64 (x : Int)) ∧ x < 18446744073709551616 ∧ (er ≠ 0 → x = 0) ∧ Went w g A c bs p er rnum x w' := by
  by_cases h0 : er = 0
  · subst h0
    obtain ⟨x, k, e1, hd⟩ : ∃ x k e1, dec (bs.drop p) 0 0 = (x, k, e1) := ⟨_, _, _, rfl⟩
    have hget := fun m => Vt.getv_calls A c g bs (p : Int) (w.drewN m) (h.lies.later fun _ _ => rfl) h.len (Nat.le_trans h.len h.cap) h.byt
    rw [res_at bs p h.le hd] at hget
    have h3 := dec_three (bs.drop p) 0 0
    have hlen := dec_len (bs.drop p) 0 0
    rw [hd] at h3 hlen
    simp only at h3 hlen
    have hlp : (bs.drop p).length = bs.length - p := List.length_drop
    have hnum : rnum (bs.drop p) = if e1 ≠ 0 then .error e1 else .ok (x, (bs.drop p).drop k) := by unfold rnum; rw [hd]
    obtain ⟨f0, f1, f2, z0, z1, z2⟩ := h.box.facts3
    have H := Lib.hid h
    by_cases he : e1 = 0
    · subst he
      rw [if_pos rfl] at hget
      have hx : x < 18446744073709551616 := (back_num (fun c hc => h.byt c (List.mem_of_mem_drop hc)) (by rw [hnum, if_neg (by simp)])).2.2
      have HG := Lib.hid hget
      have HN : Hid (rnum (bs.drop p) = .ok (x, bs.drop (p + k))) := Lib.hid (by rw [hnum, if_neg (by simp), List.drop_drop])
      have HLE : Hid (p + k ≤ bs.length) := Lib.hid (by have := hlen rfl; have := h.le; omega)
      have HX := Lib.hid hx
      clear h hget hd h3 hlen hnum hlp hx
      go_enter (Try.func49), (Try.ntmps49)
      go_wp2_with fail
      go_quiet (first | (go_at_call 78; refine Calls.quiet_of_same ((HG.out _).mono fun e w' hh => ⟨hh.1, hh.2.symm⟩)))
      have hd := (Joins.below_draws _ _ nq : Below w.heap.size w (w.drewN nq))
      have H1 := Lib.hid (H.out.below hd)
      have z1 : (w.drewN nq).frozen? ⟨g, 1, none⟩ = false := H1.out.box.free 1
      have f1 : (w.drewN nq).cell? ⟨g, 1, none⟩ = some (.int .i64 (p : Int)) := H1.out.box.cell 1
      have HK := Lib.hid (below_keep (S := (· = g)) hd)
      clear hd
      generalize w.drewN nq = w1 at *
      go_wp2_with fail
      go_ret
      refine ⟨x, rfl, HX.out, fun k => absurd rfl k, p + k, 0, H1.out.put HLE.out (by decide) ((Keep.refl (· = g) w1).setCell (p := ⟨g, 1, none⟩) (.inr rfl) _) (H1.out.box.set 1 _), HK.out.trans ((Keep.refl (· = g) w1).setCell (p := ⟨g, 1, none⟩) (.inr rfl) _) fun _ _ => id, .inr ⟨rfl, .inl ⟨rfl, HN.out⟩⟩⟩
    · rw [if_neg he] at hget
      have HG := Lib.hid hget
      have HN : Hid (rnum (bs.drop p) = .error e1) := Lib.hid (by rw [hnum, if_pos he])
      have HE : Hid (e1 ≠ 0 ∧ e1 ≤ 100) := Lib.hid ⟨he, by omega⟩
      have t1 : ((e1 : Int) != 0) = true := by rw [bne_iff_ne]; omega
      clear h hget hd h3 hlen hnum hlp he
      go_enter (Try.func49), (Try.ntmps49)
      go_wp2_with fail
      go_quiet (first | (go_at_call 78; refine Calls.quiet_of_same ((HG.out _).mono fun e w' hh => ⟨hh.1, hh.2.symm⟩)))
      have hd := (Joins.below_draws _ _ nq : Below w.heap.size w (w.drewN nq))
      have H1 := Lib.hid (H.out.below hd)
      have z1 : (w.drewN nq).frozen? ⟨g, 2, none⟩ = false := H1.out.box.free 2
      have f1 : (w.drewN nq).cell? ⟨g, 2, none⟩ = some (.int .i64 (0 : Int)) := H1.out.box.cell 2
      have HK := Lib.hid (below_keep (S := (· = g)) hd)
      clear hd
      generalize w.drewN nq = w1 at *
      go_wp2_with fail
      go_ret
      exact ⟨0, rfl, by decide, fun _ => rfl, p, e1, H1.out.put H1.out.le HE.out.2 ((Keep.refl (· = g) w1).setCell (p := ⟨g, 2, none⟩) (.inr rfl) _) (H1.out.box.set 2 _), HK.out.trans ((Keep.refl (· = g) w1).setCell (p := ⟨g, 2, none⟩) (.inr rfl) _) fun _ _ => id, .inr ⟨rfl, .inr ⟨HE.out.1, HN.out⟩⟩⟩
  · obtain ⟨f0, f1, f2, z0, z1, z2⟩ := h.box.facts3
    have H := Lib.hid h
    have t1 : ((er : Int) != 0) = true := by rw [bne_iff_ne]; omega
    have HE := Lib.hid h0
    clear h h0
    go_enter (Try.func49), (Try.ntmps49)
    go_wp2_with fail
    go_ret
    exact ⟨0, rfl, by decide, fun _ => rfl, p, er, H.out, Keep.refl _ _, .inl ⟨HE.out, rfl⟩⟩
end
end Go.Proofs.Ythhmjjmjicmhdaa.Ed
