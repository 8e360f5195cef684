/- The document's own ReadEdit: what its loops keep. -/
import Derived.Test.YthhmjjmjicmhdaaEac
import Derived.Test.YthhmjjmjicmhdaaEr2
namespace Go.Proofs.Ythhmjjmjicmhdaa.Ed
set_option linter.unusedVariables false
set_option linter.unusedSimpArgs false
open Go.RowKit Lift Ik
section
variable {α β : Type} {f : List Nat → P α} {bs : List Nat} {p q er er' : Nat}
theorem rmany_snoc : ∀ (n : Nat) (l : List Nat), rmany f (n + 1) l = Ed.bd (rmany f n l) fun xs l => Ed.bd (f l) fun a l => ret (xs ++ [a]) l
  | 0, l => by
    show Ed.bd (f l) (fun a l => Ed.bd (ret [] l) fun xs l => ret (a :: xs) l) = Ed.bd (ret [] l) _
    rfl
  | n + 1, l => by
    have hl : rmany f (n + 1 + 1) l = Ed.bd (f l) fun a l => Ed.bd (rmany f (n + 1) l) fun xs l => ret (a :: xs) l := rfl
    have hr : rmany f (n + 1) l = Ed.bd (f l) fun a l => Ed.bd (rmany f n l) fun xs l => ret (a :: xs) l := rfl
    rw [hl, hr]
    cases hf : f l with
    | error e => rfl
    | ok x =>
      obtain ⟨a, r⟩ := x
      show Ed.bd (rmany f (n + 1) r) _ = Ed.bd (Ed.bd (rmany f n r) _) _
      rw [rmany_snoc n r]
      cases hm : rmany f n r with
      | error e => rfl
      | ok y =>
        obtain ⟨xs, r2⟩ := y
        show Ed.bd (Ed.bd (f r2) _) _ = Ed.bd (f r2) _
        cases hg : f r2 with
        | error e => rfl
        | ok z => rfl
theorem Rel.snoc {n : Nat} {xs : List α} {a : α} {q' er'' : Nat} (h : Rel (rmany f n) bs p er xs q er') (k : Rel f bs q er' a q' er'') : Rel (rmany f (n + 1)) bs p er (xs ++ [a]) q' er'' := by
  have h2 := h.bd (g := fun xs l => Ed.bd (f l) fun a l => ret (xs ++ [a]) l) (k.bd (g := fun a l => ret (xs ++ [a]) l) (rel_ret _))
  rcases h2 with h2 | ⟨h3, h2⟩
  · exact .inl h2
  · refine .inr ⟨h3, ?_⟩
    rw [rmany_snoc]
    exact h2
theorem rmany_err {e : Nat} {l : List Nat} {k : Nat} (h : rmany f k l = .error e) : ∀ n, rmany f (k + n) l = .error e
  | 0 => h
  | n + 1 => by
    rw [← Nat.add_assoc, rmany_snoc, rmany_err h n]
    rfl
theorem Rel.stop {k n : Nat} {xs xs' : List α} (h : Rel (rmany f k) bs p er xs q er') (he : er' ≠ 0) (hn : k ≤ n) : Rel (rmany f n) bs p er xs' q er' := by
  rcases h with h | ⟨h1, ⟨h2, _⟩ | ⟨h2, h3⟩⟩
  · exact .inl h
  · exact absurd h2 he
  · refine .inr ⟨h1, .inr ⟨h2, ?_⟩⟩
    have := rmany_err h3 (n - k)
    rw [show k + (n - k) = n by omega] at this
    exact this
end
abbrev zeroEd : List Value := [.slice none 0 0, .slice none 0 0, .int .i64 0, .int .i64 0, .int .u64 0]
/-- What ReadEdit has while it reads: the result, the reader, the edit so far. -/
structure RS (w wr : World) (A : Option Addr) (c : Nat) (bs : List Nat) (q er : Nat) (va vd : Value) (L : List D) (Z : List Int) (nx lg : Int) (sq : Nat) : Prop where
  rd : At wr (w.heap.size + 1) A c bs q er
  res : Box wr w.heap.size 26 zeroEd
  box : Box wr (w.heap.size + 1 + 1) 26 [va, vd, .int .i64 nx, .int .i64 lg, .int .u64 (sq : Int)]
  add : Ac (w.heap.size + 3) wr va L
  drop : wr.ownsRow (w.heap.size + 3) 3 1 vd Z.length (Z.map (.int .i64))
  be : Below w.heap.size w wr
  size : w.heap.size + 3 ≤ wr.heap.size
section
variable {w wr w' : World} {A : Option Addr} {c : Nat} {bs : List Nat} {q er q' er' : Nat} {va vd va' vd' : Value} {L L' : List D} {Z Z' : List Int} {nx lg : Int} {sq : Nat}
theorem RS.went (h : RS w wr A c bs q er va vd L Z nx lg sq) (ha : At w' (w.heap.size + 1) A c bs q' er') (hk : Keep (· = w.heap.size + 1) wr w') : RS w w' A c bs q' er' va vd L Z nx lg sq :=
  ⟨ha, h.res.keep hk (by omega), h.box.keep hk (by omega), h.add.low hk fun k hk => by omega, own_kept h.drop hk fun k hv hs => by have := (h.drop.lt k hv).1; omega, h.be.trans (hk.below h.be.size fun k hk => by omega), Nat.le_trans h.size hk.size⟩
theorem RS.below (h : RS w wr A c bs q er va vd L Z nx lg sq) (hb : Below wr.heap.size wr w') : RS w w' A c bs q er va vd L Z nx lg sq :=
  ⟨h.rd.below hb, h.res.below hb h.res.lt, h.box.below hb h.box.lt, h.add.below hb, own_later h.drop hb, h.be.trans (hb.mono h.be.size), Nat.le_trans h.size hb.size⟩
/-- A block that is none of these is written. -/
theorem RS.other {S : Nat → Prop} (h : RS w wr A c bs q er va vd L Z nx lg sq) (hk : Keep S wr w') (hS : ∀ k, S k → w.heap.size + 3 ≤ k) (h1 : ∀ k, va.ownBlock = some k → ¬ S k) (h2 : ∀ k, vd.ownBlock = some k → ¬ S k) (h3 : ∀ k, Fresh (w.heap.size + 3) wr k → ¬ S k) : RS w w' A c bs q er va vd L Z nx lg sq :=
  ⟨h.rd.same fun k hk2 => hk.block k (by have := h.size; omega) fun hs => by have := hS k hs; omega, h.res.keep hk fun hs => by have := hS _ hs; omega, h.box.keep hk fun hs => by have := hS _ hs; omega, h.add.keep hk h1 h3, own_kept h.drop hk h2,
    h.be.trans (hk.below h.be.size fun k hs => by have := hS k hs; omega), Nat.le_trans h.size hk.size⟩
theorem fresh_ne {B X k : Nat} {T : TypeId} {us : List Value} (hb : Box wr X T us) (hT : T ≠ 5) (hf : Fresh B wr k) : ¬ k = X := fun e => by
  subst e
  obtain ⟨_, _, cs, fr, h⟩ := hf
  unfold Box at hb
  rw [h] at hb
  injection hb with hb
  injection hb with _ hb
  exact hT hb.symm
/-- A run's own box is written. -/
theorem RS.poke {X i : Nat} {us : List Value} {u : Value} (h : RS w wr A c bs q er va vd L Z nx lg sq) (hX : Box wr X 41 us) (hge : w.heap.size + 3 ≤ X) (hn : ¬ va.ownBlock = some X) : RS w (wr.setCell ⟨X, i, none⟩ u) A c bs q er va vd L Z nx lg sq :=
  h.other (S := (· = X)) ((Keep.refl (· = X) wr).setCell (p := ⟨X, i, none⟩) (.inr rfl) u) (fun k hk => by omega) (fun k hv hk => hn (by rw [hv, hk])) (fun k hv hk => own_apart h.drop hX (by decide) (by rw [hv, hk])) fun k hf hk => fresh_ne hX (by decide) hf hk
/-- A cell of the edit is written. -/
theorem RS.set (h : RS w wr A c bs q er va vd L Z nx lg sq) (i : Nat) (u : Value) {nx' lg' : Int} {sq' : Nat} (hu : [va, vd, .int .i64 nx, .int .i64 lg, .int .u64 (sq : Int)].set i u = [va, vd, .int .i64 nx', .int .i64 lg', .int .u64 (sq' : Int)]) : RS w (wr.setCell ⟨w.heap.size + 1 + 1, i, none⟩ u) A c bs q er va vd L Z nx' lg' sq' := by
  have hk := (Keep.refl (· = w.heap.size + 1 + 1) wr).setCell (p := ⟨w.heap.size + 1 + 1, i, none⟩) (.inr rfl) u
  have hbx := h.box.set i u
  rw [hu] at hbx
  exact ⟨h.rd.same fun k hk2 => hk.block k (by have := h.size; omega) (by omega), h.res.keep hk (by omega), hbx, h.add.low hk fun k hk => by omega, own_kept h.drop hk fun k hv hs => by have := (h.drop.lt k hv).1; omega, h.be.setCell (by show w.heap.size ≤ w.heap.size + 1 + 1; omega) _, Nat.le_trans h.size hk.size⟩
/-- One run more. -/
theorem RS.addRun (h : RS w wr A c bs q er va vd L Z nx lg sq) {d : D} (hd : d.Ok wr (Fresh (w.heap.size + 3) wr)) (hL : L.length ≤ 1000) :
    ∃ v' w', Sem.run Try.prog (Builtin.append_ #[22, 22] 22 #[va, .slice (some ⟨wr.heap.size, 0, none⟩) 1 1]) (wr.alloc (rbox d)) = .ok v' w' ∧ w'.cell? ⟨w.heap.size + 1 + 1, 0, none⟩ = some va ∧ w'.frozen? ⟨w.heap.size + 1 + 1, 0, none⟩ = false ∧ RS w (w'.setCell ⟨w.heap.size + 1 + 1, 0, none⟩ v') A c bs q er v' vd (L ++ [d]) Z nx lg sq := by
  obtain ⟨v', w', hr, ha, hon⟩ := h.add.more hd h.size (by omega)
  have hk := hon.keep
  have hg : ∀ k, va.ownBlock = some k → w.heap.size + 3 ≤ k := fun k hv => (h.add.own.lt k hv).1
  have hbx : Box w' (w.heap.size + 1 + 1) 26 [va, vd, .int .i64 nx, .int .i64 lg, .int .u64 (sq : Int)] := h.box.keep hk fun hs => by have := hg _ hs; omega
  have hk2 := (Keep.refl (· = w.heap.size + 1 + 1) w').setCell (p := ⟨w.heap.size + 1 + 1, 0, none⟩) (.inr rfl) v'
  have hbe : Below w.heap.size w w' := h.be.trans (hk.below h.be.size fun k hs => by have := hg k hs; omega)
  have hsz : w.heap.size + 3 ≤ w'.heap.size := Nat.le_trans h.size hk.size
  refine ⟨v', w', hr, hbx.cell 0, hbx.free 0, ?_, ?_, hbx.set 0 v', ha.low hk2 fun k hk => by omega, own_kept (own_kept h.drop hk fun k hv hs => own_two h.add.own h.drop (by decide) hs hv) hk2 fun k hv hs => by have := (h.drop.lt k hv).1; omega, hbe.setCell (by show w.heap.size ≤ w.heap.size + 1 + 1; omega) _, Nat.le_trans hsz hk2.size⟩
  · have h1 : At w' (w.heap.size + 1) A c bs q er := h.rd.same fun k hk2 => hk.block k (by have := h.size; omega) fun hs => by have := hg k hs; omega
    exact h1.same fun k hk3 => hk2.block k (by omega) (by omega)
  · exact (h.res.keep hk fun hs => by have := hg _ hs; omega).keep hk2 (by omega)
/-- One file more, in the world of the number's box. -/
theorem RS.addNum (h : RS w wr A c bs q er va vd L Z nx lg sq) (z : Int) (hZ : Z.length ≤ 1000) :
    ∃ v' w', Sem.run Try.prog (Builtin.append_ #[23, 23] 23 #[vd, .slice (some ⟨wr.heap.size, 0, none⟩) 1 1]) (wr.alloc (.cells #[.int .i64 z] 3)) = .ok v' w' ∧ w'.cell? ⟨w.heap.size + 1 + 1, 1, none⟩ = some vd ∧ w'.frozen? ⟨w.heap.size + 1 + 1, 1, none⟩ = false ∧ RS w (w'.setCell ⟨w.heap.size + 1 + 1, 1, none⟩ v') A c bs q er va v' L (Z ++ [z]) nx lg sq ∧ Keep (fun k => w.heap.size + 1 + 1 < k) wr w' := by
  obtain ⟨v', w', hr, ha, hon⟩ := more_num z h.drop (by omega) h.size
  have hk := hon.keep
  have hg : ∀ k, vd.ownBlock = some k → w.heap.size + 3 ≤ k := fun k hv => (h.drop.lt k hv).1
  have hbx : Box w' (w.heap.size + 1 + 1) 26 [va, vd, .int .i64 nx, .int .i64 lg, .int .u64 (sq : Int)] := h.box.keep hk fun hs => by have := hg _ hs; omega
  have hk2 := (Keep.refl (· = w.heap.size + 1 + 1) w').setCell (p := ⟨w.heap.size + 1 + 1, 1, none⟩) (.inr rfl) v'
  have hbe : Below w.heap.size w w' := h.be.trans (hk.below h.be.size fun k hs => by have := hg k hs; omega)
  have hsz : w.heap.size + 3 ≤ w'.heap.size := Nat.le_trans h.size hk.size
  have hac : Ac (w.heap.size + 3) w' va L := h.add.keep hk (fun k hv hs => own_two h.add.own h.drop (by decide) hv hs) fun k hf hs => by
    obtain ⟨cs, fr, h1⟩ := own_blk h.drop hs
    obtain ⟨_, _, cs2, fr2, h2⟩ := hf
    rw [h1] at h2
    injection h2 with h2
    injection h2 with _ h2
    exact absurd h2 (by decide)
  refine ⟨v', w', hr, hbx.cell 1, hbx.free 1, ⟨?_, ?_, hbx.set 1 v', hac.low hk2 fun k hk => by omega, own_kept ha hk2 fun k hv hs => by have := (ha.lt k hv).1; omega, hbe.setCell (by show w.heap.size ≤ w.heap.size + 1 + 1; omega) _, Nat.le_trans hsz hk2.size⟩, ⟨hk.os, hk.tape, hk.output, hk.size, fun k hlt hs => hk.block k hlt fun hv => hs (by have := hg k hv; omega)⟩⟩
  · have h1 : At w' (w.heap.size + 1) A c bs q er := h.rd.same fun k hk2 => hk.block k (by have := h.size; omega) fun hs => by have := hg k hs; omega
    exact h1.same fun k hk3 => hk2.block k (by omega) (by omega)
  · exact (h.res.keep hk fun hs => by have := hg _ hs; omega).keep hk2 (by omega)
end
end Go.Proofs.Ythhmjjmjicmhdaa.Ed
