/- Plain mathematics: a reader of edits that takes each number as an int as it is answers as one that cuts it. -/
import Derived.Test.YthhmjjmjicmhdaaEm
namespace Go.Proofs.Ythhmjjmjicmhdaa.Ed
set_option linter.unusedVariables false
set_option linter.unusedSimpArgs false
open Vn Ik Bt
def asI (x : Nat) : Int := if 18446744073709551616 ≤ x then -1 else IntKind.i64.wrap (x : Int)
/-- Two lists, alike one by one. -/
inductive All2 {α β : Type} (R : α → β → Prop) : List α → List β → Prop
  | nil : All2 R [] []
  | cons {a b as bs} (h : R a b) (t : All2 R as bs) : All2 R (a :: as) (b :: bs)
def qint (l : List Nat) : P Int := bd (rnum l) fun x r => ret (asI x) r
def qrun (l : List Nat) : P Ru := bd (qint l) fun a l => bd (qint l) fun b l => bd (qint l) fun c l => bd (rbytes l) fun f l => bd (rbytes l) fun g l => bd (rnum l) fun s l => ret ⟨a, b, c, f, g, s⟩ l
def qruns (l : List Nat) : P (List Ru) := bd (rmost 100 l) fun n l => rmany qrun n l
def qints (l : List Nat) : P (List Int) := bd (rmost 100 l) fun n l => rmany qint n l
def qedit (l : List Nat) : P E := bd (qruns l) fun A l => bd (qints l) fun D l => bd (qint l) fun x l => bd (qint l) fun y l => bd (rnum l) fun s l => ret ⟨A, D, x, y, s⟩ l
/-- Two answers that are alike up to R. -/
def Sim {α β : Type} (R : α → β → Prop) (x : P α) (y : P β) : Prop := match x, y with
  | .error e, .error f => e = f
  | .ok (a, r), .ok (b, s) => R a b ∧ r = s
  | _, _ => False
section
variable {α β γ δ : Type} {R : α → β → Prop} {S : γ → δ → Prop}
theorem Sim.bd {x : P α} {y : P β} {f : α → List Nat → P γ} {g : β → List Nat → P δ} (h : Sim R x y) (k : ∀ a b l, R a b → Sim S (f a l) (g b l)) : Sim S (Ed.bd x f) (Ed.bd y g) := by
  unfold Sim at h
  split at h
  · subst h; exact rfl
  · obtain ⟨h1, rfl⟩ := h
    exact k _ _ _ h1
  · exact h.elim
theorem Sim.refl (x : P α) : Sim (fun a b => a = b) x x := by
  unfold Sim
  rcases x with e | ⟨a, r⟩
  · rfl
  · exact ⟨rfl, rfl⟩
theorem Sim.ret {a : α} {b : β} (h : R a b) (l : List Nat) : Sim R (Ed.ret a l) (Ed.ret b l) := ⟨h, rfl⟩
theorem Sim.many {f : List Nat → P α} {g : List Nat → P β} (h : ∀ l, Sim R (f l) (g l)) : ∀ n l, Sim (All2 R) (rmany f n l) (rmany g n l)
  | 0, l => Sim.ret All2.nil l
  | n + 1, l => Sim.bd (h l) fun a b l hab => Sim.bd (Sim.many h n l) fun as bs l has => Sim.ret (All2.cons hab has) l
end
/-- Both are one, or both are out of every range. -/
def RI (a b : Int) : Prop := a = b ∨ ((a < 0 ∨ 1099511627776 < a) ∧ (b < 0 ∨ 1099511627776 < b))
theorem asI_cut (x : Nat) : RI (asI x) (cutI x) := by
  unfold RI asI cutI
  rw [IntKind.wrap_i64]
  split
  · split <;> omega
  · split <;> omega
theorem RI.symm {a b : Int} (h : RI a b) : RI b a := by unfold RI at h ⊢; omega
theorem sim_int (l : List Nat) : Sim RI (qint l) (rint l) := Sim.bd (Sim.refl _) fun a b l hab => by subst hab; exact Sim.ret (asI_cut a) l
structure RR (a b : Ru) : Prop where
  file : RI a.file b.file
  bytes : RI a.bytes b.bytes
  count : RI a.count b.count
  first : a.first = b.first
  last : a.last = b.last
  seq : a.seq = b.seq
structure RE (a b : E) : Prop where
  add : All2 RR a.add b.add
  drop : All2 RI a.drop b.drop
  next : RI a.next b.next
  log : RI a.log b.log
  seq : a.seq = b.seq
section
variable {α β : Type} {R : α → β → Prop} {as : List α} {bs : List β}
theorem All2.symm (h : All2 R as bs) : All2 (fun b a => R a b) bs as := by
  induction h with
  | nil => exact .nil
  | cons h _ ih => exact .cons h ih
theorem All2.imp {S : α → β → Prop} (h : All2 R as bs) (k : ∀ a b, R a b → S a b) : All2 S as bs := by
  induction h with
  | nil => exact .nil
  | cons h _ ih => exact .cons (k _ _ h) ih
end
theorem All2.same {α : Type} {R : α → α → Prop} {as bs : List α} (h : All2 R as bs) (k : ∀ a b, a ∈ as → R a b → b = a) : bs = as := by
  induction h with
  | nil => rfl
  | cons h _ ih => rw [k _ _ (List.mem_cons_self ..) h, ih fun a b ha hab => k a b (List.mem_cons_of_mem _ ha) hab]
theorem RR.symm {a b : Ru} (h : RR a b) : RR b a := ⟨h.file.symm, h.bytes.symm, h.count.symm, h.first.symm, h.last.symm, h.seq.symm⟩
theorem RE.symm {a b : E} (h : RE a b) : RE b a := ⟨h.add.symm.imp fun _ _ h => h.symm, h.drop.symm.imp fun _ _ h => h.symm, h.next.symm, h.log.symm, h.seq.symm⟩
theorem RI.same {a b : Int} (h : RI a b) (h0 : 0 ≤ a) (h1 : a ≤ 1099511627776) : b = a := by unfold RI at h; omega
theorem RR.same {a b : Ru} (h : RR a b) (ha : okR a = true) : b = a := by
  obtain ⟨h1, h2, h3, -⟩ := okR_parts ha
  obtain ⟨k1, k2, k3, k4, k5, k6⟩ := h
  rcases a with ⟨a1, a2, a3, a4, a5, a6⟩
  rcases b with ⟨b1, b2, b3, b4, b5, b6⟩
  simp only at h1 h2 h3 k1 k2 k3 k4 k5 k6
  rw [k1.same (by omega) (by omega), k2.same (by omega) (by omega), k3.same (by omega) (by omega), k4, k5, k6]
theorem RE.same {a b : E} (h : RE a b) (ha : right a = true) : b = a := by
  obtain ⟨-, -, r3, r4, -, -, -, r8, r9⟩ := right_parts ha
  have n3 := of_decide_eq_true r3
  have n4 := of_decide_eq_true r4
  obtain ⟨k1, k2, k3, k4, k5⟩ := h
  rcases a with ⟨a1, a2, a3, a4, a5⟩
  rcases b with ⟨b1, b2, b3, b4, b5⟩
  simp only at r8 r9 n3 n4 k1 k2 k3 k4 k5
  rw [k1.same fun a b ha hab => hab.same (r8 a ha), k2.same fun a b ha hab => hab.same (by have := of_decide_eq_true (r9 a ha); omega) (by have := of_decide_eq_true (r9 a ha); omega), k3.same n3.1 n3.2, k4.same n4.1 n4.2, k5]
theorem RE.right {a b : E} (h : RE a b) : Ed.right a = Ed.right b := by
  rw [Bool.eq_iff_iff]
  constructor
  · intro ha; rw [h.same ha]; exact ha
  · intro hb; rw [h.symm.same hb]; exact hb
theorem sim_run (l : List Nat) : Sim RR (qrun l) (rrun l) :=
  Sim.bd (sim_int l) fun a a' l ha => Sim.bd (sim_int l) fun b b' l hb => Sim.bd (sim_int l) fun c c' l hc => Sim.bd (Sim.refl _) fun f f' l hf => Sim.bd (Sim.refl _) fun g g' l hg => Sim.bd (Sim.refl _) fun s s' l hs => Sim.ret ⟨ha, hb, hc, hf, hg, hs⟩ l
theorem bd_assoc {α β γ : Type} (x : P α) (f : α → List Nat → P β) (g : β → List Nat → P γ) : bd (bd x f) g = bd x fun a l => bd (f a l) g := by
  rcases x with e | ⟨a, r⟩ <;> rfl
theorem sim_edit (l : List Nat) : Sim RE (qedit l) (redit l) := by
  have e : qedit l = bd (rmost 100 l) fun n l => bd (rmany qrun n l) fun A l => bd (rmost 100 l) fun m l => bd (rmany qint m l) fun D l => bd (qint l) fun x l => bd (qint l) fun y l => bd (rnum l) fun s l => ret ⟨A, D, x, y, s⟩ l := by
    unfold qedit qruns qints
    rw [bd_assoc]
    congr 1
    funext n l
    congr 1
    funext A l
    rw [bd_assoc]
  rw [e]
  exact Sim.bd (Sim.refl _) fun n n' l hn => by
    subst hn
    exact Sim.bd (Sim.many sim_run n l) fun A A' l hA => Sim.bd (Sim.refl _) fun m m' l hm => by
      subst hm
      exact Sim.bd (Sim.many sim_int m l) fun D D' l hD => Sim.bd (sim_int l) fun x x' l hx => Sim.bd (sim_int l) fun y y' l hy => Sim.bd (Sim.refl _) fun s s' l hs => Sim.ret ⟨hA, hD, hx, hy, hs⟩ l
/-- Read's answer, by the numbers as they are. -/
theorem read_q (bs : List Nat) : readE bs = match qedit bs with
  | .error e => (e, noE)
  | .ok (e, r) => if r ≠ [] ∨ right e = false then (2, noE) else (0, e) := by
  unfold readE
  have h := sim_edit bs
  unfold Sim at h
  split at h
  · rename_i e f h1 h2
    rw [h1, h2, h]
  · rename_i a r b s h1 h2
    rw [h1, h2]
    obtain ⟨hr, rfl⟩ := h
    simp only
    rw [hr.right]
    split
    · rfl
    · rename_i hc
      rw [hr.symm.same (by
        cases hb : right b with
        | true => rfl
        | false => exact absurd (.inr hb) hc)]
  · exact h.elim
end Go.Proofs.Ythhmjjmjicmhdaa.Ed
