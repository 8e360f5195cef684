/- The document's cache: Get. -/
import Derived.Test.YtbeohfmikpbkhaaCl3
import Derived.Test.YtbeohfmikpbkhaaMade
namespace Go.Proofs.Ytbeohfmikpbkhaa.Ck
set_option linter.unusedVariables false
set_option linter.unusedSimpArgs false
open Go.RowKit Lift Ik
section
variable {w w' : World} {g room hand c : Nat} {Z : Nat → Prop} {L : List D} {A : Option Addr}
/-- A pin and a mark: two cells of a slot. -/
theorem RLay.pinned {b i : Nat} {d : D} (h : RLay w g Z room hand L (some ⟨b, 0, none⟩) c) (hd : L[i]? = some d) (hp : d.s.pins + 1 ≤ 1000) :
    ∃ w1 w2, w1 = w.setCell ⟨b, i * 5 + 3, none⟩ (.int .i64 ((d.s.pins : Int) + 1)) ∧ w2 = w1.setCell ⟨b, i * 5 + 4, none⟩ (.bool true) ∧
      (∃ L1, L1.length = L.length ∧ RLay w1 g Z room hand L1 (some ⟨b, 0, none⟩) c ∧ L1[i]? = some { d with s := { d.s with pins := d.s.pins + 1 } }) ∧
      RLay w2 g Z room hand (L.set i { d with s := pin d.s }) (some ⟨b, 0, none⟩) c ∧ Keep Z w w2 := by
  have hil : i < L.length := (List.getElem?_eq_some_iff.1 hd).1
  have H1 := h.poke (k := 3) (d' := { d with s := { d.s with pins := d.s.pins + 1 } }) (u := .int .i64 ((d.s.pins : Int) + 1)) hd (by decide) (by simp [D.cells]) ⟨rfl, rfl, rfl⟩ hp
  have hd1 : (L.set i { d with s := { d.s with pins := d.s.pins + 1 } })[i]? = some { d with s := { d.s with pins := d.s.pins + 1 } } := by simp [hil]
  have H2 := H1.1.poke (k := 4) (d' := { d with s := pin d.s }) (u := .bool true) hd1 (by decide) (by simp [D.cells, pin]) ⟨rfl, rfl, rfl⟩ hp
  rw [List.set_set] at H2
  exact ⟨_, _, rfl, rfl, ⟨_, List.length_set .., H1.1, hd1⟩, H2.1, H1.2.trans H2.2 fun _ _ h => h⟩
/-- What Get leaves and answers. -/
def GotC (w : World) (g : Nat) (Z : Nat → Prop) (room : Nat) (r : R) (f a : Int) (e : Ending) (w' : World) : Prop :=
  ∃ A c bs, bs = (getC r f a).2.getD [] ∧ e = .returned (.tuple #[.slice A bs.length c, .bool (getC r f a).2.isSome]) ∧ w'.ownsRow w.heap.size 5 1 (.slice A bs.length c) bs.length (bs.map vb) ∧ RC w' g Z room (getC r f a).1 ∧ Keep Z w w'
set_option maxHeartbeats 1600000 in
theorem rget_any {r : R} (f a : Int) (h : RC w g Z room r) (hp : pinned r.1 + 1 ≤ 1000) : Calls Try.prog (12) #[.pointer (some ⟨g, 0, none⟩), .int .i64 f, .int .i64 a] w (GotC w g Z room r f a) := by
  have HF := Lib.hid (rfind_any f a h)
  have HR := Lib.hid h
  obtain ⟨L, A, c, hl, he⟩ := h
  obtain ⟨f0, f1, f2⟩ := hl.facts
  have hmany := hl.many
  have HE := Lib.hid he
  have HL := Lib.hid hl
  clear hl he
  cases hf : find r.1 f a with
  | none =>
    have HN := Lib.hid (show getC r f a = (r, none) by unfold getC; rw [hf])
    rw [hf] at HF
    have HF : Hid (Calls Try.prog (26) #[.pointer (some ⟨g, 0, none⟩), .int .i64 f, .int .i64 a] w fun e w' => e = .returned (.int .i64 (-1)) ∧ w = w') := HF
    clear hf
    go_enter (Try.func12), (Try.ntmps12)
    go_wp2_with (first | (go_at_call 26; refine HF.out.mono ?_; rintro e w' ⟨rfl, rfl⟩))
    go_returns
    exact ⟨none, 0, [], by rw [HN.out]; rfl, by rw [HN.out]; rfl, World.ownsRow_nil _ _ _ _, by rw [HN.out]; exact HR.out, Keep.refl _ _⟩
  | some i =>
    obtain ⟨s, hs, hsf⟩ := find_some hf
    obtain ⟨d, hd, hds⟩ : ∃ d, L[i]? = some d ∧ d.s = s := by
      rw [← HE.out, List.getElem?_map] at hs
      cases hq : L[i]? with
      | none => rw [hq] at hs; cases hs
      | some d => rw [hq] at hs; exact ⟨d, rfl, by simpa using hs⟩
    subst hds
    obtain ⟨b, hA, q0, q1, q2, q3, q4⟩ := HL.out.place hd
    subst hA
    have hil : i < L.length := (List.getElem?_eq_some_iff.1 hd).1
    have hpi := pins_le (List.mem_of_getElem? hs)
    have HN := Lib.hid (show getC r f a = ((r.1.modify i pin, r.2), some d.s.b) by unfold getC; rw [hf]; simp only [hs]; rfl)
    have HM := Lib.hid (set_modify (f := pin) hd)
    obtain ⟨w1, w2, e1, e2, ⟨L1, hL1, H1, hd1⟩, H2, hK⟩ := HL.out.pinned hd (by omega)
    have hd2 : (L.set i { d with s := pin d.s })[i]? = some { d with s := pin d.s } := by simp [hil]
    obtain ⟨b1, hb1, p0, p1, p2, p3, p4⟩ := H1.place hd1
    injection hb1 with hb1
    injection hb1 with hb1
    subst hb1
    obtain ⟨b1, hb1, t0, t1, t2, t3, t4⟩ := H2.place hd2
    injection hb1 with hb1
    injection hb1 with hb1
    subst hb1
    have z3 := HL.out.free (i * 5 + 3)
    have z4 := H1.free (i * 5 + 4)
    have k1 := H1.facts.2.1
    have k2 := H2.facts.2.1
    rw [hL1] at k1
    rw [List.length_set] at k2
    have ho := H2.ok _ (List.mem_of_getElem? hd2)
    have hfew : d.s.b.length ≤ 100 := ho.few
    have hll : Lies w2 w2.heap.size d.ba (d.s.b.map fun c : Nat => Value.int .u8 (c : Int)) := ho.bl.lies fun k hk => H2.lt k hk.1
    obtain ⟨A2, c2, W2, hr, hown, hb⟩ := fresh_bytes d.ba d.bc w2.heap.size d.s.b w2 hll (by omega)
    have hsz : w2.heap.size = w.heap.size := by rw [e2, e1]; simp [World.setCell]
    have HO := Lib.hid (show W2.ownsRow w.heap.size 5 1 (.slice A2 d.s.b.length c2) d.s.b.length (d.s.b.map vb) by rw [← hsz]; exact hown)
    have HC : Hid (RC W2 g Z room (r.1.modify i pin, r.2)) := Lib.hid (RC.below ⟨_, _, _, H2, by rw [HM.out, HE.out]⟩ hb)
    have HK := Lib.hid (hK.trans (T := fun _ => False) (below_keep hb) (fun _ _ h => h.elim))
    rw [hf] at HF
    have HF : Hid (Calls Try.prog (26) #[.pointer (some ⟨g, 0, none⟩), .int .i64 f, .int .i64 a] w fun e w' => e = .returned (.int .i64 (i : Int)) ∧ w = w') := HF
    have d1 : decide ((i : Int) < 0) = false := decide_eq_false (by omega)
    clear hf hd hs H1 H2 hd1 hd2 ho hll hown hb hK
    simp only at p2 p4 t2
    subst e1
    subst e2
    have HRN := Lib.hid hr
    clear hr
    go_enter (Try.func12), (Try.ntmps12)
    go_wp2_with (first | (go_at_call 26; refine HF.out.mono ?_; rintro e w' ⟨rfl, rfl⟩) | (at_builtin; refine wpList_append_run rfl _ _ 28 rfl rfl rfl HRN.out ?_))
    go_returns
    exact ⟨A2, c2, d.s.b, by rw [HN.out]; rfl, by rw [HN.out]; rfl, HO.out, by rw [HN.out]; exact HC.out, HK.out⟩
end
end Go.Proofs.Ytbeohfmikpbkhaa.Ck
