/- The project's cache: Get and Release. -/
import Derived.Test.YtbeohfmikpbkhaaCo4
namespace Go.Proofs.Ytbeohfmikpbkhaa.Ck
set_option linter.unusedVariables false
set_option linter.unusedSimpArgs false
open Go.RowKit Go.Maps Lift Ik
section
variable {w w' : World} {g room hand : Nat} {Z : Nat → Prop} {L : List E} {M : Option Nat} {pv nx : Nat → Nat}
theorem clone_e {e : E} (h : e.Ok w Z) : Calls Try.prog 23 #[.slice e.ba e.s.b.length e.bc] w (Made w.heap.size w e.s.b) := by
  have hf := h.few
  have ho := h.own
  rcases hA : e.ba with _ | ad
  · rw [hA] at ho
    have h0 : e.s.b.length = 0 ∧ e.bc = 0 := by
      rcases ho.2 with ⟨h0, h1⟩ | ⟨g, cap, cur, hv, _⟩
      · injection h0 with _ h2 h3
        exact ⟨h1, h3⟩
      · cases hv
    rw [h0.1, h0.2, List.eq_nil_of_length_eq_zero h0.1]
    refine (clone_nil w).mono ?_
    rintro e w' ⟨rfl, rfl⟩
    exact ⟨_, rfl, World.ownsRow_nil _ _ _ _, Below.refl _ _⟩
  · rw [hA] at ho
    exact clone_any ad e.bc e.s.b w (Lies.of_own ho) (by omega)
/-- What Get leaves. -/
def GotO (w : World) (g : Nat) (Z : Nat → Prop) (room : Nat) (r : R) (f a : Int) (e : Ending) (w' : World) : Prop :=
  ∃ A c bs, bs = (getC r f a).2.getD [] ∧ e = .returned (.tuple #[.slice A bs.length c, .bool (getC r f a).2.isSome]) ∧ w'.ownsRow w.heap.size 5 1 (.slice A bs.length c) bs.length (bs.map vb) ∧ OC w' g Z room (getC r f a).1 ∧ Keep Z w w'
set_option maxHeartbeats 1600000 in
theorem get_any {r : R} (f a : Int) (hf : wf64 f) (ha : wf64 a) (h : OC w g Z room r) (hp : pinned r.1 + 1 ≤ 1000) : Calls Try.prog (11) #[pt g, .int .i64 f, .int .i64 a] w (GotO w g Z room r f a) := by
  have HR := Lib.hid h
  obtain ⟨M, L, pv, nx, hl, he⟩ := h
  obtain ⟨f0, f1, f2, f3, f4⟩ := hl.facts
  have hlk := look_run hl.map hf ha
  have HE := Lib.hid he
  have HL := Lib.hid hl
  clear hl f3 f4 f0 f1
  cases hq : find r.1 f a with
  | none =>
    have HN := Lib.hid (show getC r f a = (r, none) by unfold getC; rw [hq])
    rw [he, hq] at hlk
    change Sem.run _ _ _ = .ok (Value.pointer none) w at hlk
    clear hq he
    go_enter (Try.func11), (Try.ntmps11)
    go_wp2_with fail
    go_returns
    exact ⟨none, 0, [], by rw [HN.out]; rfl, by rw [HN.out]; rfl, World.ownsRow_nil _ _ _ _, by rw [HN.out]; exact HR.out, Keep.refl _ _⟩
  | some i =>
    have hq' := hq
    rw [← he] at hq'
    obtain ⟨e, hei, h1, h2⟩ := find_map hq'
    have hs : r.1[i]? = some e.s := by rw [← he, List.getElem?_map, hei]; rfl
    have hpi := pins_le (List.mem_of_getElem? hs)
    have HN := Lib.hid (show getC r f a = ((r.1.modify i pin, r.2), some e.s.b) by unfold getC; rw [hq]; simp only [hs]; rfl)
    have HM := Lib.hid (set_map (f := pin) hei)
    rw [hq'] at hlk
    change Sem.run _ _ _ = .ok (ptO ((L[i]?).map E.blk)) w at hlk
    rw [hei] at hlk
    change Sem.run _ _ _ = .ok (pt e.blk) w at hlk
    have hem := List.mem_of_getElem? hei
    have HP := Lib.hid (pin_any (HL.out.mem.node e hem) (by omega))
    obtain ⟨w2, hw2, hl2, hk2⟩ := HL.out.pinned hei (by omega)
    have hil := (List.getElem?_eq_some_iff.1 hei).1
    have hei2 : (L.set i { e with s := pin e.s })[i]? = some { e with s := pin e.s } := List.getElem?_set_self hil
    have hem2 := List.mem_of_getElem? hei2
    have k2 := (hl2.mem.facts hem2).2.2.1
    change w2.cell? ⟨e.blk, 2, none⟩ = some (.slice e.ba e.s.b.length e.bc) at k2
    have HC : Hid (Calls Try.prog 23 #[.slice e.ba e.s.b.length e.bc] w2 (Made w2.heap.size w2 e.s.b)) := Lib.hid (clone_e (e := { e with s := pin e.s }) (hl2.mem.ok _ hem2))
    have HL2 := Lib.hid hl2
    have HK2 := Lib.hid hk2
    rw [← hw2] at HP
    clear hq hq' hs hei hei2 hem hem2 hl2 hk2 hw2 he h1 h2
    generalize e.blk = b at *
    go_enter (Try.func11), (Try.ntmps11)
    go_wp2_with (first | (go_at_call 25; refine HP.out.mono ?_; rintro v W ⟨rfl, rfl⟩) | (go_at_call 23; refine HC.out.mono ?_; rintro v W3 ⟨v3, rfl, ho3, hb3⟩; obtain ⟨A3, c3, rfl, -, -, -⟩ := own_parts ho3))
    go_returns
    refine ⟨A3, c3, e.s.b, by rw [HN.out]; rfl, by rw [HN.out]; rfl, own_lower ho3 HK2.out.size, ?_, HK2.out.trans (T := fun _ => False) (below_keep hb3) (fun _ _ h => h.elim)⟩
    rw [HN.out]
    exact OC.below ⟨M, _, pv, nx, HL2.out, by rw [HM.out, HE.out]⟩ hb3
set_option maxHeartbeats 1600000 in
theorem rel_any {r : R} (f a : Int) (hf : wf64 f) (ha : wf64 a) (h : OC w g Z room r) : Calls Try.prog (14) #[pt g, .int .i64 f, .int .i64 a] w fun e w' => e = .returned (.bool (relC r f a).2) ∧ OWent w g Z room (relC r f a).1 w' := by
  have HR := Lib.hid h
  obtain ⟨M, L, pv, nx, hl, he⟩ := h
  obtain ⟨f0, f1, f2, f3, f4⟩ := hl.facts
  have hlk := look_run hl.map hf ha
  have HE := Lib.hid he
  have HL := Lib.hid hl
  clear hl f3 f4 f0 f1
  cases hq : find r.1 f a with
  | none =>
    have HN := Lib.hid (show relC r f a = (r, false) by unfold relC; rw [hq])
    rw [he, hq] at hlk
    change Sem.run _ _ _ = .ok (Value.pointer none) w at hlk
    clear hq he
    go_enter (Try.func14), (Try.ntmps14)
    go_wp2_with fail
    go_ret
    exact ⟨by rw [HN.out]; rfl, by rw [HN.out]; exact OWent.stay HR.out (Below.refl _ _)⟩
  | some i =>
    have hq' := hq
    rw [← he] at hq'
    obtain ⟨e, hei, h1, h2⟩ := find_map hq'
    have hs : r.1[i]? = some e.s := by rw [← he, List.getElem?_map, hei]; rfl
    rw [hq'] at hlk
    change Sem.run _ _ _ = .ok (ptO ((L[i]?).map E.blk)) w at hlk
    rw [hei] at hlk
    change Sem.run _ _ _ = .ok (pt e.blk) w at hlk
    have hem := List.mem_of_getElem? hei
    obtain ⟨_, _, _, c3, _, _, _, hz⟩ := HL.out.mem.facts hem
    have z3 := hz 3
    have hpi := (HL.out.mem.ok e hem).pins
    by_cases hp : e.s.pins = 0
    · have HN := Lib.hid (show relC r f a = (r, false) by unfold relC; rw [hq]; simp only [hs]; rw [if_pos hp])
      rw [hp] at c3
      clear hq hq' hs hei hem hz he h1 h2
      generalize e.blk = b at *
      go_enter (Try.func14), (Try.ntmps14)
      go_wp2_with fail
      go_ret
      exact ⟨by rw [HN.out]; rfl, by rw [HN.out]; exact OWent.stay HR.out (Below.refl _ _)⟩
    · have HN := Lib.hid (show relC r f a = ((r.1.modify i unpin, r.2), true) by unfold relC; rw [hq]; simp only [hs]; rw [if_neg hp])
      obtain ⟨m, hm⟩ : ∃ m, e.s.pins = m + 1 := ⟨e.s.pins - 1, by omega⟩
      have HM := Lib.hid (set_map (f := unpin) hei)
      have hpk := HL.out.mem.poke (e' := { e with s := unpin e.s }) (k := 3) (u := .int .i64 (m : Int)) hei ⟨rfl, rfl, rfl, rfl, rfl, rfl⟩ (by show e.s.pins - 1 ≤ _; omega) (by simp [E.cells, unpin, hm])
      have HW := Lib.hid (HL.out.modify (f := unpin) hei (fun _ => rfl) (fun _ => rfl) (fun _ => rfl) ((Keep.refl (· = e.blk) w).setCell (p := ⟨e.blk, 3, none⟩) (.inr rfl) _) hpk.1)
      have HK := Lib.hid hpk.2
      rw [hm] at c3
      have d0 : ((m : Int) + 1 == 0) = false := beq_eq_false_iff_ne.mpr (by omega)
      clear hq hq' hs hei hem hz he h1 h2 hpk hp
      generalize e.blk = b at *
      go_enter (Try.func14), (Try.ntmps14)
      go_wp2_with fail
      go_ret
      refine ⟨by rw [HN.out]; rfl, ?_⟩
      rw [HN.out]
      exact ⟨Z, ⟨M, _, pv, nx, HW.out, by rw [HM.out, HE.out]⟩, HK.out, fun k hk => .inl hk⟩
end
end Go.Proofs.Ytbeohfmikpbkhaa.Ck
