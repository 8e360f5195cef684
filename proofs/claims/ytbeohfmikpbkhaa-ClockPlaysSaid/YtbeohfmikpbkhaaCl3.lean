/- The document's cache: a slot that is written where it lies; Release. -/
import Derived.Test.YtbeohfmikpbkhaaCl2
namespace Go.Proofs.Ytbeohfmikpbkhaa.Ck
set_option linter.unusedVariables false
set_option linter.unusedSimpArgs false
open Go.RowKit Lift Ik
theorem cellsL_set {L : List D} {i k : Nat} {d d' : D} {u : Value} (h : L[i]? = some d) (hk : k < 5) (hc : d'.cells = d.cells.set k u) : (cellsL L).set (i * 5 + k) u = cellsL (L.set i d') := by
  induction L generalizing i with
  | nil => simp at h
  | cons e L ih =>
    have hl : e.cells.length = 5 := rfl
    cases i with
    | zero =>
      have e1 : e = d := by simpa using h
      subst e1
      show (e.cells ++ cellsL L).set (0 * 5 + k) u = d'.cells ++ cellsL L
      rw [hc, List.set_append_left _ _ (by rw [hl]; omega)]; simp
    | succ i =>
      show (e.cells ++ cellsL L).set ((i + 1) * 5 + k) u = e.cells ++ cellsL (L.set i d')
      rw [List.set_append_right _ _ (by rw [hl]; omega), ← ih (i := i) (by simpa using h), hl]
      congr 2; omega
section
variable {w w' : World} {g room hand c : Nat} {Z : Nat → Prop} {L : List D} {A : Option Addr}
/-- What becomes of a cache that a call writes. -/
def CWent (w : World) (g : Nat) (Z : Nat → Prop) (room : Nat) (r : R) (w' : World) : Prop := ∃ Z', RC w' g Z' room r ∧ Keep Z w w' ∧ ∀ k, Z' k → Z k ∨ w.heap.size ≤ k
theorem CWent.stay {r : R} (h : RC w g Z room r) (hb : Below w.heap.size w w') : CWent w g Z room r w' := ⟨Z, h.below hb, below_keep hb, fun k hk => .inl hk⟩
theorem CWent.post {r : R} {w1 w2 : World} (h : CWent w g Z room r w1) (hb : Below w1.heap.size w1 w2) : CWent w g Z room r w2 := by
  obtain ⟨S', h1, h2, h3⟩ := h
  exact ⟨S', h1.below hb, h2.trans (T := fun _ => False) (below_keep hb) (fun _ _ h => h.elim), h3⟩
theorem CWent.after {r : R} {w1 w2 : World} {Z1 : Nat → Prop} (hk : Keep Z w w1) (hs : ∀ k, Z1 k → Z k ∨ w.heap.size ≤ k) (h : CWent w1 g Z1 room r w2) : CWent w g Z room r w2 := by
  obtain ⟨S2, h1, h2, h3⟩ := h
  exact ⟨S2, h1, hk.trans h2 (fun k hk h4 => (hs k h4).elim id fun h5 => absurd hk (Nat.not_lt_of_le h5)), fun k h4 => (h3 k h4).elim (hs k) fun h5 => .inr (Nat.le_trans hk.size h5)⟩
/-- The array and the box lie apart. -/
theorem RLay.apart {b : Nat} (h : RLay w g Z room hand L (some ⟨b, 0, none⟩) c) : b ≠ g := fun e => own_apart h.own h.box (by decide) (by rw [e]; rfl)
/-- One cell of a slot is written. -/
theorem RLay.poke {b i k : Nat} {d d' : D} {u : Value} (h : RLay w g Z room hand L (some ⟨b, 0, none⟩) c) (hd : L[i]? = some d) (hk : k < 5) (hc : d'.cells = d.cells.set k u) (hb : d'.ba = d.ba ∧ d'.bc = d.bc ∧ d'.s.b = d.s.b) (hp : d'.s.pins ≤ 1000) :
    RLay (w.setCell ⟨b, i * 5 + k, none⟩ u) g Z room hand (L.set i d') (some ⟨b, 0, none⟩) c ∧ Keep Z w (w.setCell ⟨b, i * 5 + k, none⟩ u) := by
  have hK : Keep (· = b) w (w.setCell ⟨b, i * 5 + k, none⟩ u) := (Keep.refl (fun k => k = b) _).setCell (p := ⟨b, i * 5 + k, none⟩) (.inr rfl) _
  have hsz : (w.setCell ⟨b, i * 5 + k, none⟩ u).heap.size = w.heap.size := by simp [World.setCell]
  have hok : ∀ e, e ∈ L.set i d' → e.Ok (w.setCell ⟨b, i * 5 + k, none⟩ u) (fun k => Z k ∧ k ≠ g ∧ ∀ ad, some (⟨b, 0, none⟩ : Addr) = some ad → k ≠ ad.block) := by
    intro e he
    have hold : ∀ e, e ∈ L → e.Ok (w.setCell ⟨b, i * 5 + k, none⟩ u) (fun k => Z k ∧ k ≠ g ∧ ∀ ad, some (⟨b, 0, none⟩ : Addr) = some ad → k ≠ ad.block) := fun e he =>
      (h.ok e he).later (fun j hj => hK.block j (h.lt j hj.1) (hj.2.2 _ rfl)) fun _ h => h
    rcases List.mem_or_eq_of_mem_set he with he | he
    · exact hold e he
    · subst he
      have ho := hold d (List.mem_of_getElem? hd)
      obtain ⟨e1, e2, e3⟩ := hb
      exact ⟨by rw [e1, e3]; exact ho.bl, by rw [e2, e3]; exact ho.bc, by rw [e2]; exact ho.bm, by rw [e3]; exact ho.v8, by rw [e3]; exact ho.few, hp⟩
  refine ⟨⟨?_, ?_, hok, h.sg, h.sa, fun k hk => by rw [hsz]; exact h.lt k hk, by rw [List.length_set]; exact h.many, h.roomy, h.at_⟩, hK.mono fun k hk => by rw [hk]; exact h.sa _ rfl⟩
  · rw [List.length_set]; exact h.box.setOther (fun e => h.apart e.symm) _
  · have := (World.ownsRow.stored h.own (i * 5 + k) u).1
    rw [cellsL_set hd hk hc] at this
    rw [List.length_set]; exact this
theorem RLay.free {b : Nat} (h : RLay w g Z room hand L (some ⟨b, 0, none⟩) c) (j : Nat) : w.frozen? ⟨b, j, none⟩ = false := World.ownsRow.frozenAt h.own j
theorem set_modify {L : List D} {i : Nat} {d : D} {f : S → S} (h : L[i]? = some d) : (L.set i { d with s := f d.s }).map (·.s) = (L.map (·.s)).modify i f := by
  induction L generalizing i with
  | nil => simp at h
  | cons e L ih =>
    cases i with
    | zero =>
      have e1 : e = d := by simpa using h
      subst e1; simp
    | succ i => simp [ih (by simpa using h)]
set_option maxHeartbeats 800000 in
theorem rrel_any {r : R} (f a : Int) (h : RC w g Z room r) : Calls Try.prog (15) #[.pointer (some ⟨g, 0, none⟩), .int .i64 f, .int .i64 a] w fun e w' => e = .returned (.bool (relC r f a).2) ∧ CWent w g Z room (relC r f a).1 w' := by
  have HF := Lib.hid (rfind_any f a h)
  have HR := Lib.hid h
  obtain ⟨L, A, c, hl, he⟩ := h
  obtain ⟨f0, f1, f2⟩ := hl.facts
  have hmany := hl.many
  have HE := Lib.hid he
  have HL := Lib.hid hl
  clear hl he
  cases hf : find r.1 f a with
  | none =>
    have HN := Lib.hid (show relC r f a = (r, false) by unfold relC; rw [hf])
    rw [hf] at HF
    have HF : Hid (Calls Try.prog (26) #[.pointer (some ⟨g, 0, none⟩), .int .i64 f, .int .i64 a] w fun e w' => e = .returned (.int .i64 (-1)) ∧ w = w') := HF
    clear hf
    go_enter (Try.func15), (Try.ntmps15)
    go_wp2_with (first | (go_at_call 26; refine HF.out.mono ?_; rintro e w' ⟨rfl, rfl⟩))
    go_ret
    exact ⟨by rw [HN.out]; rfl, by rw [HN.out]; exact CWent.stay HR.out (Below.refl _ _)⟩
  | some i =>
    obtain ⟨s, hs, hsf⟩ := find_some hf
    obtain ⟨d, hd, hds⟩ : ∃ d, L[i]? = some d ∧ d.s = s := by
      rw [← HE.out, List.getElem?_map] at hs
      cases hq : L[i]? with
      | none => rw [hq] at hs; cases hs
      | some d => rw [hq] at hs; exact ⟨d, rfl, by simpa using hs⟩
    subst hds
    obtain ⟨b, hA, q0, q1, q2, q3, q4⟩ := HL.out.place hd
    subst hA
    have hil : i < L.length := (List.getElem?_eq_some_iff.1 hd).1
    have z3 := HL.out.free (i * 5 + 3)
    have hpi := (HL.out.ok d (List.mem_of_getElem? hd)).pins
    by_cases hp : d.s.pins = 0
    · have HN := Lib.hid (show relC r f a = (r, false) by unfold relC; rw [hf]; simp only [hs]; rw [if_pos hp])
      rw [hf] at HF
      have HF : Hid (Calls Try.prog (26) #[.pointer (some ⟨g, 0, none⟩), .int .i64 f, .int .i64 a] w fun e w' => e = .returned (.int .i64 ((i : Int))) ∧ w = w') := HF
      rw [hp] at q3
      clear hf hd hs
      go_enter (Try.func15), (Try.ntmps15)
      go_wp2_with (first | (go_at_call 26; refine HF.out.mono ?_; rintro e w' ⟨rfl, rfl⟩))
      go_ret
      exact ⟨by rw [HN.out]; rfl, by rw [HN.out]; exact CWent.stay HR.out (Below.refl _ _)⟩
    · have HN := Lib.hid (show relC r f a = ((r.1.modify i unpin, r.2), true) by unfold relC; rw [hf]; simp only [hs]; rw [if_neg hp])
      obtain ⟨m, hm⟩ : ∃ m, d.s.pins = m + 1 := ⟨d.s.pins - 1, by omega⟩
      have HW := Lib.hid (HL.out.poke (k := 3) (d' := { d with s := unpin d.s }) (u := .int .i64 (m : Int)) hd (by decide) (by simp [D.cells, unpin, hm]) ⟨rfl, rfl, rfl⟩ (by show d.s.pins - 1 ≤ _; omega))
      have HM := Lib.hid (set_modify (f := unpin) hd)
      rw [hf] at HF
      have HF : Hid (Calls Try.prog (26) #[.pointer (some ⟨g, 0, none⟩), .int .i64 f, .int .i64 a] w fun e w' => e = .returned (.int .i64 ((i : Int))) ∧ w = w') := HF
      rw [hm] at q3
      have d0 : ((m : Int) + 1 == 0) = false := beq_eq_false_iff_ne.mpr (by omega)
      have d1 : decide ((i : Int) < 0) = false := decide_eq_false (by omega)
      clear hf hd hs
      go_enter (Try.func15), (Try.ntmps15)
      go_wp2_with (first | (go_at_call 26; refine HF.out.mono ?_; rintro e w' ⟨rfl, rfl⟩))
      go_ret
      refine ⟨by rw [HN.out]; rfl, ?_⟩
      rw [HN.out]
      exact ⟨Z, ⟨_, _, _, HW.out.1, by rw [HM.out, HE.out]⟩, HW.out.2, fun k hk => .inl hk⟩
end
end Go.Proofs.Ytbeohfmikpbkhaa.Ck
