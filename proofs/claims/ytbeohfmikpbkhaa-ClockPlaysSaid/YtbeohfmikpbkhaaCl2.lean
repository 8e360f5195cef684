/- The document's cache: find, Pins, List, NewCache. -/
import Derived.Test.YtbeohfmikpbkhaaCl
namespace Go.Proofs.Ytbeohfmikpbkhaa.Ck
set_option linter.unusedVariables false
set_option linter.unusedSimpArgs false
open Go.RowKit Lift Ik
section
variable {w w' : World} {g room hand c : Nat} {Z : Nat → Prop} {L : List D} {A : Option Addr}
def foundI : Option Nat → Int
  | some i => (i : Int)
  | none => -1
theorem find_at {l : List S} {f a : Int} {j : Nat} {s : S} (h : l[j]? = some s) (hh : here f a s = true) (hn : ∀ i y, i < j → l[i]? = some y → here f a y = false) : find l f a = some j := by
  obtain ⟨hl, e⟩ := List.getElem?_eq_some_iff.mp h
  refine List.findIdx?_eq_some_iff_getElem.mpr ⟨hl, by rw [e]; exact hh, fun i hi => ?_⟩
  rw [hn i l[i] hi (List.getElem?_eq_getElem _)]; simp
theorem find_no {l : List S} {f a : Int} (hn : ∀ i y, i < l.length → l[i]? = some y → here f a y = false) : find l f a = none := by
  refine List.findIdx?_eq_none_iff.mpr fun s hs => ?_
  obtain ⟨i, hi, e⟩ := List.getElem_of_mem hs
  exact hn i s hi (by rw [← e]; exact List.getElem?_eq_getElem hi)
set_option maxHeartbeats 800000 in
theorem rpins_any {r : R} (h : RC w g Z room r) : Calls Try.prog (33) #[.pointer (some ⟨g, 0, none⟩)] w fun e w' => e = .returned (vi (pinned r.1 : Nat)) ∧ w = w' := by
  obtain ⟨L, A, c, hl, he⟩ := h
  obtain ⟨f0, f1, f2⟩ := hl.facts
  have hmany := hl.many
  have HS : Hid (∀ i, ((L.take i).map fun d : D => d.s.pins).sum ≤ 1000000) := Lib.hid fun i => Nat.le_trans (sumLe _ 1000 (fun d hd => (hl.ok d hd).pins) i) (by omega)
  have HE : Hid (pinned r.1 = (L.map fun d : D => d.s.pins).sum) := Lib.hid (by rw [← he]; unfold pinned; rw [List.map_map]; rfl)
  have HF := Lib.hid fun d hd => (hl.ok d hd).pins
  have HL := Lib.hid hl
  clear hl he
  go_enter (Try.func33), (Try.ntmps33)
  go_wp2_with fail
  go_loopw [3, 4] (fun s i wr => ∃ j t : Nat, j ≤ L.length ∧ s = .int .i64 (t : Int) ∧ i = .int .i64 (j : Int) ∧ Hid (t = ((L.take j).map fun d : D => d.s.pins).sum) ∧ wr = w) (fun _ i _ => L.length + 1 - (intOf i).toNat)
  case atStart => exact ⟨0, 0, Nat.zero_le _, rfl, rfl, Lib.hid rfl, rfl⟩
  case round =>
    obtain ⟨j, t, hj, rfl, rfl, ht, rfl⟩ := hrel
    have hs := HS.out j
    have ht2 := ht.out
    have hs2 : t ≤ 1000000 := by omega
    clear hs ht2
    by_cases hlt : j < L.length
    · obtain ⟨d, hd⟩ : ∃ d, L[j]? = some d := ⟨_, List.getElem?_eq_getElem hlt⟩
      obtain ⟨b, hA, q0, q1, q2, q3, q4⟩ := HL.out.place hd
      subst hA
      have hfew := HF.out d (List.mem_of_getElem? hd)
      have HX := Lib.hid hd
      clear hd
      go_wp2_with fail
      go_roundw
      case rel => exact ⟨j + 1, t + d.s.pins, by omega, by go_num, by go_num, Lib.hid (by rw [sumTake _ HX.out, ht.out]), trivial⟩
      case measure => simp [intOf]; omega
    · obtain rfl : j = L.length := by omega
      go_wp2_with fail
      go_ret
      exact ⟨by have := ht.out; rw [List.take_length] at this; rw [HE.out, ← this]; rfl, rfl⟩
set_option maxHeartbeats 800000 in
theorem rfind_any {r : R} (f a : Int) (h : RC w g Z room r) : Calls Try.prog (26) #[.pointer (some ⟨g, 0, none⟩), .int .i64 f, .int .i64 a] w fun e w' => e = .returned (vi (foundI (find r.1 f a))) ∧ w = w' := by
  obtain ⟨L, A, c, hl, he⟩ := h
  obtain ⟨f0, f1, f2⟩ := hl.facts
  have hmany := hl.many
  have HE := Lib.hid he
  have HL := Lib.hid hl
  clear hl he
  go_enter (Try.func26), (Try.ntmps26)
  go_wp2_with fail
  go_loopw [7] (fun i wr => ∃ j : Nat, j ≤ L.length ∧ i = .int .i64 (j : Int) ∧ Hid (∀ i y, i < j → (L.map (·.s))[i]? = some y → here f a y = false) ∧ wr = w) (fun i _ => L.length + 1 - (intOf i).toNat)
  case atStart => exact ⟨0, Nat.zero_le _, rfl, Lib.hid fun i y hi => by omega, rfl⟩
  case round =>
    obtain ⟨j, hj, rfl, hbf, rfl⟩ := hrel
    by_cases hlt : j < L.length
    · obtain ⟨d, hd⟩ : ∃ d, L[j]? = some d := ⟨_, List.getElem?_eq_getElem hlt⟩
      obtain ⟨b, hA, q0, q1, q2, q3, q4⟩ := HL.out.place hd
      subst hA
      have HX := Lib.hid (show (L.map (·.s))[j]? = some d.s by rw [List.getElem?_map, hd]; rfl)
      clear hd
      have HNX : Hid (here f a d.s = false → ∀ i y, i < j + 1 → (L.map (·.s))[i]? = some y → here f a y = false) := Lib.hid fun hno i y hi hy => by
        by_cases hij : i = j
        · subst hij
          rw [HX.out] at hy
          injection hy with hy
          rw [← hy]; exact hno
        · exact hbf.out i y (by omega) hy
      by_cases k1 : d.s.file = f
      · by_cases k2 : d.s.off = a
        · have HH := Lib.hid (find_at HX.out (here_iff.mpr ⟨k1, k2⟩) hbf.out)
          subst k1
          subst k2
          go_wp2_with fail
          go_ret
          exact ⟨by rw [← HE.out, HH.out]; rfl, rfl⟩
        · have HH := Lib.hid (HNX.out (by unfold here; exact decide_eq_false fun e => k2 e.2))
          subst k1
          go_wp2_with fail
          go_roundw
          case rel => exact ⟨j + 1, by omega, by go_num, HH, trivial⟩
          case measure => simp [intOf]; omega
      · have HH := Lib.hid (HNX.out (by unfold here; exact decide_eq_false fun e => k1 e.1))
        go_wp2_with fail
        go_roundw
        case rel => exact ⟨j + 1, by omega, by go_num, HH, trivial⟩
        case measure => simp [intOf]; omega
    · obtain rfl : j = L.length := by omega
      have HH := Lib.hid (find_no (l := L.map (·.s)) (f := f) (a := a) fun i y hi => hbf.out i y (by simpa using hi))
      go_wp2_with fail
      go_ret
      exact ⟨by rw [← HE.out, HH.out]; rfl, rfl⟩
end
end Go.Proofs.Ytbeohfmikpbkhaa.Ck
