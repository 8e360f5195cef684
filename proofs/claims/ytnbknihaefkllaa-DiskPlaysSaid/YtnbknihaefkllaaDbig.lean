/- Big and Same of butterylaw6: which calls are too big, and whether two disks tell the same. -/
import Derived.Test.YtnbknihaefkllaaDtri
import Derived.Deep.QuietTactic
import Derived.BigQuiet
namespace Go.Proofs.Ytnbknihaefkllaa.Dl
set_option linter.unusedVariables false
set_option linter.unusedSimpArgs false
open Go.RowKit Go.Maps Lift Ik
open Dk (MS FM hit hit_fs hit_failed sizeM readM syncM appendM crashM renameM onFile num_any used)
open Rk (RTold removeM before)
/-- A call that is not too big. -/
def Small (d : Ac) : Prop := d.p.size ≤ 60 ∧ d.q.size ≤ 60 ∧ d.b.length ≤ 300 ∧ d.l.length ≤ 40
def BigTold (w : World) (L : List Ac) (e : Ending) (w' : World) : Prop :=
  Below w.heap.size w w' ∧ (e = .returned (.bool true) ∨ (e = .returned (.bool false) ∧ L.length ≤ 60 ∧ ∀ d, d ∈ L → Small d))
set_option maxRecDepth 100000 in
set_option maxHeartbeats 1600000 in
theorem big_any (B : Nat) (w : World) (A : Option Addr) (c : Nat) (L : List Ac) (hB0 : B ≤ w.heap.size) (h : Acts w B A c L) : Calls Try.prog 5 #[.slice A L.length c] w (BigTold w L) := by
  have HA := Lib.hid h
  have hlc := h.len
  have hcm := h.cap
  unfold maxLen at hcm
  clear h
  go_enter Try.func5, Try.ntmps5
  go_wp2_with fail
  go_loopw [3] (fun i wr => ∃ j : Nat, j ≤ L.length ∧ i = .int .i64 (j : Int) ∧ Hid (∀ k d, k < j → L[k]? = some d → Small d) ∧ Hid (Below w.heap.size w wr)) (fun i _ => L.length + 1 - (intOf i).toNat)
  case atStart => exact ⟨0, by omega, rfl, Lib.hid (fun k d hk => by omega), Lib.hid (Below.refl _ _)⟩
  case round =>
    obtain ⟨j, hj, rfl, HS, HB⟩ := hrel
    by_cases hlt : j < L.length
    · have dl : decide (j < L.length) = true := decide_eq_true hlt
      obtain ⟨d, hd⟩ : ∃ d, L[j]? = some d := ⟨_, List.getElem?_eq_getElem hlt⟩
      obtain ⟨ad, p, rfl, hp, hr⟩ := HA.out.reads hd
      have HOK := Lib.hid (HA.out.ok d (List.mem_of_getElem? hd))
      have HD := Lib.hid hd
      obtain ⟨_, _, _, c3, c4, c5, c6⟩ := hr _ (HB.out.mono hB0)
      clear hr hd
      by_cases k1 : 60 < d.p.size
      · have d1 : decide ((60 : Int) < (d.p.size : Int)) = true := by simp; omega
        go_wp2_with fail
        go_ret
        exact ⟨HB.out, .inl rfl⟩
      · have d1 : decide ((60 : Int) < (d.p.size : Int)) = false := by simp; omega
        by_cases k2 : 60 < d.q.size
        · have d2 : decide ((60 : Int) < (d.q.size : Int)) = true := by simp; omega
          go_wp2_with fail
          go_ret
          exact ⟨HB.out, .inl rfl⟩
        · have d2 : decide ((60 : Int) < (d.q.size : Int)) = false := by simp; omega
          by_cases k3 : 300 < d.b.length
          · have d3 : decide ((300 : Int) < (d.b.length : Int)) = true := by simp; omega
            go_wp2_with fail
            go_ret
            exact ⟨HB.out, .inl rfl⟩
          · have d3 : decide ((300 : Int) < (d.b.length : Int)) = false := by simp; omega
            by_cases k4 : 40 < d.l.length
            · have d4 : decide ((40 : Int) < (d.l.length : Int)) = true := by simp; omega
              go_wp2_with fail
              go_ret
              exact ⟨HB.out, .inl rfl⟩
            · have d4 : decide ((40 : Int) < (d.l.length : Int)) = false := by simp; omega
              go_wp2_with fail
              go_roundw
              case rel =>
                refine ⟨j + 1, by omega, by go_num, Lib.hid fun k x hk hx => ?_, HB⟩
                by_cases e : k = j
                · subst e
                  have : d = x := Option.some.inj (HD.out.symm.trans hx)
                  subst this
                  exact ⟨by omega, by omega, by omega, by omega⟩
                · exact HS.out k x (by omega) hx
              case measure => simp [intOf]; omega
    · obtain rfl : j = L.length := by omega
      have dl : decide (L.length < L.length) = false := decide_eq_false (by omega)
      have hall : ∀ d, d ∈ L → Small d := fun d hd => by
        obtain ⟨k, hk, e⟩ := List.mem_iff_getElem.1 hd
        exact HS.out k d hk (by rw [List.getElem?_eq_getElem hk, e])
      have HALL := Lib.hid hall
      clear hall
      by_cases k1 : 60 < L.length
      · have d1 : decide ((60 : Int) < (L.length : Int)) = true := by simp; omega
        go_wp2_with fail
        go_ret
        exact ⟨HB.out, .inl rfl⟩
      · have d1 : decide ((60 : Int) < (L.length : Int)) = false := by simp; omega
        go_wp2_with fail
        go_ret
        exact ⟨HB.out, .inr ⟨rfl, by omega, HALL.out⟩⟩
section
variable {B g gr go : Nat} {w0 w : World} {S Sr So : Nat → Prop} {m mo : MS} {rm : Int}
theorem rg_of {w : World} {g : Nat} {S : Nat → Prop} {rm : Int} {m : MS} (h : Rk.At w g S rm m) : S g := by obtain ⟨_, _, _, _, _, h⟩ := h; exact h.sg
theorem dg_of {w : World} {g : Nat} {S : Nat → Prop} {m : MS} (h : Dk.At w g S m) : S g := by obtain ⟨_, _, _, _, h⟩ := h; exact h.sg
theorem rused_at {w : World} {g : Nat} {S : Nat → Prop} {rm : Int} {m : MS} (h : Rk.At w g S rm m) : Calls Try.prog (30) #[.pointer (some ⟨g, 0, none⟩)] w fun e w' => e = .returned (.int .i64 (used m.fs : Nat)) ∧ w = w' := by
  obtain ⟨L, A, F, c, cf, h⟩ := h
  exact Rk.rused_any h
def names (m : MS) : List ByteArray := m.fs.map fun f => f.nm
theorem list_names (h : Dk.At w g S m) (hs : m.fs.Pairwise before) : Calls Try.prog (34) #[.pointer (some ⟨g, 0, none⟩)] w fun e w' =>
    ∃ A c, e = .returned (.slice A (names m).length c) ∧ LiesP w' (fun k => w.heap.size ≤ k ∧ k < w'.heap.size) A ((names m).map Value.string) ∧ Below w.heap.size w w' := by
  refine (Dk.list_any h).mono ?_
  rintro e w' ⟨ss, A, c, rfl, hp, hl, hb⟩
  have hn : ss.length = (names m).length := by rw [hp.length_eq]; simp [names]
  exact ⟨A, c, by rw [hn], by rw [Rk.listed_names hs hp] at hl; exact hl, hb⟩
theorem rlist_names (h : Rk.At w g S rm m) : Calls Try.prog (35) #[.pointer (some ⟨g, 0, none⟩)] w fun e w' =>
    ∃ A c, e = .returned (.slice A (names m).length c) ∧ Lies w' w'.heap.size A ((names m).map Value.string) ∧ Below w.heap.size w w' := by
  refine (Rk.rlist_any h).mono ?_
  rintro e w' ⟨A, c, rfl, _, hl, hb⟩
  exact ⟨A, c, by simp [names], by rw [names, List.map_map]; exact hl, hb⟩
set_option maxRecDepth 100000 in
theorem same_texts (A1 A2 : Option Addr) (c1 c2 : Nat) (ss : List ByteArray) (w : World) (h1 : Lies w w.heap.size A1 (ss.map Value.string)) (h2 : Lies w w.heap.size A2 (ss.map Value.string)) (hn : ss.length ≤ 1000) :
    Calls Try.prog 33 #[.slice A1 ss.length c1, .slice A2 ss.length c2] w fun e w' => e = .returned (.bool true) ∧ Below w.heap.size w w' := by
  have L1 := Lib.hid h1
  have L2 := Lib.hid h2
  clear h1 h2
  go_enter Try.func33, Try.ntmps33
  go_wp2_with fail
  go_loopw [5] (fun i wr => ∃ j : Nat, j ≤ ss.length ∧ i = .int .i64 j ∧ Hid (Below w.heap.size w wr)) (fun i _ => ss.length + 1 - (intOf i).toNat)
  case atStart => exact ⟨0, by omega, rfl, Lib.hid (Below.refl _ _)⟩
  case round =>
    obtain ⟨j, hj, rfl, hb⟩ := hrel
    by_cases hlt : j < ss.length
    · obtain ⟨s, hd⟩ : ∃ s, ss[j]? = some s := ⟨_, List.getElem?_eq_getElem hlt⟩
      obtain ⟨a1, hA1, _, q1⟩ := (L1.out.below hb.out).place (by rw [List.length_map]; omega)
      obtain ⟨a2, hA2, _, q2⟩ := (L2.out.below hb.out).place (by rw [List.length_map]; omega)
      have r1 := q1 j (.string s) (by rw [List.getElem?_map, hd]; rfl)
      have r2 := q2 j (.string s) (by rw [List.getElem?_map, hd]; rfl)
      subst hA1 hA2
      have dl : decide (j < ss.length) = true := decide_eq_true hlt
      clear q1 q2 hd
      go_wp2_with fail
      go_quiet (fail)
      go_wp2_with fail
      go_roundw
      case rel => exact ⟨j + 1, by omega, by go_num, Lib.hid (hb.out.trans (Joins.below_draws _ _ _))⟩
      case measure => simp [intOf]; omega
    · have dl : decide (j < ss.length) = false := decide_eq_false hlt
      go_wp2_with fail
      go_ret
      exact ⟨rfl, hb.out⟩
def SameTold (B : Nat) (w0 : World) (g : Nat) (S : Nat → Prop) (gr : Nat) (Sr : Nat → Prop) (rm : Int) (go : Nat) (So : Nat → Prop) (mo m' : MS) (e : Ending) (w' : World) : Prop :=
  e = .returned (.bool true) ∧ Tri B w0 w' g S m' gr Sr rm m' go So mo
set_option maxRecDepth 100000 in
set_option maxHeartbeats 1600000 in
theorem same_disks (p : ByteArray) (T : Tri B w0 w g S m gr Sr rm m go So mo) (hp : p.size ≤ 60) (hf : m.failed ≤ 100000) :
    Calls Try.prog 10 #[.pointer (some ⟨g, 0, none⟩), .pointer (some ⟨gr, 0, none⟩), .string p] w (SameTold B w0 g S gr Sr rm go So mo (hit m).2) := by
  have T0 := Lib.hid T
  clear T
  go_enter Try.func10, Try.ntmps10
  go_wp2_with fail
  refine (Dk.size_any p T0.out.d (by omega)).mono ?_
  rintro e W1 ⟨rfl, hA, hK⟩
  have T1 := Lib.hid (T0.out.dd hA (hK.mono fun k hk => by rw [hk]; exact dg_of T0.out.d) fun k hk => .inl hk)
  clear hA hK T0
  go_wp2_with fail
  refine (Rk.rsize_any p (by omega) T1.out.r (by omega)).mono ?_
  rintro e W2 ⟨rfl, hA, hK⟩
  have T2 := Lib.hid (T1.out.rr hA (hK.mono fun k hk => by rw [hk]; exact rg_of T1.out.r) fun k hk => .inl hk)
  clear hA hK T1
  generalize sizeM m p = z at *
  generalize (hit m).2 = m' at *
  have n1 : ((z.2 : Int) == (z.2 : Int)) = true := by simp
  have n2 : ((z.1 : Int) == (z.1 : Int)) = true := by simp
  have n3 : ((used m'.fs : Int) == (used m'.fs : Int)) = true := by simp
  have n4 : ((m'.failed : Int) == (m'.failed : Int)) = true := by simp
  obtain ⟨hs, hm⟩ : m'.fs.Pairwise before ∧ m'.fs.length ≤ 1000 := by
    obtain ⟨L, A, F, c, cf, h⟩ := T2.out.r
    exact ⟨h.sorted, by have := h.many; rw [h.told, List.length_map]; exact this⟩
  have HS := Lib.hid hs
  have hnm : (names m').length ≤ 1000 := by rw [names, List.length_map]; exact hm
  clear hs
  go_wp2_with (first
    | (go_at_call 13; refine (num_any _ _).mono ?_; rintro e w' ⟨rfl, rfl⟩)
    | (go_at_call 29; refine (Dk.used_any T2.out.d).mono ?_; rintro e w' ⟨rfl, rfl⟩)
    | (go_at_call 30; refine (rused_at T2.out.r).mono ?_; rintro e w' ⟨rfl, rfl⟩)
    | (go_at_call 31; refine (Dk.failed_any T2.out.d).mono ?_; rintro e w' ⟨rfl, rfl⟩)
    | (go_at_call 32; refine (Rk.rfailed_any T2.out.r).mono ?_; rintro e w' ⟨rfl, rfl⟩))
  refine (list_names T2.out.d HS.out).mono ?_
  rintro e W3 ⟨A3, c3, rfl, hl3, hb3⟩
  have T3 := Lib.hid (T2.out.below hb3)
  have HL3 := Lib.hid hl3
  clear hl3 hb3 T2
  go_wp2_with fail
  refine (rlist_names T3.out.r).mono ?_
  rintro e W4 ⟨A4, c4, rfl, hl4, hb4⟩
  have T4 := Lib.hid (T3.out.below hb4)
  have HT := Lib.hid (same_texts A3 A4 c3 c4 (names m') W4 ((HL3.out.later (w' := W4) (R' := fun k => k < W4.heap.size) (fun k hk => hb4.block k hk.2) (fun k hk => Nat.lt_of_lt_of_le hk.2 hb4.size)).lies fun k hk => hk) hl4 hnm)
  clear hl4 hb4 T3 HL3
  go_wp2_with fail
  refine HT.out.mono ?_
  rintro e W5 ⟨rfl, hb5⟩
  have T5 := Lib.hid (T4.out.below hb5)
  clear hb5 T4 HT
  go_wp2_with fail
  go_ret
  exact ⟨rfl, T5.out⟩
end
end Go.Proofs.Ytnbknihaefkllaa.Dl
