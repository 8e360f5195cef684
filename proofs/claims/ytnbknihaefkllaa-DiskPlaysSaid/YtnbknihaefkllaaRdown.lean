/- The document's own disk: armed failures, and where a file is. -/
import Derived.Test.YtnbknihaefkllaaRdat
namespace Go.Proofs.Ytnbknihaefkllaa.Rk
set_option linter.unusedVariables false
set_option linter.unusedSimpArgs false
open Go.RowKit Go.Maps Lift Ik Dk

section
variable {w w' : World} {g : Nat} {S S' T : Nat → Prop} {rm : Int} {m : MS} {L : List D} {A F : Option Addr} {c cf : Nat}
set_option maxRecDepth 100000 in
set_option maxHeartbeats 400000 in
theorem down_any (h : Lay w g S rm m L A F c cf) (hf : m.failed ≤ 1000000) :
    Calls Try.prog (42) #[.pointer (some ⟨g, 0, none⟩)] w fun e w' => ∃ F' cf', e = .returned (.bool (hit m).1) ∧ Keep (· = g) w w' ∧ Lay w' g S rm (hit m).2 L A F' c cf' := by
  obtain ⟨c0, c1, c2, c3, f1, f2, f3⟩ := h.facts
  have hcap := h.capf
  have hcm := h.capm
  unfold maxLen at hcm
  have H := Lib.hid h
  rcases hr : m.armed with _ | ⟨x, r⟩
  · rw [hr] at c2
    have E := Lib.hid (hit_nil hr)
    clear h hr hcap
    rw [List.length_nil] at c2
    go_enter Try.func42, Try.ntmps42
    go_wp2_with fail
    go_ret
    rw [E.out]
    exact ⟨F, cf, rfl, Keep.refl _ _, H.out⟩
  · obtain ⟨ad, rfl, hin, hcell⟩ : ∃ ad, F = some ad ∧ (S ad.block ∧ ∃ cs fr, w.heap[ad.block]? = some (.cells cs 3 fr)) ∧ ∀ j u, ((x :: r).map (Value.int .i64))[j]? = some u → w.cell? (ad.add j) = some u := by
      have ha := h.armed
      rw [hr] at ha
      rcases ha with h0 | h0
      · simp at h0
      · exact h0
    rw [hr] at c2 hcap
    rw [List.length_cons] at c2 hcap
    obtain ⟨F', hF', hs⟩ := tail_at (some ad) (r.length + 1) cf (by omega) hcap h.capm
    rw [show r.length + 1 - 1 = r.length from rfl] at hs
    have x0 : w.cell? ad = some (.int .i64 x) := hcell 0 _ rfl
    have harm : ∀ w', Keep (· = g) w w' → Armed w' S F' r := by
      intro w' hk
      obtain ⟨hS, cs, fr, hh⟩ := hin
      have hne : ad.block ≠ g := fun e => by
        rw [e] at hh
        exact typed h.box hh (by decide)
      have hblk : w'.heap[ad.block]? = w.heap[ad.block]? := hk.block _ (Array.getElem?_eq_some_iff.1 hh).1 hne
      by_cases h1 : r = []
      · subst h1; exact .inl rfl
      · have hl : 1 < r.length + 1 := by have := List.length_pos_iff.2 h1; omega
        refine .inr ⟨ad.add 1, by rw [hF' hl]; rfl, ⟨by rw [add_block]; exact hS, cs, fr, by rw [add_block]; exact hblk.trans hh⟩, fun j u hj => ?_⟩
        rw [add_add]
        exact (World.cell?_of_block (w := w) (by rw [add_block]; exact hblk)).trans (hcell (1 + j) u (by rw [Nat.add_comm]; exact hj))
    have hwf : ∀ y, y ∈ r → (Lit.int .i64 y).wf = true := fun y hy => h.wf y (by rw [hr]; simp [hy])
    have HM := Lib.hid harm
    have HW := Lib.hid hwf
    by_cases hx : x = 0
    · subst hx
      have E := Lib.hid (hit_zero hr)
      clear h hr harm hwf hin hF'
      go_enter Try.func42, Try.ntmps42
      go_wp2_with fail
      go_ret
      rw [E.out]
      have hk := (Keep.refl (· = g) w).setCell (p := ⟨g, 2, none⟩) (.inr rfl) (.slice F' r.length (cf - 1))
      exact ⟨F', cf - 1, rfl, hk, H.out.turn hk r m.failed (cf - 1) F' (H.out.box.set 2 _) (HM.out _ hk) (by omega) (by unfold maxLen; omega) HW.out⟩
    · have E := Lib.hid (hit_more hr hx)
      have d1 : (x != 0) = true := by rw [bne_iff_ne]; exact hx
      clear h hr harm hwf hin hF' hx
      go_enter Try.func42, Try.ntmps42
      go_wp2_with fail
      go_ret
      rw [E.out]
      have hk := ((Keep.refl (· = g) w).setCell (p := ⟨g, 2, none⟩) (.inr rfl) (.slice F' r.length (cf - 1))).setCell (p := ⟨g, 3, none⟩) (.inr rfl) (.int .i64 ((m.failed : Int) + 1))
      exact ⟨F', cf - 1, rfl, hk, H.out.turn hk r (m.failed + 1) (cf - 1) F' ((H.out.box.set 2 _).set 3 _) (HM.out _ hk) (by omega) (by unfold maxLen; omega) HW.out⟩

theorem less_before : ∀ x y : List UInt8, Op.bytesLess x y = bytesBefore x y
  | [], [] => rfl
  | [], _ :: _ => rfl
  | _ :: _, [] => rfl
  | a :: x, b :: y => by
    rw [Op.bytesLess, bytesBefore, less_before x y]
theorem less_kl (a b : ByteArray) : Op.bytesLess a.toList b.toList = (kl a).before (kl b) := by
  rw [Lib.toList_data, Lib.toList_data, less_before]
  rfl
theorem eq_kl (a b : ByteArray) : (a.toList == b.toList) = decide (a = b) := by
  rw [Lib.toList_data, Lib.toList_data]
  exact kl_same a b
/-- How many names come ahead of nm. -/
def idx : List FM → ByteArray → Nat
  | [], _ => 0
  | f :: r, nm => if (kl f.nm).before (kl nm) then idx r nm + 1 else 0
/-- Is the name at its place? -/
def isAt (l : List FM) (nm : ByteArray) : Bool := match l[idx l nm]? with | some f => decide (f.nm = nm) | none => false
theorem idx_step {l : List FM} {nm : ByteArray} {j : Nat} {f : FM} (h : l[j]? = some f) : idx (l.drop j) nm = if (kl f.nm).before (kl nm) then idx (l.drop (j + 1)) nm + 1 else 0 := by
  rw [Ik.drop_cons h]; rfl
set_option maxRecDepth 100000 in
set_option maxHeartbeats 1000000 in
theorem at_any (nm : ByteArray) (h : Lay w g S rm m L A F c cf) :
    Calls Try.prog (44) #[.pointer (some ⟨g, 0, none⟩), .string nm] w fun e w' => e = .returned (.tuple #[.int .i64 (idx m.fs nm : Nat), .bool (isAt m.fs nm)]) ∧ Below w.heap.size w w' := by
  obtain ⟨c0, c1, c2, c3, f1, f2, f3⟩ := h.facts
  have hmany := h.many
  have hcap : L.length ≤ c := by
    rcases h.own.2 with ⟨h0, _⟩ | ⟨_, _, _, hv, _, _, hc, _⟩
    · injection h0 with _ h1 h2; omega
    · injection hv with _ _ h2; omega
  have hcm : c ≤ maxLen := by
    rcases h.own.2 with ⟨h0, _⟩ | ⟨_, _, _, hv, _, _, _, hc, _⟩
    · injection h0 with _ h1 h2; rw [h2]; decide
    · injection hv with _ _ h2; rw [h2]; exact hc
  unfold maxLen at hcm
  have H := Lib.hid h
  have HT := Lib.hid h.told
  clear h c0 c2 c3 f1 f2 f3
  have hlen : Hid (m.fs.length = L.length) := Lib.hid (by rw [HT.out, List.length_map])
  go_enter Try.func44, Try.ntmps44
  go_wp2_with fail
  go_loop [6] (fun i => ∃ j : Nat, j ≤ L.length ∧ i = .int .i64 j ∧ Hid (idx m.fs nm = j + idx (m.fs.drop j) nm)) (fun i => L.length + 1 - (intOf i).toNat)
  case atStart => exact ⟨0, by omega, rfl, Lib.hid (by simp)⟩
  case round =>
    obtain ⟨j, hj, rfl, hi⟩ := hrel
    by_cases hlt : j < L.length
    · obtain ⟨d, hd⟩ : ∃ d, L[j]? = some d := ⟨_, List.getElem?_eq_getElem hlt⟩
      obtain ⟨gl, hA, p0, _, _, _, _⟩ := H.out.place hd
      subst hA
      have hfd : m.fs[j]? = some d.m := by rw [HT.out, List.getElem?_map, hd]; rfl
      have hst := idx_step (nm := nm) hfd
      have dl : decide (j < L.length) = true := decide_eq_true hlt
      have hls := less_kl d.nm nm
      have HFD := Lib.hid hfd
      clear hd hfd
      cases hb : (kl d.nm).before (kl nm)
      · rw [show (kl d.m.nm).before (kl nm) = false from hb] at hst
        have hidx : Hid (idx m.fs nm = j) := Lib.hid (by rw [hi.out, hst]; rfl)
        have hat : Hid (isAt m.fs nm = decide (d.nm = nm)) := Lib.hid (by unfold isAt; rw [hidx.out, HFD.out]; rfl)
        rw [hb] at hls
        have heq := eq_kl d.nm nm
        clear hst hb
        cases he : decide (d.nm = nm)
        · rw [he] at heq hat
          clear he
          go_wp2_with fail
          go_quiet (fail)
          go_wp2_with fail
          go_returns
          exact ⟨by rw [hidx.out, hat.out]; rfl, Joins.below_draws _ _ _⟩
        · rw [he] at heq hat
          clear he
          go_wp2_with fail
          go_quiet (fail)
          go_wp2_with fail
          go_returns
          exact ⟨by rw [hidx.out, hat.out]; rfl, Joins.below_draws _ _ _⟩
      · rw [show (kl d.m.nm).before (kl nm) = true from hb] at hst
        have hn : Hid (idx m.fs nm = (j + 1) + idx (m.fs.drop (j + 1)) nm) := Lib.hid (by rw [hi.out, hst, if_pos rfl]; omega)
        rw [hb] at hls
        clear hst hb
        go_wp2_with fail
        go_round
        case rel => exact ⟨j + 1, by omega, by go_num, hn⟩
        case measure => simp [intOf]; omega
    · have hjl : j = L.length := by omega
      have dl : decide (j < L.length) = false := decide_eq_false hlt
      have hd0 : m.fs.drop j = [] := List.drop_of_length_le (by have := hlen.out; omega)
      have hidx : Hid (idx m.fs nm = j) := Lib.hid (by rw [hi.out, hd0]; rfl)
      have hat : Hid (isAt m.fs nm = false) := Lib.hid (by unfold isAt; rw [hidx.out, List.getElem?_eq_none (by have := hlen.out; omega)])
      clear hd0 hjl
      go_wp2_with fail
      go_quiet (fail)
      go_wp2_with fail
      go_returns
      exact ⟨by rw [hidx.out, hat.out]; rfl, Joins.below_draws _ _ _⟩
end
end Go.Proofs.Ytnbknihaefkllaa.Rk
