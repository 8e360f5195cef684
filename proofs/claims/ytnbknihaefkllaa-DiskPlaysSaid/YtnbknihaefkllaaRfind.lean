/- The document's own disk: Used, Failed, found, Size. -/
import Derived.Test.YtnbknihaefkllaaRdown
namespace Go.Proofs.Ytnbknihaefkllaa.Rk
set_option linter.unusedVariables false
set_option linter.unusedSimpArgs false
open Go.RowKit Go.Maps Lift Ik Dk

theorem before_ne {a b : FM} (h : before a b) : a.nm ≠ b.nm := fun e => by
  unfold before at h
  rw [e] at h
  have := WideAt.bytes_irrefl b.nm.data.toList
  exact absurd (show bytesBefore b.nm.data.toList b.nm.data.toList = true from h) (by rw [this]; simp)
theorem idx_get : ∀ {l : List FM} {nm : ByteArray}, l.Pairwise before → (isAt l nm = true → ∃ f, l[idx l nm]? = some f ∧ Dk.get l nm = some f) ∧ (isAt l nm = false → Dk.get l nm = none)
  | [], nm, _ => ⟨fun h => by simp [isAt, idx] at h, fun _ => rfl⟩
  | a :: l, nm, hp => by
    obtain ⟨h1, h2⟩ := List.pairwise_cons.1 hp
    have ih := idx_get (nm := nm) h2
    by_cases hb : (kl a.nm).before (kl nm) = true
    · have hne : a.nm ≠ nm := fun e => by
        rw [e] at hb
        have := WideAt.bytes_irrefl nm.data.toList
        exact absurd (show bytesBefore nm.data.toList nm.data.toList = true from hb) (by rw [this]; simp)
      have e1 : idx (a :: l) nm = idx l nm + 1 := by show (if (kl a.nm).before (kl nm) then idx l nm + 1 else 0) = _; rw [if_pos hb]
      have e2 : isAt (a :: l) nm = isAt l nm := by unfold isAt; rw [e1, List.getElem?_cons_succ]
      have e3 : Dk.get (a :: l) nm = Dk.get l nm := by unfold Dk.get; rw [List.find?_cons, decide_eq_false hne]
      rw [e1, e2, e3, List.getElem?_cons_succ]
      exact ih
    · have e1 : idx (a :: l) nm = 0 := by show (if (kl a.nm).before (kl nm) then idx l nm + 1 else 0) = _; rw [if_neg hb]
      have e2 : isAt (a :: l) nm = decide (a.nm = nm) := by unfold isAt; rw [e1]; rfl
      rw [e1, e2]
      constructor
      · intro h
        have h := of_decide_eq_true h
        exact ⟨a, rfl, by unfold Dk.get; rw [List.find?_cons, decide_eq_true h]⟩
      · intro h
        have h := of_decide_eq_false h
        refine get_none.2 fun x hx e => ?_
        rcases List.mem_cons.1 hx with rfl | hx
        · exact h e
        · have h3 := h1 x hx
          unfold before at h3
          rw [e] at h3
          exact hb h3
section
variable {w w' : World} {g : Nat} {S S' T : Nat → Prop} {rm : Int} {m : MS} {L : List D} {A F : Option Addr} {c cf : Nat}
theorem Lay.cap (h : Lay w g S rm m L A F c cf) : L.length ≤ c ∧ c ≤ 9223372036854775807 := by
  rcases h.own.2 with ⟨h0, h3⟩ | ⟨_, _, _, hv, _, _, hc, hm, _⟩
  · injection h0 with _ h1 h2
    omega
  · injection hv with _ _ h2
    unfold maxLen at hm
    omega
theorem Lay.used_le (h : Lay w g S rm m L A F c cf) : used m.fs ≤ 16777216000 := by
  have h1 := Dk.used_le (l := m.fs) fun f hf => by
    rw [h.told] at hf
    obtain ⟨x, hx, rfl⟩ := List.mem_map.1 hf
    exact (h.ok x hx).len
  have h2 := h.many
  have e : m.fs.length = L.length := by rw [h.told, List.length_map]
  omega
theorem rfailed_any (h : At w g S rm m) : Calls Try.prog (32) #[.pointer (some ⟨g, 0, none⟩)] w fun e w' => e = .returned (.int .i64 (m.failed : Int)) ∧ w = w' := by
  obtain ⟨L, A, F, c, cf, h⟩ := h
  obtain ⟨c0, c1, c2, c3, f1, f2, f3⟩ := h.facts
  clear h
  go_enter Try.func32, Try.ntmps32
  go_wp2_with fail
  go_ret
  exact ⟨rfl, rfl⟩
theorem used_take {L : List D} {j : Nat} {d : D} (h : L[j]? = some d) : used ((L.take (j + 1)).map D.m) = used ((L.take j).map D.m) + d.bs.length := by
  rw [List.take_add_one, h]
  simp [used, D.m]
theorem used_app (a b : List FM) : used (a ++ b) = used a + used b := by simp [used]
theorem used_sub (L : List D) (j : Nat) : used ((L.take j).map D.m) ≤ used (L.map D.m) := by
  have e : used ((L.take j).map D.m) + used ((L.drop j).map D.m) = used (L.map D.m) := by rw [← used_app, ← List.map_append, List.take_append_drop]
  omega
set_option maxRecDepth 100000 in
set_option maxHeartbeats 400000 in
theorem rused_any (h : Lay w g S rm m L A F c cf) : Calls Try.prog (30) #[.pointer (some ⟨g, 0, none⟩)] w fun e w' => e = .returned (.int .i64 (used m.fs : Nat)) ∧ w = w' := by
  obtain ⟨c0, c1, c2, c3, f1, f2, f3⟩ := h.facts
  obtain ⟨hcap, hcm⟩ := h.cap
  have hmany := h.many
  have hu := h.used_le
  have H := Lib.hid h
  have HT := Lib.hid h.told
  clear h c0 c2 c3 f1 f2 f3
  go_enter Try.func30, Try.ntmps30
  go_wp2_with fail
  go_loop [3, 4] (fun n i => ∃ j nn : Nat, j ≤ L.length ∧ i = .int .i64 j ∧ n = .int .i64 nn ∧ nn ≤ 16777216000 ∧ Hid (nn = used ((L.take j).map D.m))) (fun _ i => L.length + 1 - (intOf i).toNat)
  case atStart => exact ⟨0, 0, by omega, rfl, rfl, by omega, Lib.hid rfl⟩
  case round =>
    obtain ⟨j, nn, hj, rfl, rfl, hnn, hn⟩ := hrel
    by_cases hlt : j < L.length
    · obtain ⟨d, hd⟩ : ∃ d, L[j]? = some d := ⟨_, List.getElem?_eq_getElem hlt⟩
      obtain ⟨gl, hA, _, p1, _, _, _⟩ := H.out.place hd
      subst hA
      have hut := used_take hd
      have hle : nn + d.bs.length ≤ 16777216000 := by
        have h1 := used_sub L (j + 1)
        rw [← HT.out] at h1
        have h2 := hn.out
        omega
      have HN : Hid (nn + d.bs.length = used ((L.take (j + 1)).map D.m)) := Lib.hid (by rw [hut, ← hn.out])
      have dl : decide (j < L.length) = true := decide_eq_true hlt
      clear hd hut
      go_wp2_with fail
      go_round
      case rel => exact ⟨j + 1, nn + d.bs.length, by omega, by go_num, by go_num, hle, HN⟩
      case measure => simp [intOf]; omega
    · have dl : decide (j < L.length) = false := decide_eq_false hlt
      have E : Hid (nn = used m.fs) := Lib.hid (by rw [hn.out, HT.out, List.take_of_length_le (by omega)])
      go_wp2_with fail
      go_ret
      exact ⟨by rw [← E.out]; rfl, rfl⟩

/-- Where the file is, or why the call ends. -/
def Found (w : World) (g : Nat) (S : Nat → Prop) (rm : Int) (m : MS) (L : List D) (A : Option Addr) (c : Nat) (nm : ByteArray) (e : Ending) (w' : World) : Prop :=
  ∃ F' cf', Keep (· = g) w w' ∧ Lay w' g S rm (hit m).2 L A F' c cf' ∧
    ((∃ d, L[idx m.fs nm]? = some d ∧ d.nm = nm ∧ (∀ {α : Type} (no : Nat → α) (k : FM → α), onFile m [nm] nm no k = k d.m) ∧ e = .returned (.tuple #[.int .i64 (idx m.fs nm : Nat), .int .i64 0])) ∨
      ∃ er : Nat, er ≠ 0 ∧ (∀ {α : Type} (no : Nat → α) (k : FM → α), onFile m [nm] nm no k = no er) ∧ e = .returned (.tuple #[.int .i64 0, .int .i64 (er : Int)]))
set_option maxRecDepth 100000 in
set_option maxHeartbeats 400000 in
theorem found_any (nm : ByteArray) (hn : nm.size ≤ 1000) (h : Lay w g S rm m L A F c cf) (hf : m.failed ≤ 1000000) :
    Calls Try.prog (45) #[.pointer (some ⟨g, 0, none⟩), .string nm] w (Found w g S rm m L A c nm) := by
  have HD := Lib.hid (down_any h hf)
  have HT := Lib.hid h.told
  have HSO := Lib.hid h.sorted
  clear h
  go_enter Try.func45, Try.ntmps45
  go_wp2_with fail
  refine HD.out.mono ?_
  rintro e W1 ⟨F1, cf1, rfl, hk1, hL1⟩
  have HK := Lib.hid hk1
  have HL := Lib.hid hL1
  clear hk1 hL1 HD
  cases hh : (hit m).1
  · cases hnm : nmB nm
    · have E : Hid (bad m [nm] = 6) := Lib.hid (by unfold bad; rw [hh]; simp [hnm])
      clear hh
      go_wp2_with (go_at_call 43; refine (named_any nm _ hn).mono ?_; rintro e w' ⟨rfl, rfl⟩)
      go_returns
      exact ⟨F1, cf1, HK.out, HL.out, .inr ⟨6, by decide, fun no k => by unfold onFile; rw [E.out, if_pos (by decide)], rfl⟩⟩
    · have E : Hid (bad m [nm] = 0) := Lib.hid (by unfold bad; rw [hh]; simp [hnm])
      have hat := at_any nm HL.out
      have hfs : (hit m).2.fs = m.fs := (hit_fs m).1
      rw [hfs] at hat
      have HAT := Lib.hid hat
      clear hh hat hfs
      cases hia : isAt m.fs nm
      · have hg := (idx_get (nm := nm) HSO.out).2 hia
        rw [hia] at HAT
        have E2 : ∀ {α : Type} (no : Nat → α) (k : FM → α), onFile m [nm] nm no k = no 8 := fun no k => by unfold onFile; rw [E.out, if_neg (by decide), hg]
        clear hia hg
        go_wp2_with (first
          | (go_at_call 43; refine (named_any nm _ hn).mono ?_; rintro e w' ⟨rfl, rfl⟩)
          | (go_at_call 44; refine HAT.out.mono ?_; rintro e w2 ⟨rfl, hb2⟩; have HB2 := Lib.hid hb2; clear hb2))
        go_returns
        exact ⟨F1, cf1, HK.out.trans (T := fun _ => False) (below_keep HB2.out) fun _ _ h => h.elim, HL.out.keep (T := fun _ => False) (below_keep HB2.out) fun _ _ => id, .inr ⟨8, by decide, E2, rfl⟩⟩
      · obtain ⟨f, hf1, hg⟩ := (idx_get (nm := nm) HSO.out).1 hia
        rw [hia] at HAT
        have hd : ∃ d, L[idx m.fs nm]? = some d ∧ d.m = f := by
          rw [HT.out, List.getElem?_map] at hf1
          obtain ⟨d, h1, h2⟩ := Option.map_eq_some_iff.1 hf1
          exact ⟨d, by rw [HT.out]; exact h1, h2⟩
        obtain ⟨d, hd1, hd2⟩ := hd
        subst hd2
        have hdn : d.nm = nm := (by simpa using List.find?_some hg : d.m.nm = nm)
        have HDD := Lib.hid hd1
        have E2 : ∀ {α : Type} (no : Nat → α) (k : FM → α), onFile m [nm] nm no k = k d.m := fun no k => by unfold onFile; rw [E.out, if_neg (by decide), hg]
        have HDN := Lib.hid hdn
        clear hia hg hf1 hd1 hdn
        go_wp2_with (first
          | (go_at_call 43; refine (named_any nm _ hn).mono ?_; rintro e w' ⟨rfl, rfl⟩)
          | (go_at_call 44; refine HAT.out.mono ?_; rintro e w2 ⟨rfl, hb2⟩; have HB2 := Lib.hid hb2; clear hb2))
        go_returns
        exact ⟨F1, cf1, HK.out.trans (T := fun _ => False) (below_keep HB2.out) fun _ _ h => h.elim, HL.out.keep (T := fun _ => False) (below_keep HB2.out) fun _ _ => id, .inl ⟨d, HDD.out, HDN.out, E2, rfl⟩⟩
  · have E : Hid (bad m [nm] = 11) := Lib.hid (by unfold bad; rw [hh]; rfl)
    clear hh
    go_wp2_with fail
    go_returns
    exact ⟨F1, cf1, HK.out, HL.out, .inr ⟨11, by decide, fun no k => by unfold onFile; rw [E.out, if_pos (by decide)], rfl⟩⟩
end
end Go.Proofs.Ytnbknihaefkllaa.Rk
