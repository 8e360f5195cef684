/- What every call with names does first; where a file lies. -/
import Derived.Test.YtnbknihaefkllaaDfind
namespace Go.Proofs.Ytnbknihaefkllaa.Dk
set_option linter.unusedVariables false
set_option linter.unusedSimpArgs false
open Go.RowKit Go.Maps Lift Ik

/-- Why a call with the names ns ends ahead of all else, or 0. -/
def bad (m : MS) (ns : List ByteArray) : Nat := if (hit m).1 then 11 else if ns.all nmB then 0 else 6

set_option maxRecDepth 100000 in
set_option maxHeartbeats 400000 in
theorem begin_any (g : Nat) (S : Nat → Prop) (m : MS) (fs : List Fi) (M : Option Nat) (A An : Option Addr) (c cn : Nat) (ns : List ByteArray) (w : World) (h : Lay w g S m fs M A c) (hf : m.failed ≤ 1000000)
    (hn : LiesP w (fun k => ¬ k = g ∧ k < w.heap.size) An (ns.map Value.string)) (hc : ns.length ≤ cn) (hm : cn ≤ 1000) :
    Calls Try.prog (14) #[.pointer (some ⟨g, 0, none⟩), .slice An ns.length cn] w fun e w' => ∃ A' c', e = .returned (.int .i64 (bad m ns : Nat)) ∧ Keep (· = g) w w' ∧ Lay w' g S (hit m).2 fs M A' c' := by
  have HF := Lib.hid (fails_any g S m fs M A c w h hf)
  have HN := Lib.hid hn
  clear h hn
  go_enter Try.func14, Try.ntmps14
  go_wp2_with fail
  refine HF.out.mono ?_
  rintro e W1 ⟨A1, c1, rfl, hk1, hL1⟩
  have HK := Lib.hid hk1
  have HL := Lib.hid hL1
  clear hk1 hL1 HF
  cases hh : (hit m).1
  · have HN1 : LiesP W1 (fun k => k < W1.heap.size ∧ k < w.heap.size) An (ns.map Value.string) := HN.out.later (fun k hk => HK.out.block k hk.2 hk.1) fun k hk => ⟨Nat.lt_of_lt_of_le hk.2 HK.out.size, hk.2⟩
    have HH := Lib.hid hh
    clear hh
    go_wp2_with fail
    go_loopw [11] (fun i wr => ∃ j : Nat, j ≤ ns.length ∧ i = .int .i64 j ∧ Hid (ns.all nmB = (ns.drop j).all nmB) ∧ Hid (Below W1.heap.size W1 wr)) (fun i _ => ns.length + 1 - (intOf i).toNat)
    case atStart => exact ⟨0, by omega, rfl, Lib.hid rfl, Lib.hid (Below.refl _ _)⟩
    case round =>
      obtain ⟨j, hj, rfl, ha, hb⟩ := hrel
      by_cases hlt : j < ns.length
      · obtain ⟨s, hd⟩ : ∃ s, ns[j]? = some s := ⟨_, List.getElem?_eq_getElem hlt⟩
        obtain ⟨ad, rfl, hin, hcell⟩ : ∃ ad, An = some ad ∧ (ad.block < W1.heap.size ∧ ad.block < w.heap.size) ∧ ∀ j u, (ns.map Value.string)[j]? = some u → W1.cell? (ad.add j) = some u := by
          rcases HN1 with h0 | h0
          · have := congrArg List.length h0
            simp at this
            subst this
            simp at hlt
          · exact h0
        have h1 : wr.cell? (ad.add j) = some (.string s) := (hb.out.cell (by rw [add_block]; exact hin.1)).trans (hcell j _ (by rw [List.getElem?_map, hd]; rfl))
        have HD := Lib.hid (Ik.drop_cons hd)
        clear hd hcell hin HN1
        go_wp2_with fail
        refine (valid_any s _).mono ?_
        rintro e w2 ⟨rfl, hb2⟩
        have HB2 := Lib.hid (hb.out.trans (hb2.mono hb.out.size))
        clear hb2
        cases hv : nmB s
        · have E : Hid (bad m ns = 6) := Lib.hid (by unfold bad; rw [HH.out, ha.out, HD.out, List.all_cons, hv]; rfl)
          clear hv
          go_wp2_with fail
          go_ret
          exact ⟨A1, c1, by rw [E.out]; rfl, HK.out.trans (T := fun _ => False) (below_keep HB2.out) (fun _ _ h => h.elim), HL.out.keep (T := fun _ => False) (below_keep HB2.out) fun _ _ => id⟩
        · have E := Lib.hid (show ns.all nmB = (ns.drop (j + 1)).all nmB by rw [ha.out, HD.out, List.all_cons, hv]; rfl)
          clear hv
          go_wp2_with fail
          go_roundw
          case rel => exact ⟨j + 1, by omega, by go_num, E, HB2⟩
          case measure => simp [intOf]; omega
      · obtain rfl : j = ns.length := by omega
        have E : Hid (bad m ns = 0) := Lib.hid (by unfold bad; rw [HH.out, ha.out, List.drop_of_length_le (by omega)]; rfl)
        go_wp2_with fail
        go_ret
        exact ⟨A1, c1, by rw [E.out]; rfl, HK.out.trans (T := fun _ => False) (below_keep hb.out) (fun _ _ h => h.elim), HL.out.keep (T := fun _ => False) (below_keep hb.out) fun _ _ => id⟩
  · have E : Hid (bad m ns = 11) := Lib.hid (by unfold bad; rw [hh]; rfl)
    clear hh
    go_wp2_with fail
    go_ret
    exact ⟨A1, c1, by rw [E.out]; rfl, HK.out, HL.out⟩

def look (fs : List Fi) (nm : ByteArray) : Option Fi := fs.find? fun f => decide (f.nm = nm)
def ptrV : Option Fi → Value
  | some f => .pointer (some ⟨f.blk, 0, none⟩)
  | none => .pointer none
theorem kl_same (a b : ByteArray) : (kl a).sameKey (kl b) = decide (a = b) := by
  show (a.data.toList == b.data.toList) = _
  rw [Bool.eq_iff_iff, beq_iff_eq, decide_eq_true_iff]
  constructor
  · intro h
    exact ByteArray.ext (Array.toList_inj.1 h)
  · rintro rfl; rfl
theorem at_ent (fs : List Fi) (nm : ByteArray) : (DataW.map (fs.map ent)).atKey (kl nm) .nil = match look fs nm with | some f => dat f.blk | none => .nil := by
  unfold DataW.atKey look
  simp only
  induction fs with
  | nil => rfl
  | cons f fs ih =>
    rw [List.map_cons, List.find?_cons, List.find?_cons, show (ent f).1.sameKey (kl nm) = decide (f.nm = nm) from kl_same _ _]
    cases decide (f.nm = nm)
    · exact ih
    · rfl
theorem look_run {w : World} {S : Nat → Prop} {M : Option Nat} {fs : List Fi} (h : Files w S M fs) (nm : ByteArray) (hl : nm.size ≤ 40) :
    Sem.run Try.prog (Instr.lookup 42 (.map M) (.string nm) false) w = .ok (ptrV (look fs nm)) w := by
  have hkey : keyOf Try.prog 9 (.string nm) = some (kl nm) := WideMaps.keyOf_string_mk Try.underlying9 (by unfold maxLen; omega)
  rcases h.map with ⟨rfl, rfl⟩ | ⟨b, rfl, hs, hm⟩
  · exact Maps.look_nil false law Try.underlying42 (zeroE w) hkey
  · obtain ⟨v, ps, hrun, hv⟩ := hm.lookup law Try.underlying42 (zeroE w) (zd := .nil) (zp := []) rfl hkey
    rw [at_ent] at hv
    have e : v = ptrV (look fs nm) := by
      cases hlk : look fs nm with
      | none => rw [hlk] at hv; exact ptrR_nil hv
      | some f => rw [hlk] at hv; exact ptrR_some hv
    rw [hrun, e]
theorem look_mem {fs : List Fi} {nm : ByteArray} {f : Fi} (h : look fs nm = some f) : f ∈ fs ∧ f.nm = nm := by
  unfold look at h
  exact ⟨List.mem_of_find?_eq_some h, by simpa using List.find?_some h⟩

/-- Why a call on the file named first ends, or 0. -/
def gone (m : MS) (ns : List ByteArray) (o : Option Fi) : Nat := if bad m ns ≠ 0 then bad m ns else if o.isSome then 0 else 8
theorem nmB_len {s : ByteArray} (h : nmB s = true) : s.size ≤ 40 := by
  unfold nmB at h
  rw [Bool.and_eq_true, Bool.and_eq_true] at h
  exact of_decide_eq_true h.1.2
theorem bad_zero {m : MS} {ns : List ByteArray} (h : bad m ns = 0) : (hit m).1 = false ∧ ∀ s, s ∈ ns → s.size ≤ 40 := by
  unfold bad at h
  cases hh : (hit m).1
  · rw [hh] at h
    cases ha : ns.all nmB
    · rw [ha] at h; cases h
    · exact ⟨rfl, fun s hs => nmB_len (List.all_eq_true.1 ha s hs)⟩
  · rw [hh] at h; cases h
theorem bad_three (m : MS) (ns : List ByteArray) : bad m ns = 0 ∨ bad m ns = 6 ∨ bad m ns = 11 := by unfold bad; split; simp; split <;> simp
set_option maxRecDepth 100000 in
set_option maxHeartbeats 400000 in
theorem find_any (g : Nat) (S : Nat → Prop) (m : MS) (fs : List Fi) (M : Option Nat) (A An : Option Addr) (c cn : Nat) (n0 : ByteArray) (ns : List ByteArray) (w : World) (h : Lay w g S m fs M A c) (hf : m.failed ≤ 1000000)
    (hn : LiesP w (fun k => ¬ k = g ∧ k < w.heap.size) An ((n0 :: ns).map Value.string)) (hc : ns.length + 1 ≤ cn) (hm : cn ≤ 1000) :
    Calls Try.prog (37) #[.pointer (some ⟨g, 0, none⟩), .slice An (ns.length + 1) cn] w fun e w' => ∃ A' c', Keep (· = g) w w' ∧ Lay w' g S (hit m).2 fs M A' c' ∧
      ((∃ f, look fs n0 = some f ∧ bad m (n0 :: ns) = 0 ∧ e = .returned (.tuple #[.pointer (some ⟨f.blk, 0, none⟩), .int .i64 0])) ∨
        (gone m (n0 :: ns) (look fs n0) ≠ 0 ∧ e = .returned (.tuple #[.pointer none, .int .i64 (gone m (n0 :: ns) (look fs n0) : Nat)]))) := by
  have HF := Lib.hid (begin_any g S m fs M A An c cn (n0 :: ns) w h hf hn (by simpa using hc) hm)
  have HN := Lib.hid hn
  clear h hn
  go_enter Try.func37, Try.ntmps37
  go_wp2_with fail
  refine (show Calls Try.prog (14) #[.pointer (some ⟨g, 0, none⟩), .slice An (ns.length + 1) cn] w _ from HF.out).mono ?_
  rintro e W1 ⟨A1, c1, rfl, hk1, hL1⟩
  obtain ⟨_, _, p2, _⟩ := hL1.facts
  have HK := Lib.hid hk1
  have HL := Lib.hid hL1
  by_cases hb : bad m (n0 :: ns) = 0
  · obtain ⟨ad, rfl, hin, hcell⟩ : ∃ ad, An = some ad ∧ (¬ ad.block = g ∧ ad.block < w.heap.size) ∧ ∀ j u, ((n0 :: ns).map Value.string)[j]? = some u → w.cell? (ad.add j) = some u := by
      rcases HN.out with h0 | h0
      · simp at h0
      · exact h0
    have x0 : W1.cell? ad = some (.string n0) := (World.cell?_of_block (w := w) (hk1.block _ hin.2 hin.1)).trans (hcell 0 _ rfl)
    have hlk := fun n => look_run (hL1.drew n).files n0 ((bad_zero hb).2 n0 (by simp))
    rw [hb]
    have HB := Lib.hid hb
    clear hk1 hL1 HF hb hin hcell
    rcases hfo : look fs n0 with _ | f
    · have E : Hid (gone m (n0 :: ns) none = 8) := Lib.hid (by unfold gone; rw [HB.out]; rfl)
      have hlk' : ∀ n, Sem.run Try.prog (Instr.lookup 42 (.map M) (.string n0) false) (W1.drewN n) = .ok (.pointer none) (W1.drewN n) := fun n => by rw [hlk n, hfo]; rfl
      have HFO := Lib.hid hfo
      clear hlk hfo
      go_wp2_with fail
      go_quiet (fail)
      go_wp2_with fail
      go_returns
      exact ⟨A1, c1, HK.out.trans (T := fun _ => False) (below_keep (Joins.below_draws _ _ _)) (fun _ _ h => h.elim), HL.out.drew _, .inr ⟨by rw [HFO.out, E.out]; decide, by rw [HFO.out, E.out]; rfl⟩⟩
    · have hlk' : ∀ n, Sem.run Try.prog (Instr.lookup 42 (.map M) (.string n0) false) (W1.drewN n) = .ok (.pointer (some ⟨f.blk, 0, none⟩)) (W1.drewN n) := fun n => by rw [hlk n, hfo]; rfl
      have HFO := Lib.hid hfo
      clear hlk hfo
      go_wp2_with fail
      go_quiet (fail)
      go_wp2_with fail
      go_returns
      exact ⟨A1, c1, HK.out.trans (T := fun _ => False) (below_keep (Joins.below_draws _ _ _)) (fun _ _ h => h.elim), HL.out.drew _, .inl ⟨f, HFO.out, HB.out, rfl⟩⟩
  · have d1 : ((bad m (n0 :: ns) : Int) != 0) = true := by rw [bne_iff_ne]; omega
    have HB := Lib.hid hb
    clear hk1 hL1 HF hb
    go_wp2_with fail
    go_returns
    have e : gone m (n0 :: ns) (look fs n0) = bad m (n0 :: ns) := by unfold gone; rw [if_pos HB.out]
    exact ⟨A1, c1, HK.out, HL.out, .inr ⟨by rw [e]; exact HB.out, by rw [e]; rfl⟩⟩
end Go.Proofs.Ytnbknihaefkllaa.Dk
