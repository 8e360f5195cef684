/- The project's cache: New, Used, pin; a slot's pins and mark are written. -/
import Derived.Test.YtbeohfmikpbkhaaCo3
import Derived.Lib.MinMax
namespace Go.Proofs.Ytbeohfmikpbkhaa.Ck
set_option linter.unusedVariables false
set_option linter.unusedSimpArgs false
open Go.RowKit Go.Maps Lift Ik
/-- How many bytes there is room for. -/
def roomO (n : Int) : Nat := (max n 0).toNat
section
variable {w w' : World} {g room hand : Nat} {Z : Nat → Prop} {L : List E} {M : Option Nat} {pv nx : Nat → Nat}
theorem set_map {L : List E} {i : Nat} {e : E} {f : S → S} (h : L[i]? = some e) : (L.set i { e with s := f e.s }).map E.s = (L.map E.s).modify i f := by
  induction L generalizing i with
  | nil => simp at h
  | cons d L ih =>
    cases i with
    | zero =>
      have e1 : d = e := by simpa using h
      subst e1; simp
    | succ i => simp [ih (by simpa using h)]
theorem set_blk {L : List E} {i : Nat} {e e' : E} (h : L[i]? = some e) (hb : e'.blk = e.blk) : (L.set i e').map E.blk = L.map E.blk := by
  induction L generalizing i with
  | nil => simp at h
  | cons d L ih =>
    cases i with
    | zero =>
      have e1 : d = e := by simpa using h
      subst e1; simp [hb]
    | succ i => simp [ih (by simpa using h)]
theorem blkAt_map {L L' : List E} (h : L'.map E.blk = L.map E.blk) (i : Nat) : blkAt L' (some i) = blkAt L (some i) := by
  show (L'[i]?).map E.blk = (L[i]?).map E.blk
  rw [← List.getElem?_map, ← List.getElem?_map, h]
/-- Pins and mark of slot i are as f says. -/
theorem OLay.modify {i : Nat} {e : E} {f : S → S} (h : OLay w g Z room hand M L pv nx) (he : L[i]? = some e) (h1 : ∀ s, (f s).file = s.file) (h2 : ∀ s, (f s).off = s.off) (h3 : ∀ s, (f s).b = s.b)
    (hk : Keep (· = e.blk) w w') (hm : Mem w' Z (L.set i { e with s := f e.s }) pv nx) : OLay w' g Z room hand M (L.set i { e with s := f e.s }) pv nx := by
  have hem := List.mem_of_getElem? he
  have hbx := h.mem.node e hem
  have hne : g ≠ e.blk := fun e1 => by
    have h4 := h.box
    unfold Lift.Box at hbx h4
    rw [← e1, h4] at hbx
    injection hbx with hbx
    injection hbx with _ hbx _
    exact absurd hbx (by decide)
  have hu : used ((L.set i { e with s := f e.s }).map E.s) = used (L.map E.s) := by rw [set_map he, used_modify h3]
  have hB := set_blk (e' := { e with s := f e.s }) he rfl
  have hil := (List.getElem?_eq_some_iff.1 he).1
  refine ⟨?_, hm, ?_, by rw [hB]; exact h.ring, ?_, h.sg, fun k hk1 => Nat.lt_of_lt_of_le (h.lt k hk1) hk.size, by rw [List.length_set]; exact h.many, h.roomy⟩
  · rw [hu, blkAt_map hB, blkAt_map hB]
    exact h.box.keep hk hne
  · refine (h.map.keep hk (fun b hb e1 => ?_) fun _ => id).like (List.length_set ..) (fun x hx => ?_) fun d hd => ?_
    · subst e1
      rcases h.map with ⟨h0, _⟩ | ⟨b, D, h0, _, ⟨es, clock, hbb, _⟩, _⟩
      · rw [h0] at hb; cases hb
      · rw [h0] at hb
        obtain rfl := Option.some.inj hb
        unfold Lift.Box at hbx
        rw [hbx] at hbb
        cases hbb
    · rcases List.mem_or_eq_of_mem_set hx with hx | hx
      · exact ⟨x, hx, rfl, rfl, rfl⟩
      · subst hx
        exact ⟨e, hem, rfl, h1 _, h2 _⟩
    · obtain ⟨j, hj⟩ := List.getElem?_of_mem hd
      by_cases hij : i = j
      · subst hij
        rw [he] at hj
        obtain rfl := Option.some.inj hj
        refine ⟨{ e with s := f e.s }, ?_, h1 _, h2 _⟩
        exact List.mem_of_getElem? (i := i) (by rw [List.getElem?_set_self hil])
      · exact ⟨d, List.mem_of_getElem? (i := j) (by rw [List.getElem?_set_ne hij]; exact hj), rfl, rfl⟩
  · rw [set_map he]
    exact inv_modify h.inv h1 h2 h3 i
theorem used_any {r : R} (h : OC w g Z room r) : Calls Try.prog (19) #[pt g] w fun e w' => e = .returned (vi (used r.1 : Nat)) ∧ w = w' := by
  obtain ⟨M, L, pv, nx, hl, he⟩ := h
  rw [← he]
  obtain ⟨f0, f1, f2, f3, f4⟩ := hl.facts
  have hub := hl.used_le
  generalize used (L.map E.s) = u at *
  clear hl he
  go_enter (Try.func19), (Try.ntmps19)
  go_wp2_with fail
  go_ret
  exact ⟨rfl, rfl⟩
theorem new_any (n : Int) (hn : wf64 n) (w : World) :
    Calls Try.prog 8 #[.int .i64 n] w fun e w' => e = .returned (pt w.heap.size) ∧ OC w' w.heap.size (· = w.heap.size) (roomO n) ([], 0) ∧ Below w.heap.size w w' := by
  have hle : roomO n ≤ 9223372036854775807 := by have := i64_of hn; unfold roomO; omega
  have hx : max n 0 = ((roomO n : Nat) : Int) := by unfold roomO; omega
  have HX := Lib.hid hle
  generalize roomO n = x at *
  clear hle
  go_enter Try.func8, Try.ntmps8
  go_wp2_with fail
  go_ret
  exact ⟨rfl, ⟨none, [], id, id, ⟨by first | (rw [hx]; exact Lift.Box.new w Ty.cache [vi x, vi (0 : Nat), .map none, .pointer none, .pointer none]) | exact Lift.Box.new w Ty.cache [vi x, vi (0 : Nat), .map none, .pointer none, .pointer none], ⟨fun e he => (by cases he), fun e he => (by cases he), fun e he => (by cases he), List.nodup_nil⟩, .inl ⟨rfl, rfl⟩, fun i x y h => (by simp at h), inv_new _, rfl, fun k hk => by rw [hk]; simp, by simp, HX.out⟩, rfl⟩, Joins.below_alloc1 _ _⟩
/-- A slot is pinned, and its mark is set. -/
theorem pin_any {e : E} {p n : Nat} (hb : Lift.Box w e.blk Ty.node (e.cells p n)) (hp : e.s.pins ≤ 1000) :
    Calls Try.prog (25) #[pt e.blk] w fun v w' => v = .returned (.tuple #[]) ∧ w' = (w.setCell ⟨e.blk, 3, none⟩ (.int .i64 ((e.s.pins + 1 : Nat) : Int))).setCell ⟨e.blk, 4, none⟩ (.bool true) := by
  have c3 := hb.cell 3
  have z3 := hb.free 3
  have hb2 := hb.set 3 (.int .i64 ((e.s.pins : Int) + 1))
  have c4 := hb2.cell 4
  have z4 := hb2.free 4
  simp only [E.cells, List.getElem?_cons_succ, List.getElem?_cons_zero, List.set_cons_succ, List.set_cons_zero] at c3 c4
  clear hb hb2
  generalize e.blk = b at *
  generalize e.s.pins = q at *
  go_enter (Try.func25), (Try.ntmps25)
  go_wp2_with fail
  go_end0
  exact ⟨rfl, by rw [show ((q + 1 : Nat) : Int) = (q : Int) + 1 by omega]⟩
/-- What pinning leaves of the whole. -/
theorem OLay.pinned {i : Nat} {e : E} (h : OLay w g Z room hand M L pv nx) (he : L[i]? = some e) (hp : e.s.pins + 1 ≤ 1000) :
    ∃ w2, w2 = (w.setCell ⟨e.blk, 3, none⟩ (.int .i64 ((e.s.pins + 1 : Nat) : Int))).setCell ⟨e.blk, 4, none⟩ (.bool true) ∧ OLay w2 g Z room hand M (L.set i { e with s := pin e.s }) pv nx ∧ Keep Z w w2 := by
  have hem := List.mem_of_getElem? he
  obtain ⟨m1, k1⟩ := h.mem.poke (e' := { e with s := { e.s with pins := e.s.pins + 1 } }) (k := 3) (u := .int .i64 ((e.s.pins + 1 : Nat) : Int)) he ⟨rfl, rfl, rfl, rfl, rfl, rfl⟩ hp rfl
  have hil := (List.getElem?_eq_some_iff.1 he).1
  have he1 : (L.set i { e with s := { e.s with pins := e.s.pins + 1 } })[i]? = some { e with s := { e.s with pins := e.s.pins + 1 } } := List.getElem?_set_self hil
  obtain ⟨m2, k2⟩ := m1.poke (e' := { e with s := pin e.s }) (k := 4) (u := .bool true) he1 ⟨rfl, rfl, rfl, rfl, rfl, rfl⟩ hp rfl
  rw [List.set_set] at m2
  refine ⟨_, rfl, ?_, k1.trans k2 fun _ _ => id⟩
  exact h.modify (f := pin) he (fun _ => rfl) (fun _ => rfl) (fun _ => rfl) (((Keep.refl (· = e.blk) w).setCell (p := ⟨e.blk, 3, none⟩) (.inr rfl) _).setCell (p := ⟨e.blk, 4, none⟩) (.inr rfl) _) m2
end
end Go.Proofs.Ytbeohfmikpbkhaa.Ck
