/- The document's own disk: NewDisk, Fail, Remove, Read, List; two lists of names. -/
import Derived.Test.YtnbknihaefkllaaRgone
import Derived.Test.YtnbknihaefkllaaDlist
namespace Go.Proofs.Ytnbknihaefkllaa.Rk
set_option linter.unusedVariables false
set_option linter.unusedSimpArgs false
open Go.RowKit Go.Maps Lift Ik Dk

section
variable {w w' : World} {g : Nat} {S S' T : Nat → Prop} {rm : Int} {m : MS} {L : List D} {A F : Option Addr} {c cf : Nat}
theorem rnew_any (room : Int) (hr : (Lit.int .i64 room).wf = true) (w : World) :
    Calls Try.prog 7 #[.int .i64 room] w fun e w' => ∃ g S, e = .returned (.pointer (some ⟨g, 0, none⟩)) ∧ At w' g S room (newM room) ∧ (∀ k, S k → w.heap.size ≤ k) ∧ Below w.heap.size w w' := by
  go_enter Try.func7, Try.ntmps7
  go_wp2_with fail
  go_ret
  exact ⟨w.heap.size, (· = w.heap.size), rfl, ⟨[], none, none, 0, 0, ⟨Box.new w Ty.disk [.int .i64 room, .slice none 0 0, .slice none 0 0, .int .i64 0], rfl, World.ownsRow_nil _ _ _ _, fun k hk => by simp [Value.ownBlock] at hk, by simp, rfl, .inl rfl, Nat.le_refl _, by decide, by simp [newM], fun k hk => by rw [hk]; simp, rfl, hr, Nat.zero_le _, List.Pairwise.nil⟩⟩,
    fun k hk => Nat.le_of_eq hk.symm, Joins.below_alloc1 _ _⟩
set_option maxHeartbeats 400000 in
theorem rfail_any (A0 : Option Addr) (k0 : Nat) (l : List Int) (h : At w g S rm m) (hl : Lies w w.heap.size A0 (l.map (Value.int .i64))) (hm : l.length ≤ 1000000) (hw : ∀ x, x ∈ l → (Lit.int .i64 x).wf = true) :
    Calls Try.prog (26) #[.pointer (some ⟨g, 0, none⟩), .slice A0 l.length k0] w fun e w' => ∃ S', e = .returned (.tuple #[]) ∧ At w' g S' rm { m with armed := l } ∧ Keep S w w' ∧ ∀ k, S' k → S k ∨ w.heap.size ≤ k := by
  obtain ⟨L, A, F, c, cf, h⟩ := h
  obtain ⟨v2, W2, hr2, hown2, hb2, hs2⟩ := run_append_lies (P := Try.prog) (w := w) (base := w.heap.size) (m := l.length) (c := k0) 33 33 3 (.int .i64 0) 1 8 Try.underlying33 (by kernel_rfl) rfl (by decide)
      (fun u hu => by simp at hu; obtain ⟨_, _, rfl⟩ := hu; rfl) (World.ownsRow_nil _ _ _ _) hl (by simp) (by unfold maxLen; omega) (by omega) (Nat.le_refl _)
  rw [Nat.zero_add, List.nil_append] at hown2
  have hp := hown2
  obtain ⟨A1, c1, rfl, hc1, hm1, _⟩ := own_parts hp
  have hg := h.lt g h.sg
  have hbx := h.box.below hb2 hg
  have q2 := hbx.cell 2
  have z2 := hbx.free 2
  simp only [List.getElem?_cons_succ, List.getElem?_cons_zero] at q2
  obtain ⟨p0, p1, p2, _⟩ := h.facts
  have H := Lib.hid h
  have HR := Lib.hid hr2
  have HO := Lib.hid hown2
  have HB := Lib.hid hb2
  have HX := Lib.hid hbx
  have HC1 := Lib.hid hc1
  have HM1 := Lib.hid hm1
  have HW := Lib.hid hw
  have HG := Lib.hid hg
  clear h hl hw hown2 hb2 hbx hp hc1 hm1 hr2
  go_enter Try.func26, Try.ntmps26
  go_wp2_with (at_builtin; refine wpList_append_run rfl _ _ 33 rfl rfl rfl HR.out ?_)
  go_end0
  have hk : Keep (· = g) w (W2.setCell ⟨g, 2, none⟩ (.slice A1 l.length c1)) := (below_keep (S := (· = g)) HB.out).setCell (p := ⟨g, 2, none⟩) (.inr rfl) _
  have hsz : (W2.setCell ⟨g, 2, none⟩ (.slice A1 l.length c1)).heap.size = W2.heap.size := by simp [World.setCell]
  have hne : ∀ k, w.heap.size ≤ k → k ≠ g := fun k hk e => by have := HG.out; omega
  refine ⟨Gr S w W2, rfl, ?_, hk.mono fun k hk => by rw [hk]; exact H.out.sg, fun k hk => hk.imp id fun h => h.1⟩
  have ha : Armed (W2.setCell ⟨g, 2, none⟩ (.slice A1 l.length c1)) (Gr S w W2) A1 l := by
    refine (LiesP.of_own HO.out).later (fun k hk => Below.heap_setCell _ _ _ _ (hne k hk.1)) fun k hk => ?_
    obtain ⟨h1, h2, cs, fr, h3⟩ := hk
    exact ⟨.inr ⟨h1, h2⟩, cs, fr, (Below.heap_setCell _ _ _ _ (hne k h1)).trans h3⟩
  have nt : ∀ (t : TypeId), t ≠ Ty.disk → ∀ k, k = g → S k → ¬ ∃ cs fr, w.heap[k]? = some (.cells cs t fr) := fun t ht k hk _ hh => by
    obtain ⟨cs, fr, hh⟩ := hh
    rw [hk] at hh
    exact typed H.out.box hh (fun e => ht e.symm)
  exact ⟨L, A, A1, c, c1, HX.out.set 2 _, .inl H.out.sg, own_keep H.out.own hk fun k hk1 e => own_apart H.out.own H.out.box (by decide) (by rw [← e]; exact hk1), fun k hk1 => .inl (H.out.so k hk1),
    fun d hd => (H.out.ok d hd).keep hk (nt _ (by decide)) (fun k hk => .inl hk), H.out.told, ha, HC1.out, HM1.out, HW.out, fun k hk1 => by rw [hsz]; exact hk1.elim (fun h1 => Nat.lt_of_lt_of_le (H.out.lt k h1) HB.out.size) fun h1 => h1.2,
    H.out.room, H.out.rwf, H.out.many, H.out.sorted⟩
def removeM (m : MS) (nm : ByteArray) : Nat × MS := onFile m [nm] nm (fun e => (e, (hit m).2)) fun f => (0, { (hit m).2 with fs := delM m.fs nm })
theorem erase_told {L : List D} {i : Nat} {d : D} (hp : (L.map D.m).Pairwise fun a b => a.nm ≠ b.nm) (h : L[i]? = some d) : (L.take i ++ L.drop (i + 1)).map D.m = delM (L.map D.m) d.nm := by
  induction L generalizing i with
  | nil => simp at h
  | cons x L ih =>
    rw [List.map_cons] at hp
    obtain ⟨h1, h2⟩ := List.pairwise_cons.1 hp
    cases i with
    | zero =>
      simp at h
      subst h
      have e : delM (x.m :: L.map D.m) x.nm = delM (L.map D.m) x.nm := by unfold delM; rw [List.filter_cons, decide_eq_true (show x.m.nm = x.nm from rfl)]; rfl
      rw [List.map_cons, e, delM_id (nm := x.nm) fun y hy e => h1 y hy e.symm]
      simp
    | succ i =>
      simp at h
      have hne : x.m.nm ≠ d.nm := h1 d.m (List.mem_map.2 ⟨d, List.mem_of_getElem? h, rfl⟩)
      have e : delM (x.m :: L.map D.m) d.nm = x.m :: delM (L.map D.m) d.nm := by unfold delM; rw [List.filter_cons, decide_eq_false hne]; rfl
      rw [List.map_cons, e, ← ih h2 h]
      simp
theorem rremove_any (nm : ByteArray) (hn : nm.size ≤ 1000) (h : At w g S rm m) (hf : m.failed ≤ 1000000) : Calls Try.prog (22) #[.pointer (some ⟨g, 0, none⟩), .string nm] w fun e w' =>
    ∃ S', e = .returned (.int .i64 ((removeM m nm).1 : Int)) ∧ At w' g S' rm (removeM m nm).2 ∧ Keep S w w' ∧ ∀ k, S' k → S k ∨ w.heap.size ≤ k := by
  obtain ⟨L, A, F, c, cf, h⟩ := h
  have HF := Lib.hid (found_any nm hn h hf)
  have HSG := Lib.hid h.sg
  have HT := Lib.hid h.told
  clear h
  go_enter Try.func22, Try.ntmps22
  go_wp2_with fail
  refine HF.out.mono ?_
  rintro e W1 ⟨F1, cf1, hk1, hL1, hc⟩
  have HK := Lib.hid hk1
  have HL := Lib.hid hL1
  rcases hc with ⟨d, hd, hdn, hE, rfl⟩ | ⟨er, hne, hE, rfl⟩
  · have E : Hid (removeM m nm = (0, { (hit m).2 with fs := delM m.fs nm })) := Lib.hid (hE _ _)
    have hlt := (List.getElem?_eq_some_iff.1 hd).1
    have HD := Lib.hid hd
    have HDN := Lib.hid hdn
    obtain ⟨i, hi⟩ : ∃ i, i = idx m.fs nm := ⟨_, rfl⟩
    rw [← hi] at hlt ⊢
    have HI := Lib.hid hi
    have HG := Lib.hid (gone_any hL1 hlt)
    clear hk1 hL1 HF hd hdn hE hi
    go_wp2_with fail
    refine HG.out.mono ?_
    rintro e W2 ⟨A2, c2, rfl, hk2, hL2⟩
    have HK2 := Lib.hid hk2
    have HL2 := Lib.hid hL2
    clear hk2 hL2 HG
    go_wp2_with fail
    go_ret
    refine ⟨Gr S W1 W2, by rw [E.out]; rfl, ?_, (HK.out.trans HK2.out fun _ _ h => h).mono fun k hk => by rw [hk]; exact HSG.out, fun k hk => hk.imp id fun h => Nat.le_trans HK.out.size h.1⟩
    rw [E.out]
    have hA := HL2.out.toAt
    rw [erase_told (by rw [← HT.out]; have := HL.out.apart; rw [(hit_fs m).1] at this; exact this) (by rw [HI.out]; exact HD.out), ← HT.out, HDN.out] at hA
    exact hA
  · have E : Hid (removeM m nm = (er, (hit m).2)) := Lib.hid (hE _ _)
    have d1 : ((er : Int) != 0) = true := by rw [bne_iff_ne]; omega
    clear hk1 hL1 HF hne hE
    go_wp2_with fail
    go_ret
    exact ⟨S, by rw [E.out]; rfl, by rw [E.out]; exact HL.out.toAt, HK.out.mono fun k hk => by rw [hk]; exact HSG.out, fun k hk => .inl hk⟩
end
end Go.Proofs.Ytnbknihaefkllaa.Rk
