/- The document's cache: Put. -/
import Derived.Test.YtbeohfmikpbkhaaCl10
import Derived.StillTailTactics
import Derived.Test.YtbeohfmikpbkhaaLast
namespace Go.Proofs.Ytbeohfmikpbkhaa.Ck
set_option linter.unusedVariables false
set_option linter.unusedSimpArgs false
open Go.RowKit Lift Ik
section
variable {w w' : World} {g room hand c : Nat} {Z : Nat → Prop} {L : List D} {A : Option Addr}
/-- How many slots the box says there are. -/
def lenR (w : World) (g : Nat) : Nat := match w.cell? ⟨g, 1, none⟩ with
  | some (.slice _ n _) => n
  | _ => 0
theorem RC.len {r : R} (h : RC w g Z room r) : lenR w g = r.1.length := by
  obtain ⟨L, A, c, hl, he⟩ := h
  unfold lenR
  rw [hl.facts.2.1, ← he, List.length_map]
def D.v (d : D) : Value := .agg #[.int .i64 d.s.file, .int .i64 d.s.off, .slice d.ba d.s.b.length d.bc, .int .i64 (d.s.pins : Int), .bool d.s.mark]
theorem D.load {p : Addr} {d : D} (h0 : w.cell? p = some (.int .i64 d.s.file)) (h1 : w.cell? ⟨p.block, p.off + 1, none⟩ = some (.int .i64 d.s.off)) (h2 : w.cell? ⟨p.block, p.off + 2, none⟩ = some (.slice d.ba d.s.b.length d.bc)) (h3 : w.cell? ⟨p.block, p.off + 3, none⟩ = some (.int .i64 (d.s.pins : Int))) (h4 : w.cell? ⟨p.block, p.off + 4, none⟩ = some (.bool d.s.mark)) :
    Sem.run Try.prog (loadVar 59 p) w = .ok d.v w := by
  have hl := run_loadCells_list (P := Try.prog) w p d.cells (fun j v hj => by
    rcases j with _ | _ | _ | _ | _ | j
    · simp [D.cells] at hj; subst hj; exact h0
    · simp [D.cells] at hj; subst hj; exact h1
    · simp [D.cells] at hj; subst hj; exact h2
    · simp [D.cells] at hj; subst hj; exact h3
    · simp [D.cells] at hj; subst hj; exact h4
    · simp [D.cells] at hj)
  have hagg : Sem.run Try.prog (isAgg 59) w = .ok true w := by
    unfold isAgg
    rw [Sem.run_bind, run_underlying Try.underlying59 w]
    simp
  obtain ⟨i, hi, hs⟩ : ∃ i, Try.prog.info? 59 = some i ∧ i.size = 5 := by
    have : (Try.prog.info? 59).map (·.size) = some 5 := by kernel_rfl
    cases hq : Try.prog.info? 59 with
    | none => rw [hq] at this; cases this
    | some i => rw [hq] at this; exact ⟨i, rfl, by simpa using this⟩
  have hl3 : Sem.run Try.prog (loadCells p 5) w = .ok #[.int .i64 d.s.file, .int .i64 d.s.off, .slice d.ba d.s.b.length d.bc, .int .i64 (d.s.pins : Int), .bool d.s.mark] w := hl
  simp [loadVar, Sem.run_bind, hagg, sizeOf, typeInfo, hi, hs, hl3, D.v]
/-- With k steps left of a sweep. -/
theorem sweep_pinned {k : Nat} {c : R} {x : S} (hx : c.1[c.2]? = some x) (hp : 0 < x.pins) : sweep (k + 1) c = sweep k (c.1, next c) := by
  conv => lhs; unfold sweep
  simp only [hx, if_pos hp]
theorem sweep_marked {k : Nat} {c : R} {x : S} (hx : c.1[c.2]? = some x) (hp : ¬ 0 < x.pins) (hm : x.mark = true) : sweep (k + 1) c = sweep k (c.1.set c.2 { x with mark := false }, next c) := by
  conv => lhs; unfold sweep
  simp only [hx, if_neg hp, hm, if_true]
theorem sweep_plain {k : Nat} {c : R} {x : S} (hx : c.1[c.2]? = some x) (hp : ¬ 0 < x.pins) (hm : x.mark = false) : sweep (k + 1) c = (out c c.2, true) := by
  conv => lhs; unfold sweep
  simp only [hx, if_neg hp, hm, Bool.false_eq_true, if_false]
theorem make_fits {room n : Nat} {c : R} (h : used c.1 + n ≤ room) : make room n c.1.length c = (c, true) := by
  cases hl : c.1.length with
  | zero => show (c, decide (used c.1 + n ≤ room)) = _; rw [decide_eq_true h]
  | succ m => unfold make; rw [if_pos h]
theorem make_none {room n : Nat} {c : R} (h : ¬ used c.1 + n ≤ room) (hs : (sweep (2 * c.1.length) c).2 = false) : make room n c.1.length c = ((sweep (2 * c.1.length) c).1, false) := by
  cases hl : c.1.length with
  | zero => show (c, decide (used c.1 + n ≤ room)) = _; rw [decide_eq_false h]; rfl
  | succ m => rw [hl] at hs; unfold make; rw [if_neg h, hl, if_neg (by rw [hs]; simp)]
theorem make_went {room n : Nat} {c : R} (h : ¬ used c.1 + n ≤ room) (hs : (sweep (2 * c.1.length) c).2 = true) : make room n c.1.length c = make room n (sweep (2 * c.1.length) c).1.1.length (sweep (2 * c.1.length) c).1 := by
  have hg := sweep_gone _ _ hs
  cases hl : c.1.length with
  | zero => omega
  | succ m =>
    rw [hl] at hs hg
    conv => lhs; unfold make
    rw [if_neg h, hl, if_pos hs, show (sweep (2 * (m + 1)) c).1.1.length = m by omega]
theorem RC.used_le {r : R} (h : RC w g Z room r) : used r.1 ≤ 100000 := by
  obtain ⟨L, A, c, hl, he⟩ := h
  have h1 := sumLe (fun d : D => d.s.b.length) 100 (fun d hd => (hl.ok d hd).few) L.length
  rw [List.take_length] at h1
  have h2 := hl.many
  have : used r.1 = (L.map fun d : D => d.s.b.length).sum := by rw [← he]; unfold used; rw [List.map_map]; rfl
  omega
theorem set_unmark {L : List D} {i : Nat} {d : D} (h : L[i]? = some d) : (L.set i { d with s := { d.s with mark := false } }).map (·.s) = (L.map (·.s)).set i { d.s with mark := false } := by rw [List.map_set]
set_option maxRecDepth 100000 in
set_option maxHeartbeats 6400000 in
theorem rput_any {r : R} (f a : Int) (Ab : Option Addr) (cb : Nat) (bs : List Nat) (h : RC w g Z room r) (hfi : Fine r) (hb : LiesP w (fun k => k < w.heap.size ∧ ¬ Z k) Ab (bs.map vb)) (hfew : bs.length ≤ 100) (h8 : ∀ x, x ∈ bs → x < 256) (hp : pinned r.1 + 1 ≤ 1000) (hn : r.1.length + 1 ≤ 1000) :
    Calls Try.prog (13) #[.pointer (some ⟨g, 0, none⟩), .int .i64 f, .int .i64 a, .slice Ab bs.length cb] w fun e w' => e = .returned (.bool (putC room r f a bs).2) ∧ CWent w g Z room (putC room r f a bs).1 w' := by
  have HF := Lib.hid (rfind_any f a h)
  have HR := Lib.hid h
  obtain ⟨L, A, c, hl, he⟩ := h
  obtain ⟨f0, f1, f2⟩ := hl.facts
  have hmany := hl.many
  have HE := Lib.hid he
  have HL := Lib.hid hl
  have HBL := Lib.hid hb
  have H8 := Lib.hid h8
  have HFI := Lib.hid hfi
  clear hl hb h8 hfi
  cases hf : find r.1 f a with
  | some i =>
    obtain ⟨s, hs, hsf⟩ := find_some hf
    obtain ⟨d, hd, hds⟩ : ∃ d, L[i]? = some d ∧ d.s = s := by
      rw [← HE.out, List.getElem?_map] at hs
      cases hq : L[i]? with
      | none => rw [hq] at hs; cases hs
      | some d => rw [hq] at hs; exact ⟨d, rfl, by simpa using hs⟩
    subst hds
    obtain ⟨b, hA, q0, q1, q2, q3, q4⟩ := HL.out.place hd
    subst hA
    have hil : i < L.length := (List.getElem?_eq_some_iff.1 hd).1
    have hpi := pins_le (List.mem_of_getElem? hs)
    have HN := Lib.hid (show putC room r f a bs = ((r.1.modify i pin, r.2), true) by unfold putC; rw [hf])
    have HM := Lib.hid (set_modify (f := pin) hd)
    obtain ⟨w1, w2, e1, e2, ⟨L1, hL1, H1, hd1⟩, H2, hK⟩ := HL.out.pinned hd (by omega)
    obtain ⟨b1, hb1, p0, p1, p2, p3, p4⟩ := H1.place hd1
    injection hb1 with hb1
    injection hb1 with hb1
    subst hb1
    have z3 := HL.out.free (i * 5 + 3)
    have z4 := H1.free (i * 5 + 4)
    have k1 := H1.facts.2.1
    rw [hL1] at k1
    have HC : Hid (RC w2 g Z room (r.1.modify i pin, r.2)) := Lib.hid ⟨_, _, _, H2, by rw [HM.out, HE.out]⟩
    have HK := Lib.hid hK
    rw [hf] at HF
    have HF : Hid (Calls Try.prog (26) #[.pointer (some ⟨g, 0, none⟩), .int .i64 f, .int .i64 a] w fun e w' => e = .returned (.int .i64 (i : Int)) ∧ w = w') := HF
    have d1 : decide ((0 : Int) ≤ (i : Int)) = true := decide_eq_true (by omega)
    clear hf hd hs H1 H2 hd1 hK he
    simp only at p4
    subst e1
    subst e2
    go_enter (Try.func13), (Try.ntmps13)
    go_wp2_with (first | (go_at_call 26; refine HF.out.mono ?_; rintro e w' ⟨rfl, rfl⟩))
    go_ret
    exact ⟨by rw [HN.out]; rfl, by rw [HN.out]; exact ⟨Z, HC.out, HK.out, fun k hk => .inl hk⟩⟩
  | none =>
    obtain ⟨G, hG⟩ : ∃ G, G = make room bs.length r.1.length r := ⟨_, rfl⟩
    have HPUT : Hid (putC room r f a bs = if G.2 then ((G.1.1 ++ [⟨f, a, bs, 1, true⟩], G.1.2), true) else (G.1, false)) := Lib.hid (by unfold putC; rw [hf, hG])
    have HGL : Hid (G.1.1.length ≤ r.1.length) := Lib.hid (by rw [hG]; exact (make_less room bs.length r.1.length r).length)
    have HGG := Lib.hid hG
    rw [hf] at HF
    have HF : Hid (Calls Try.prog (26) #[.pointer (some ⟨g, 0, none⟩), .int .i64 f, .int .i64 a] w fun e w' => e = .returned (.int .i64 (-1)) ∧ w = w') := HF
    clear hf hG he f0 f1 f2
    go_enter (Try.func13), (Try.ntmps13)
    go_wp2_with (first | (go_at_call 26; refine HF.out.mono ?_; rintro e w' ⟨rfl, rfl⟩))
    go_loopw [10] (fun u wr => ∃ (q : R) (Y : Nat → Prop), Hid (RC wr g Y room q) ∧ Hid (Keep Z w wr) ∧ Hid (∀ k, Y k → Z k ∨ w.heap.size ≤ k) ∧ Hid (Fine q) ∧ q.1.length + 1 ≤ 1000 ∧ Hid (make room bs.length q.1.length q = G)) (fun _ wr => lenR wr g)
    case atStart => exact ⟨r, Z, HR, Lib.hid (Keep.refl _ _), Lib.hid fun k hk => .inl hk, HFI, hn, Lib.hid HGG.out.symm⟩
    case round =>
      obtain ⟨q, Y, hR, hK, hY, hFI, hqn, hG⟩ := hrel
      have hub := hR.out.used_le
      have HU : Hid (∀ m, Calls Try.prog (27) #[.pointer (some ⟨g, 0, none⟩)] (wr.drewN m) fun e w' => e = .returned (vi (used q.1 : Nat)) ∧ wr.drewN m = w') := Lib.hid fun m => rused_any (hR.out.below (Joins.below_draws _ _ m))
      have HLQ := Lib.hid hR.out.len
      obtain ⟨L, A, c, hl, he⟩ := id hR.out
      obtain ⟨f0, f1, f2⟩ := hl.facts
      have hroomy := hl.roomy
      obtain ⟨U, hU⟩ : ∃ U, U = used q.1 := ⟨_, rfl⟩
      rw [← hU] at HU hub
      have HUU := Lib.hid hU
      clear hU
      by_cases k1 : U + bs.length ≤ room
      · have d1 : decide ((room : Int) < (U : Int) + (bs.length : Int)) = false := decide_eq_false (by omega)
        have HGF : Hid (G = (q, true)) := Lib.hid (by rw [← hG.out]; exact make_fits (by rw [← HUU.out]; exact k1))
        clear k1
        go_wp2_with fail
        go_quiet (first | (go_at_call 27; refine Calls.quiet_of_same ((HU.out _).mono fun e w' hh => ⟨hh.1, hh.2.symm⟩)))
        have hd := (Joins.below_draws _ _ nq : Below wr.heap.size wr (wr.drewN nq))
        have hl1 := hl.same (fun k hk => hd.block k (hl.lt k hk)) hd.size
        have HK1 := Lib.hid (hK.out.trans (T := fun _ => False) (below_keep hd) (fun _ _ h => h.elim))
        clear hd f0 f1 f2 hl HU hub
        generalize wr.drewN nq = W1 at *
        have hlb : Lies W1 W1.heap.size Ab (bs.map vb) := (HBL.out.later (R' := fun k => k < W1.heap.size) (fun k hk => HK1.out.block k hk.1 hk.2) fun k hk => Nat.lt_of_lt_of_le hk.1 HK1.out.size).lies fun k hk => hk
        have hlq : q.1.length = L.length := by rw [← he, List.length_map]
        obtain ⟨A1, c1, V1, A2, c2, V2, A4, c4, V4, hr1, hr2, hr4, hbx, hb4, hl4, hk4⟩ := hl1.grow (cb := cb) f a hlb H8.out hfew (by rw [← hlq]; exact hqn)
        have HR1 := Lib.hid hr1
        have HR2 := Lib.hid hr2
        have HR4 := Lib.hid hr4
        have HL4 := Lib.hid hl4
        have HK4 := Lib.hid hk4
        have HB4 := Lib.hid hb4
        have f1 := hl1.facts.2.1
        have p1 := hbx.cell 1
        have z1 := hbx.free 1
        simp only [List.getElem?_cons_succ, List.getElem?_cons_zero] at p1
        have HE4 := Lib.hid he
        clear hr1 hr2 hr4 hbx hb4 hl4 hk4 hl1 hlb hlq he
        have hpf : Hid (putC room r f a bs = ((q.1 ++ [⟨f, a, bs, 1, true⟩], q.2), true)) := Lib.hid (by rw [HPUT.out, HGF.out]; rfl)
        go_wp2_with (at_builtin; first | (refine wpList_append_run rfl _ _ 48 rfl rfl rfl HR1.out ?_; clear HR1) | (refine wpList_append_run rfl _ _ 28 rfl rfl rfl HR2.out ?_; clear HR2) | refine wpList_append_run rfl _ _ 48 rfl rfl rfl HR4.out ?_)
        go_ret
        refine ⟨by rw [hpf.out]; rfl, ?_⟩
        rw [hpf.out]
        refine ⟨_, ⟨_, _, _, HL4.out, ?_⟩, HK1.out.trans HK4.out fun k hk h4 => (hY.out k h4).elim id fun h5 => absurd hk (Nat.not_lt_of_le h5), fun k hk => ?_⟩
        · rw [List.map_append, HE4.out]; rfl
        · rcases hk with hk | hk
          · exact hY.out k hk
          · exact .inr (Nat.le_trans HK1.out.size hk.1)
      · have d1 : decide ((room : Int) < (U : Int) + (bs.length : Int)) = true := decide_eq_true (by omega)
        have HNF : Hid (¬ used q.1 + bs.length ≤ room) := Lib.hid (by rw [← HUU.out]; exact k1)
        clear k1
        go_wp2_with fail
        go_quiet (first | (go_at_call 27; refine Calls.quiet_of_same ((HU.out _).mono fun e w' hh => ⟨hh.1, hh.2.symm⟩)))
        have hd := (Joins.below_draws _ _ nq : Below wr.heap.size wr (wr.drewN nq))
        have HR1 := Lib.hid (hR.out.below hd)
        have HK1 := Lib.hid (hK.out.trans (T := fun _ => False) (below_keep hd) (fun _ _ h => h.elim))
        clear hd f0 f1 f2 hl HU hub he
        generalize wr.drewN nq = W1 at *
        obtain ⟨N, hN⟩ : ∃ N, N = q.1.length := ⟨_, rfl⟩
        rw [← hN] at HLQ hqn
        obtain ⟨SW, hSW⟩ : ∃ SW, SW = sweep (2 * N) q := ⟨_, rfl⟩
        have HN := Lib.hid hN
        have HSW := Lib.hid hSW
        clear hN hSW
        go_wp2_with fail
        go_loopw [10, 11] (fun t10 t11 wv => ∃ (cur : R) (Y2 : Nat → Prop) (k : Nat) (wt : Bool), t10 = .bool wt ∧ t11 = .int .i64 (k : Int) ∧ k ≤ 2 * N ∧ Hid (RC wv g Y2 room cur) ∧ Hid (Keep Z w wv) ∧ Hid (∀ k, Y2 k → Z k ∨ w.heap.size ≤ k) ∧ Hid (Fine cur) ∧ Hid ((wt = false ∧ cur.1.length = N ∧ sweep (2 * N - k) cur = SW) ∨ (wt = true ∧ SW = (cur, true)))) (fun _ t11 _ => 2 * N + 1 - (intOf t11).toNat)
        case atStart => exact ⟨q, Y, 0, false, rfl, rfl, Nat.zero_le _, HR1, HK1, hY, hFI, Lib.hid (.inl ⟨rfl, HN.out.symm, HSW.out.symm⟩)⟩
        case round =>
          obtain ⟨cur, Y2, k, wt, rfl, rfl, hk, hR2, hK2, hY2, hF2, hcase⟩ := hrel
          obtain ⟨L, A, c, hl, he⟩ := id hR2.out
          obtain ⟨f0, f1, f2⟩ := hl.facts
          have hmany2 := hl.many
          have hlen : cur.1.length = L.length := by rw [← he, List.length_map]
          have HE2 := Lib.hid he
          have HL2 := Lib.hid hl
          have HLN := Lib.hid hlen
          clear hl he hlen
          cases wt with
          | true =>
            have HSC : Hid (SW = (cur, true)) := Lib.hid (hcase.out.elim (fun h => (by cases h.1)) fun h => h.2)
            have HGO : Hid (make room bs.length cur.1.length cur = G) := Lib.hid (by
              have h1 := make_went HNF.out (by rw [← HN.out, ← HSW.out, HSC.out])
              rw [← HN.out, ← HSW.out, HSC.out] at h1
              rw [← h1, HN.out]; exact hG.out)
            have hcl : L.length + 1 = N := by
              have h1 := sweep_gone (2 * q.1.length) q (by rw [← HN.out, ← HSW.out, HSC.out])
              rw [← HN.out, ← HSW.out, HSC.out] at h1
              rw [← HLN.out]; exact h1
            have HLC := Lib.hid (hR2.out.len)
            clear hcase
            by_cases kk : k < 2 * L.length
            · have d2 : decide ((k : Int) < 2 * (L.length : Int)) = true := decide_eq_true (by omega)
              go_wp2_with fail
              exact ⟨⟨cur, Y2, hR2, hK2, hY2, hF2, by rw [HLN.out]; omega, HGO⟩, by rw [HLC.out, HLQ.out, HLN.out]; omega⟩
            · have d2 : decide ((k : Int) < 2 * (L.length : Int)) = false := decide_eq_false (by omega)
              go_wp2_with fail
              exact ⟨⟨cur, Y2, hR2, hK2, hY2, hF2, by rw [HLN.out]; omega, HGO⟩, by rw [HLC.out, HLQ.out, HLN.out]; omega⟩
          | false =>
            have hsw : cur.1.length = N ∧ sweep (2 * N - k) cur = SW := hcase.out.elim (fun h => h.2) fun h => by cases h.1
            have hLN : L.length = N := by rw [← HLN.out]; exact hsw.1
            have HSC := Lib.hid hsw.2
            clear hcase hsw
            by_cases kk : k < 2 * N
            · have d2 : decide ((k : Int) < 2 * (L.length : Int)) = true := decide_eq_true (by omega)
              have hhl : cur.2 < L.length := by
                rcases hF2.out with h1 | ⟨h1, _⟩
                · rw [HLN.out] at h1; exact h1
                · have : cur.1.length = 0 := by rw [h1]; rfl
                  rw [HLN.out] at this; omega
              obtain ⟨hd, hhd⟩ : ∃ hd, hd = cur.2 := ⟨_, rfl⟩
              rw [← hhd] at f2 hhl
              obtain ⟨d, hdd⟩ : ∃ d, L[hd]? = some d := ⟨_, List.getElem?_eq_getElem hhl⟩
              obtain ⟨b, hA, q0, q1, q2, q3, q4⟩ := HL2.out.place hdd
              subst hA
              have HD := Lib.hid hdd
              have HHD := Lib.hid hhd
              have HX : Hid (cur.1[cur.2]? = some d.s) := Lib.hid (by rw [← HE2.out, List.getElem?_map, ← hhd, hdd]; rfl)
              have hlo := D.load (w := wr) (p := ⟨b, hd * 5, none⟩) q0 q1 q2 q3 q4
              have hlod := D.load (w := wr.drew) (p := ⟨b, hd * 5, none⟩) q0 q1 q2 q3 q4
              have hpins := (HL2.out.ok d (List.mem_of_getElem? hdd)).pins
              have hn0 : ¬ (L.length : Int) = 0 := by omega
              have hglt := HL2.out.lt g HL2.out.sg
              have hblt := HL2.out.lt b (HL2.out.sa _ rfl)
              have HNN := Lib.hid hLN
              clear hdd hhd hLN
              go_upto_region 11 with fail
              refine wp_region_last (S := fun V => Hid (Below wr.heap.size wr V)) 11 (by kernel_rfl) (Lib.hid (Below.refl _ _).drew) (fun hS => ?_)
              refine wpAnyX_take (i := 0) (v := ?_) rfl (by kernel_rfl) (by kernel_rfl) (by kernel_rfl) (by kernel_rfl) (fun _ _ _ h => h) (Or.inl ⟨by rfl, ?_⟩) hS ?_
              rotate_left
              · intro Vw hw
                go_simp
                try with_reducible rfl
              try simp only [Act.put, List.getElem_toArray, List.getElem_cons_succ, List.getElem_cons_zero, List.setIfInBounds_toArray, List.set_cons_zero, List.set_cons_succ]
              refine wpAnyX_take (i := 1) (v := ?_) rfl (by kernel_rfl) (by kernel_rfl) (by kernel_rfl) (by kernel_rfl) (fun _ _ _ h => h) (Or.inl ⟨by rfl, ?_⟩) hS ?_
              rotate_left
              · intro Vw hw
                go_simp
                try with_reducible rfl
              try simp only [Act.put, List.getElem_toArray, List.getElem_cons_succ, List.getElem_cons_zero, List.setIfInBounds_toArray, List.set_cons_zero, List.set_cons_succ]
              refine wpAnyX_take (i := 2) (v := ?_) rfl (by kernel_rfl) (by kernel_rfl) (by kernel_rfl) (by kernel_rfl) (fun _ _ _ h => h) (Or.inl ⟨by rfl, ?_⟩) hS ?_
              rotate_left
              · intro Vw hw
                go_simp
                try with_reducible rfl
              try simp only [Act.put, List.getElem_toArray, List.getElem_cons_succ, List.getElem_cons_zero, List.setIfInBounds_toArray, List.set_cons_zero, List.set_cons_succ]
              refine wpAnyX_take (i := 3) (v := ?_) rfl (by kernel_rfl) (by kernel_rfl) (by kernel_rfl) (by kernel_rfl) (fun _ _ _ h => h) (Or.inl ⟨by rfl, ?_⟩) hS ?_
              rotate_left
              · intro Vw hw
                have a := (hw.out.cell (p := ⟨g, 1, none⟩) hglt).trans f1
                go_simp
                try with_reducible rfl
              try simp only [Act.put, List.getElem_toArray, List.getElem_cons_succ, List.getElem_cons_zero, List.setIfInBounds_toArray, List.set_cons_zero, List.set_cons_succ]
              refine wpAnyX_take (i := 4) (v := ?_) rfl (by kernel_rfl) (by kernel_rfl) (by kernel_rfl) (by kernel_rfl) (fun _ _ _ h => h) (Or.inl ⟨by rfl, ?_⟩) hS ?_
              rotate_left
              · intro Vw hw
                go_simp
                try with_reducible rfl
              try simp only [Act.put, List.getElem_toArray, List.getElem_cons_succ, List.getElem_cons_zero, List.setIfInBounds_toArray, List.set_cons_zero, List.set_cons_succ]
              refine wpAnyX_take (i := 5) (v := ?_) rfl (by kernel_rfl) (by kernel_rfl) (by kernel_rfl) (by kernel_rfl) (fun _ _ _ h => h) (Or.inl ⟨by rfl, ?_⟩) hS ?_
              rotate_left
              · intro Vw hw
                go_simp
                try with_reducible rfl
              try simp only [Act.put, List.getElem_toArray, List.getElem_cons_succ, List.getElem_cons_zero, List.setIfInBounds_toArray, List.set_cons_zero, List.set_cons_succ]
              refine wpAnyX_take (i := 6) (v := ?_) rfl (by kernel_rfl) (by kernel_rfl) (by kernel_rfl) (by kernel_rfl) (fun _ _ _ h => h) (Or.inl ⟨by rfl, ?_⟩) hS ?_
              rotate_left
              · intro Vw hw
                go_simp
                try with_reducible rfl
              try simp only [Act.put, List.getElem_toArray, List.getElem_cons_succ, List.getElem_cons_zero, List.setIfInBounds_toArray, List.set_cons_zero, List.set_cons_succ]
              refine wpAnyX_take (i := 7) (v := ?_) rfl (by kernel_rfl) (by kernel_rfl) (by kernel_rfl) (by kernel_rfl) (fun _ _ _ h => h) (Or.inl ⟨by rfl, ?_⟩) hS ?_
              rotate_left
              · intro Vw hw
                have a := (hw.out.cell (p := ⟨g, 2, none⟩) hglt).trans f2
                go_simp
                try with_reducible rfl
              try simp only [Act.put, List.getElem_toArray, List.getElem_cons_succ, List.getElem_cons_zero, List.setIfInBounds_toArray, List.set_cons_zero, List.set_cons_succ]
              refine wpAnyX_take (i := 8) (v := ?_) rfl (by kernel_rfl) (by kernel_rfl) (by kernel_rfl) (by kernel_rfl) (fun _ _ _ h => h) (Or.inl ⟨by rfl, ?_⟩) hS ?_
              rotate_left
              · intro Vw hw
                go_simp
                try with_reducible rfl
              try simp only [Act.put, List.getElem_toArray, List.getElem_cons_succ, List.getElem_cons_zero, List.setIfInBounds_toArray, List.set_cons_zero, List.set_cons_succ]
              refine wpAnyX_take (i := 9) (v := ?_) rfl (by kernel_rfl) (by kernel_rfl) (by kernel_rfl) (by kernel_rfl) (fun _ _ _ h => h) (Or.inl ⟨by rfl, ?_⟩) hS ?_
              rotate_left
              · intro Vw hw
                have e0 := (hw.out.cell (p := ⟨b, hd * 5, none⟩) hblt).trans q0
                have e1 := (hw.out.cell (p := ⟨b, hd * 5 + 1, none⟩) hblt).trans q1
                have e2 := (hw.out.cell (p := ⟨b, hd * 5 + 2, none⟩) hblt).trans q2
                have e3 := (hw.out.cell (p := ⟨b, hd * 5 + 3, none⟩) hblt).trans q3
                have e4 := (hw.out.cell (p := ⟨b, hd * 5 + 4, none⟩) hblt).trans q4
                have ld := D.load (w := Vw) (p := ⟨b, hd * 5, none⟩) e0 e1 e2 e3 e4
                unfold D.v at ld
                go_simp
                try with_reducible rfl
              try simp only [Act.put, List.getElem_toArray, List.getElem_cons_succ, List.getElem_cons_zero, List.setIfInBounds_toArray, List.set_cons_zero, List.set_cons_succ]
              refine wpAnyX_ready (rs := [10]) (by kernel_rfl) (by simp) ?_
              refine (AllReadyX.cons rfl (fun K hK => ?_) AllReadyX.nil)
              go_simp
              refine hK.out _ _ (Lib.hid ((Below.refl _ _).drew.alloc (Nat.le_refl _) _)) (fun hS => ?_)
              clear hK K
              try simp only [Act.put, List.getElem_toArray, List.getElem_cons_succ, List.getElem_cons_zero, List.setIfInBounds_toArray, List.set_cons_zero, List.set_cons_succ]
              refine wpAnyX_ready (rs := [11]) (by kernel_rfl) (by simp) ?_
              refine AllReadyX.last rfl (fun K hK => ?_)
              go_simp
              refine hK.out _ _ ?_
              clear hK K
              try simp only [Act.put, List.getElem_toArray, List.getElem_cons_succ, List.getElem_cons_zero, List.setIfInBounds_toArray, List.set_cons_zero, List.set_cons_succ]
              refine wpAnyX_done (by kernel_rfl) ?_ _
              have hb3 : Below wr.heap.size wr (wr.alloc (.cells #[.int .i64 d.s.file, .int .i64 d.s.off, .slice d.ba d.s.b.length d.bc, .int .i64 (d.s.pins : Int), .bool d.s.mark] 59)).drew := (Joins.below_alloc1 _ _).drew
              have hx3 : Lift.Box (wr.alloc (.cells #[.int .i64 d.s.file, .int .i64 d.s.off, .slice d.ba d.s.b.length d.bc, .int .i64 (d.s.pins : Int), .bool d.s.mark] 59)).drew wr.heap.size Ty.slot [.int .i64 d.s.file, .int .i64 d.s.off, .slice d.ba d.s.b.length d.bc, .int .i64 (d.s.pins : Int), .bool d.s.mark] := Lift.Box.new wr Ty.slot [.int .i64 d.s.file, .int .i64 d.s.off, .slice d.ba d.s.b.length d.bc, .int .i64 (d.s.pins : Int), .bool d.s.mark]
              have x3 := hx3.cell 3
              have x4 := hx3.cell 4
              simp only [List.getElem?_cons_succ, List.getElem?_cons_zero] at x3 x4
              have HL3 := Lib.hid (HL2.out.same (fun k hk => hb3.block k (HL2.out.lt k hk)) hb3.size)
              have HR3 := Lib.hid (hR2.out.below hb3)
              have HK3 := Lib.hid (hK2.out.trans (T := fun _ => False) (below_keep hb3) (fun _ _ h => h.elim))
              clear hb3 hx3 hS f0 f1 f2 q0 q1 q2 q3 q4 hlo hlod
              generalize (wr.alloc (.cells #[.int .i64 d.s.file, .int .i64 d.s.off, .slice d.ba d.s.b.length d.bc, .int .i64 (d.s.pins : Int), .bool d.s.mark] 59)).drew = W3 at *
              have f1 := HL3.out.facts.2.1
              have f2 := HL3.out.facts.2.2
              rw [← HHD.out] at f2
              obtain ⟨m, hm⟩ : ∃ m, m = (hd + 1) % L.length := ⟨_, rfl⟩
              have hmm : ((hd : Int) + 1) % (L.length : Int) = (m : Int) := by rw [hm]; exact (Int.natCast_emod _ _).symm
              have hmt : ((hd : Int) + 1).tmod (L.length : Int) = (m : Int) := by rw [Int.tmod_eq_emod_of_nonneg (by omega)]; exact hmm
              have hnil : ¬ L = [] := fun e1 => by rw [e1] at hhl; simp at hhl
              have hwr : IntKind.i64.wrap ((hd : Int) + 1) = (hd : Int) + 1 := by rw [IntKind.wrap_i64]; omega
              have hml : m ≤ 1000 := by rw [hm]; have := Nat.mod_lt (hd + 1) (show 0 < L.length by omega); omega
              have HNX : Hid (next cur = m) := Lib.hid (by unfold next; rw [HLN.out, ← HHD.out, hm])
              have hkk : k + 1 ≤ 2 * N := by omega
              have hb20 : (2 * N - k) = (2 * N - (k + 1)) + 1 := by omega
              have HB20 := Lib.hid hb20
              clear hm hb20
              by_cases c3 : 0 < d.s.pins
              · have d3 : decide ((0 : Int) < (d.s.pins : Int)) = true := decide_eq_true (by omega)
                have d3' : decide (0 < d.s.pins) = true := decide_eq_true c3
                have HSN : Hid (sweep (2 * N - (k + 1)) (cur.1, m) = SW) := Lib.hid (by
                  have h1 := sweep_pinned (k := 2 * N - (k + 1)) HX.out c3
                  rw [← HB20.out, HSC.out, HNX.out] at h1
                  exact h1.symm)
                clear c3 x4
                go_upto_region 15 with fail
                go_still_tail 12, (by kernel_rfl)
                change wpList _ _ _ _ _ W3.drew
                have HL4 : Hid (RLay W3.drew g Y2 room cur.2 L (some ⟨b, 0, none⟩) c) := Lib.hid (HL3.out.same (fun k _ => rfl) (Nat.le_refl _))
                have HK4 := Lib.hid HK3.out.drew
                clear f1 f2 x3
                generalize W3.drew = W4 at *
                have z2 := HL4.out.box.free 2
                have g2 := HL4.out.facts.2.2
                obtain ⟨hl5, hk5⟩ := HL4.out.setHand hml
                have HR5 : Hid (RC (W4.setCell ⟨g, 2, none⟩ (.int .i64 (m : Int))) g Y2 room (cur.1, m)) := Lib.hid ⟨L, _, c, hl5, HE2.out⟩
                have HK5 := Lib.hid (HK4.out.trans hk5 fun k hk h4 => (hY2.out k h4).elim id fun h5 => absurd hk (Nat.not_lt_of_le h5))
                have HF5 : Hid (Fine (cur.1, m)) := Lib.hid (by rw [← HNX.out]; exact fine_next rfl (by rw [HLN.out, ← HHD.out]; exact hhl))
                clear hl5 hk5
                go_wp2_with fail
                go_roundw
                case rel => exact ⟨(cur.1, m), Y2, k + 1, false, rfl, by go_num, hkk, HR5, HK5, hY2, HF5, Lib.hid (.inl ⟨rfl, by rw [← HNN.out]; exact HLN.out, HSN.out⟩)⟩
                case measure => simp [intOf]; omega
              · have c3' : d.s.pins = 0 := by omega
                rw [c3'] at x3
                cases c4 : d.s.mark with
                | true =>
                  rw [c4] at x4
                  have HSN : Hid (sweep (2 * N - (k + 1)) (cur.1.set cur.2 { d.s with mark := false }, m) = SW) := Lib.hid (by
                    have h1 := sweep_marked (k := 2 * N - (k + 1)) HX.out c3 c4
                    rw [← HB20.out, HSC.out, HNX.out] at h1
                    exact h1.symm)
                  clear c3 c3'
                  have HL4 : Hid (RLay W3.drew g Y2 room cur.2 L (some ⟨b, 0, none⟩) c) := Lib.hid (HL3.out.same (fun k _ => rfl) (Nat.le_refl _))
                  have HK4 := Lib.hid HK3.out.drew
                  go_upto_region 17 with fail
                  go_still_tail 10, (by kernel_rfl)
                  change wpList _ _ _ _ _ W3.drew
                  clear f1 f2 x3 x4
                  generalize W3.drew = W4 at *
                  have z4 := HL4.out.free (hd * 5 + 4)
                  obtain ⟨b9, hb9, -, -, -, -, q4⟩ := HL4.out.place HD.out
                  injection hb9 with hb9
                  injection hb9 with hb9
                  subst hb9
                  obtain ⟨hl5, hk5⟩ := HL4.out.poke (k := 4) (d' := { d with s := { d.s with mark := false } }) (u := .bool false) HD.out (by decide) (by simp [D.cells]) ⟨rfl, rfl, rfl⟩ hpins
                  have HL5 := Lib.hid hl5
                  have HK5 := Lib.hid (HK4.out.trans hk5 fun k hk h4 => (hY2.out k h4).elim id fun h5 => absurd hk (Nat.not_lt_of_le h5))
                  have g1 := hl5.facts.2.1
                  have g2 := hl5.facts.2.2
                  rw [List.length_set] at g1
                  rw [← HHD.out] at g2
                  have HSM := Lib.hid (set_unmark HD.out)
                  clear hl5 hk5
                  go_upto_region 18 with fail
                  generalize W4.setCell ⟨b, hd * 5 + 4, none⟩ (.bool false) = W5 at *
                  go_still_tail 12, (by kernel_rfl)
                  change wpList _ _ _ _ _ W5.drew
                  have HL6 : Hid (RLay W5.drew g Y2 room cur.2 (L.set hd { d with s := { d.s with mark := false } }) (some ⟨b, 0, none⟩) c) := Lib.hid (HL5.out.same (fun k _ => rfl) (Nat.le_refl _))
                  have HK6 := Lib.hid HK5.out.drew
                  clear g1 g2 z4 q4
                  generalize W5.drew = W6 at *
                  have z2 := HL6.out.box.free 2
                  have g2 := HL6.out.facts.2.2
                  obtain ⟨hl7, hk7⟩ := HL6.out.setHand hml
                  have HR7 : Hid (RC (W6.setCell ⟨g, 2, none⟩ (.int .i64 (m : Int))) g Y2 room (cur.1.set cur.2 { d.s with mark := false }, m)) := Lib.hid ⟨_, _, c, hl7, by rw [HSM.out, HE2.out, HHD.out]⟩
                  have HK7 := Lib.hid (HK6.out.trans hk7 fun k hk h4 => (hY2.out k h4).elim id fun h5 => absurd hk (Nat.not_lt_of_le h5))
                  have HF7 : Hid (Fine (cur.1.set cur.2 { d.s with mark := false }, m)) := Lib.hid (by rw [← HNX.out]; exact fine_next (List.length_set ..) (by rw [HLN.out, ← HHD.out]; exact hhl))
                  clear hl7 hk7
                  go_wp2_with fail
                  go_roundw
                  case rel => exact ⟨(cur.1.set cur.2 { d.s with mark := false }, m), Y2, k + 1, false, rfl, by go_num, hkk, HR7, HK7, hY2, HF7, Lib.hid (.inl ⟨rfl, by rw [← HNN.out]; exact (List.length_set ..).trans HLN.out, HSN.out⟩)⟩
                  case measure => simp [intOf]; omega
                | false =>
                  rw [c4] at x4
                  have HSN : Hid (SW = (out cur cur.2, true)) := Lib.hid (by
                    have h1 := sweep_plain (k := 2 * N - (k + 1)) HX.out c3 c4
                    rw [← HB20.out, HSC.out] at h1
                    exact h1)
                  have HO := Lib.hid (rout_any (i := hd) HR3.out (by rw [HLN.out]; exact hhl))
                  clear c3 c3'
                  go_wp2_with (first | (go_at_call 28; refine HO.out.mono ?_; rintro e W7 ⟨rfl, hW7⟩))
                  go_roundw
                  case rel =>
                    obtain ⟨Y7, h1, h2, h3⟩ := hW7
                    rw [HHD.out] at h1
                    exact ⟨out cur cur.2, Y7, k + 1, true, rfl, by go_num, hkk, Lib.hid h1, Lib.hid (HK3.out.trans h2 fun k hk h4 => (hY2.out k h4).elim id fun h5 => absurd hk (Nat.not_lt_of_le h5)), Lib.hid (fun k h4 => (h3 k h4).elim (hY2.out k) fun h5 => .inr (Nat.le_trans HK3.out.size h5)), Lib.hid (fine_out _ _), Lib.hid (.inr ⟨rfl, HSN.out⟩)⟩
                  case measure => simp [intOf]; omega
            · obtain rfl : k = 2 * N := by omega
              have d2 : decide (((2 * N : Nat) : Int) < 2 * (L.length : Int)) = false := decide_eq_false (by omega)
              have HSE : Hid (SW = (cur, false)) := Lib.hid (by rw [← HSC.out, Nat.sub_self]; rfl)
              have HGF : Hid (G = (cur, false)) := Lib.hid (by
                have h1 := make_none HNF.out (by rw [← HN.out, ← HSW.out, HSE.out])
                rw [← HN.out, ← HSW.out, HSE.out] at h1
                rw [← hG.out, ← h1, HN.out])
              go_wp2_with fail
              go_ret
              have hpf : putC room r f a bs = (cur, false) := by rw [HPUT.out, HGF.out]; rfl
              exact ⟨by rw [hpf]; rfl, by rw [hpf]; exact ⟨Y2, hR2.out, hK2.out, hY2.out⟩⟩
end
end Go.Proofs.Ytbeohfmikpbkhaa.Ck
