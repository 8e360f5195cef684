/- Package skip: what Level and All answer. -/
import Derived.Test.YtmnhklfljfglhaaSseek
import Derived.LoopTactic
namespace Go.Proofs.Ytmnhklfljfglhaa.Sk
set_option linter.unusedVariables false
set_option linter.unusedSimpArgs false
open Go.RowKit Lift Ik

/-- Entries in a slice of the call's own. -/
structure Ac (B : Nat) (w : World) (v : Value) (L : List D) : Prop where
  own : w.ownsRow B 36 4 v L.length (cellsL L)
  ok : ∀ d, d ∈ L → d.Ok w (Fresh B w)
section
variable {B : Nat} {w w' : World} {v : Value} {L : List D}
theorem Ac.nil (B : Nat) (w : World) : Ac B w (.slice none 0 0) [] := ⟨World.ownsRow_nil _ _ _ _, by simp⟩
theorem Ac.below (h : Ac B w v L) (hb : Below w.heap.size w w') : Ac B w' v L := ⟨own_later h.own hb, fun d hd => (h.ok d hd).later (fun k hk => hb.block k hk.2.1) fun k hk => Fresh.below hb k hk⟩
/-- One entry more: append(entries, entry). -/
theorem Ac.more (h : Ac B w v L) {d : D} (hd : d.Ok w (Fresh B w)) (hB : B ≤ w.heap.size) (hL : L.length ≤ 1000) :
    ∃ v' w', Sem.run Try.prog (Builtin.append_ #[22, 22] 22 #[v, .slice (some ⟨w.heap.size, 0, none⟩) 1 1]) (w.alloc (ebox d)) = .ok v' w' ∧ Ac B w' v' (L ++ [d]) ∧ Below B w w' := by
  have hb := below_box w d
  have hl : Lies (w.alloc (ebox d)) (w.heap.size + 1) (some ⟨w.heap.size, 0, none⟩) d.cells := lies_block (cs := d.cells.toArray) (heap_alloc_new w _) (Nat.lt_succ_self _)
  have h1 := h.below hb
  obtain ⟨v', w', hr, ho, hon⟩ := run_append_onto (P := Try.prog) (m := 1) (c := 1) 22 22 36 (.agg #[.slice none 0 0, .int .u64 0, .int .i64 0, .slice none 0 0]) 4 64 Try.underlying22 (by kernel_rfl) rfl (by decide)
    (fun u hu => by simp [D.cells] at hu; rcases hu with rfl | rfl | rfl | rfl <;> rfl) h1.own hl rfl (by unfold maxLen; omega) (by omega) (Nat.le_trans hB hb.size)
  have hbel : Below B w w' := (hb.mono hB).trans (hon.below h1.own (Nat.le_trans hB hb.size))
  refine ⟨v', w', hr, ⟨by rw [List.length_append, cellsL_append]; simpa [cellsL] using ho, fun e he => ?_⟩, hbel⟩
  have hk : ∀ k, Fresh B w k → w'.heap[k]? = w.heap[k]? := fun k ⟨_, h2, cs, fr, h3⟩ => by
    rw [hon.keep.block k (Nat.lt_of_lt_of_le h2 hb.size) (fun hv => ?_), hb.block k h2]
    obtain ⟨cs2, fr2, h4⟩ := own_blk h1.own hv
    rw [hb.block k h2, h3] at h4
    injection h4 with h4
    injection h4 with _ h4
    exact absurd h4 (by decide)
  have hf : ∀ k, Fresh B w k → Fresh B w' k := fun k hk2 => by
    obtain ⟨h1, h2, cs, fr, h3⟩ := hk2
    exact ⟨h1, Nat.lt_of_lt_of_le h2 hbel.size, cs, fr, (hk k ⟨h1, h2, cs, fr, h3⟩).trans h3⟩
  rcases List.mem_append.1 he with he | he
  · exact (h.ok e he).later hk hf
  · simp at he
    subst he
    exact hd.later hk hf
/-- Entries are told, in new memory. -/
def Gave (w : World) (ts : List T) (e : Ending) (w' : World) : Prop := ∃ (A : Option Addr) (c : Nat) (L : List D), e = .returned (.slice A L.length c) ∧ L.map D.t = ts ∧ Ents w' (fun k => w.heap.size ≤ k ∧ k < w'.heap.size) A c L ∧ Below w.heap.size w w'
theorem Ac.gave {w0 : World} (h : Ac w0.heap.size w v L) (hb : Below w0.heap.size w0 w) : ∃ (A : Option Addr) (c : Nat), v = .slice A L.length c ∧ Gave w0 (L.map D.t) (.returned v) w := by
  obtain ⟨A, c, rfl, hc, hm, _⟩ := own_parts h.own
  exact ⟨A, c, rfl, A, c, L, rfl, rfl, ⟨(LiesP.of_own h.own).later (fun _ _ => rfl) fun k hk => ⟨hk.1, hk.2.1⟩, hc, hm, fun d hd => (h.ok d hd).mono fun k hk => ⟨hk.1, hk.2.1⟩⟩, hb⟩
end
section
variable {w w' : World} {g : Nat} {S : Nat → Prop} {fs : List Nat} {V : Value} {ns : List N} {z : Nat} {L : List Q} {R : Row}
/-- A walk along a level. -/
theorem Li.walk (h : Li w g S fs V ns z L) {i : Nat} (hi : i < 12) {u v : List Q} (hu : (L.filter fun q => decide (i < q.h)) = u ++ v) :
    nxt fs ns ((u.map Q.a).getLastD 0) i = (v.map Q.a).headD 0 ∧ Spot ns ((u.map Q.a).getLastD 0) i := by
  have e : on i L = u.map Q.a ++ v.map Q.a := by unfold on; rw [hu, List.map_append]
  exact ⟨h.good.next hi e, spot_of h.rel h.good.idx e⟩
theorem levR_L {i : Nat} (L : List Q) : levR (L.map fun q => (q.t, q.h)) i = (L.filter fun q => decide (i < q.h)).map Q.t := by
  unfold levR
  rw [List.filter_map]
  simp [Function.comp_def]
theorem levR_none {R : Row} {i : Nat} (h : ∀ r, r ∈ R → r.2 ≤ 12) (hi : 12 ≤ i) : levR R i = [] := by
  unfold levR
  rw [List.filter_eq_nil_iff.2 fun r hr => by have := h r hr; simp; omega]
  rfl
/-- How much of a level is left. -/
def mes (l : List Nat) (a : Nat) : Nat := if a = 0 then 0 else rest l a
theorem mes_eq {u r : List Q} {q : Q} (hd : ((u ++ q :: r).map Q.a).Nodup) (h0 : ∀ x, x ∈ u ++ q :: r → 1 ≤ x.a) : mes ((u ++ q :: r).map Q.a) q.a = r.length + 1 := by
  have h1 := h0 q (by simp)
  unfold mes
  rw [if_neg (by omega)]
  have e : (u ++ q :: r).map Q.a = (u.map Q.a ++ [q.a]) ++ r.map Q.a := by simp
  rw [e] at hd ⊢
  have h2 := rest_eq hd (fun x hx => by
    rw [← e] at hx
    obtain ⟨y, hy, rfl⟩ := List.mem_map.1 hx
    have := h0 y hy
    omega)
  have e2 : (u.map Q.a ++ [q.a]).getLastD 0 = q.a := by simp [List.getLastD_eq_getLast?]
  rw [e2, List.length_map] at h2
  exact h2
/-- What a level is asked for: none below 0. -/
def levI (R : Row) (i : Int) : List T := if i < 0 then [] else levR R i.toNat
set_option maxRecDepth 100000 in
set_option maxHeartbeats 3200000 in
theorem level_any (i : Int) (h : SL w g S R) (hi : (Lit.int .i64 i).wf = true) :
    Calls Try.prog (17) #[.pointer (some ⟨g, 0, none⟩), .int .i64 i] w (Gave w (levI R i)) := by
  have hlenR := h.len
  obtain ⟨fs, V, ns, L, hl, hR, hok⟩ := h
  have h8 := i64_of hi
  have hh : ∀ r, r ∈ R → r.2 ≤ 12 := fun r hr => by
    rw [hR] at hr
    obtain ⟨q, hq, rfl⟩ := List.mem_map.1 hr
    exact (hl.good.hs q hq).2
  have hnil : Gave w [] (.returned (.slice none 0 0)) w := ⟨none, 0, [], rfl, rfl, Ents.zero _ _, Below.refl _ _⟩
  by_cases h1 : i < 0
  · have E := Lib.hid (show levI R i = [] by unfold levI; rw [if_pos h1])
    have d1 : decide (i < 0) = true := decide_eq_true h1
    have HN := Lib.hid hnil
    clear hl hR hok hh hnil
    go_enter (Try.func17), (Try.ntmps17)
    go_wp2_with fail
    go_ret
    rw [E.out]
    exact HN.out
  · obtain ⟨n, rfl⟩ : ∃ n : Nat, i = (n : Int) := ⟨i.toNat, by omega⟩
    have E0 : levI R (n : Int) = levR R n := by unfold levI; rw [if_neg h1, Int.toNat_natCast]
    have d1 : decide ((n : Int) < 0) = false := decide_eq_false h1
    by_cases h2 : 12 ≤ n
    · have E := Lib.hid (show levI R (n : Int) = [] from E0.trans (levR_none hh h2))
      have d2 : decide ((12 : Int) ≤ (n : Int)) = true := by simp; omega
      have HN := Lib.hid hnil
      clear hl hR hok hh hnil E0
      go_enter (Try.func17), (Try.ntmps17)
      go_wp2_with fail
      go_ret
      rw [E.out]
      exact HN.out
    · have d2 : decide ((12 : Int) ≤ (n : Int)) = false := by simp; omega
      obtain ⟨M, hM⟩ : ∃ M, M = L.filter fun q => decide (n < q.h) := ⟨_, rfl⟩
      have E := Lib.hid (show levI R (n : Int) = M.map Q.t by rw [E0, hR, levR_L, hM])
      have hsub : ∀ q, q ∈ M → q ∈ L := fun q hq => by rw [hM] at hq; exact (List.mem_filter.1 hq).1
      have hML : M.length ≤ 200 := by
        have h3 : M.length ≤ L.length := by rw [hM]; exact List.length_filter_le _ _
        rw [hR, List.length_map] at hlenR
        omega
      have HWK := Lib.hid fun (u v : List Q) (hu : M = u ++ v) => hl.walk (by omega) (i := n) (u := u) (v := v) (by rw [← hM, hu])
      have c0 := hl.lay.first (i := n) (by omega)
      have hw0 := HWK.out [] M rfl
      have e0 : fs.getD n 0 = (M.map Q.a).headD 0 := by
        have : nxt fs ns 0 n = fs.getD n 0 := if_pos rfl
        rw [← this]
        exact hw0.1
      rw [e0] at c0
      have HND : Hid ((M.map Q.a).Nodup ∧ ∀ q, q ∈ M → 1 ≤ q.a) := Lib.hid ⟨by rw [hM]; exact on_nodup hl.good.nod n, fun q hq => hl.good.idx q (hsub q hq)⟩
      have HL := Lib.hid hl
      have HOK : Hid (∀ q, q ∈ M → okT q.t = true) := Lib.hid fun q hq => hok (q.t, q.h) (by rw [hR]; exact List.mem_map.2 ⟨q, hsub q hq, rfl⟩)
      have HNODE : Hid (∀ q, q ∈ M → ∃ m, ns[q.a - 1]? = some m ∧ m.d.t = q.t ∧ 1 ≤ q.a) := Lib.hid fun q hq => by
        obtain ⟨m, m1, m2, _⟩ := hl.rel q (hsub q hq)
        exact ⟨m, m1, m2, hl.good.idx q (hsub q hq)⟩
      obtain ⟨f0, hf0⟩ : ∃ f0, f0 = (M.map Q.a).headD 0 := ⟨_, rfl⟩
      rw [← hf0] at c0
      have HF0 := Lib.hid hf0
      clear hl hR hok hh hnil hM hsub hw0 e0 hf0 E0
      go_enter (Try.func17), (Try.ntmps17)
      go_wp2_with fail
      go_loopw [5, 6] (fun v at' wr => ∃ (a : Nat) (u r : List Q) (D1 : List D), at' = .int .i64 (a : Int) ∧ Hid (M = u ++ r ∧ a = (r.map Q.a).headD 0 ∧ D1.map D.t = u.map Q.t ∧ Ac w.heap.size wr v D1 ∧ Below w.heap.size w wr)) (fun _ at' _ => mes (M.map Q.a) (intOf at').toNat)
      case atStart => exact ⟨f0, [], M, [], rfl, Lib.hid ⟨rfl, HF0.out, rfl, Ac.nil _ _, Below.refl _ _⟩⟩
      case round =>
        obtain ⟨a, u, r, D1, rfl, hr⟩ := hrel
        clear c0
        rcases r with _ | ⟨q, r'⟩
        · obtain ⟨h1, h2, h3, h4, h5⟩ := hr.out
          have ha : a = 0 := h2
          subst ha
          obtain ⟨A5, c5, rfl, hg⟩ := h4.gave h5
          rw [h3, show u = M by rw [h1]; simp, ← E.out] at hg
          have HG := Lib.hid hg
          clear hg h1 h2 h3 h4 h5 hr
          go_wp2_with fail
          go_ret
          exact HG.out
        · obtain ⟨h1, h2, h3, h4, h5⟩ := hr.out
          have ha : a = q.a := h2
          have hqM : q ∈ M := by rw [h1]; simp
          obtain ⟨m, hm1, hm2, hm3⟩ := HNODE.out q hqM
          rw [← ha] at hm1 hm3
          have hlw := HL.out.lay.below h5
          have HE := Lib.hid (entry_at a hlw hm3 hm1)
          have hsm := small_of hm2 (HOK.out q hqM)
          have hokm := (HL.out.lay.ok m (List.mem_of_getElem? hm1)).mono (R' := (· < w.heap.size)) fun k hk => HL.out.lay.lt k hk.1
          have d3 : ((a : Int) != 0) = true := by simp; omega
          have HOM := Lib.hid hokm
          have HSM := Lib.hid hsm
          have H5 := Lib.hid h5
          have H4 := Lib.hid h4
          have HM2 := Lib.hid hm2
          have HAQ := Lib.hid ha
          have H3 := Lib.hid h3
          clear hlw hm1 hm2 hm3 hokm hsm h4 h5 h1 h2 ha h3 hqM
          go_wp2_with fail
          refine HE.out.mono ?_
          rintro e W1 ⟨rfl, hb1⟩
          have HB1 := Lib.hid (H5.out.trans (hb1.mono H5.out.size))
          have HAC1 := Lib.hid (H4.out.below hb1)
          have HC := Lib.hid (sclone_any m.d W1 (HOM.out.next HB1.out) HSM.out)
          clear hb1 HE
          go_wp2_with fail
          refine HC.out.mono ?_
          rintro e W2 ⟨d', rfl, hdt, hdo, hb2⟩
          have ha := HAQ.out
          have h3 := H3.out
          have hB2 := HB1.out.trans (hb2.mono HB1.out.size)
          have hlD : D1.length ≤ 200 := by
            have h6 := congrArg List.length h3
            rw [List.length_map, List.length_map] at h6
            have h7 := congrArg List.length hr.out.1
            rw [List.length_append] at h7
            omega
          obtain ⟨v', W3, hrun, hac3, hb3⟩ := (HAC1.out.below hb2).more (d := d') (hdo.mono fun k hk => Fresh.low HB1.out.size k hk) hB2.size (by omega)
          have hB3 := hB2.trans hb3
          have hwk := HWK.out (u ++ [q]) r' (by rw [hr.out.1]; simp)
          have hga : ((u ++ [q]).map Q.a).getLastD 0 = a := by rw [ha]; simp [List.getLastD_eq_getLast?]
          rw [hga] at hwk
          have HN := Lib.hid (next_any a n (HL.out.lay.below hB3) (by omega) hwk.2)
          have HREL : Hid (M = (u ++ [q]) ++ r' ∧ nxt fs ns a n = (r'.map Q.a).headD 0 ∧ (D1 ++ [d']).map D.t = (u ++ [q]).map Q.t ∧ Ac w.heap.size W3 v' (D1 ++ [d']) ∧ Below w.heap.size w W3) :=
            Lib.hid ⟨by rw [hr.out.1]; simp, hwk.1, by rw [List.map_append, List.map_append, h3]; simp [hdt, HM2.out], hac3, hB3⟩
          have HMES : Hid (mes (M.map Q.a) (nxt fs ns a n) < mes (M.map Q.a) a) := Lib.hid (by
            have e1 := mes_eq (u := u) (r := r') (q := q) (by rw [← hr.out.1]; exact HND.out.1) (by rw [← hr.out.1]; exact HND.out.2)
            rw [← hr.out.1, ← ha] at e1
            rw [e1, hwk.1]
            rcases r' with _ | ⟨q', r''⟩
            · simp [mes]
            · have e2 := mes_eq (u := u ++ [q]) (r := r'') (q := q') (by have := HND.out.1; rw [hr.out.1] at this; simpa using this) (by have := HND.out.2; rw [hr.out.1] at this; simpa using this)
              have e3 : M = (u ++ [q]) ++ q' :: r'' := by rw [hr.out.1]; simp
              rw [← e3] at e2
              show mes (M.map Q.a) q'.a < _
              rw [e2]
              simp)
          have HR := Lib.hid hrun
          clear hdt hdo hb2 hB2 hlD hrun hac3 hb3 hB3 hwk hga HC ha h3 hr
          go_wp2_with (at_builtin; refine wpList_append_run rfl _ _ 22 rfl rfl rfl HR.out ?_)
          refine HN.out.mono ?_
          rintro e w' ⟨rfl, rfl⟩
          go_wp2_with fail
          go_roundw
          case rel => exact ⟨_, u ++ [q], r', D1 ++ [d'], rfl, HREL⟩
          case measure => simpa [intOf] using HMES.out
theorem all_any (h : SL w g S R) : Calls Try.prog (19) #[.pointer (some ⟨g, 0, none⟩)] w (Gave w (R.map (·.1))) := by
  have hl := level_any 0 h (by decide)
  have e : levI R 0 = R.map (·.1) := by
    unfold levI levR
    rw [if_neg (by decide), List.filter_eq_self.2]
    intro r hr
    obtain ⟨fs, V, ns, L, h1, h2, h3⟩ := h
    rw [h2] at hr
    obtain ⟨q, hq, rfl⟩ := List.mem_map.1 hr
    have := (h1.good.hs q hq).1
    simp; omega
  rw [e] at hl
  have HLV := Lib.hid hl
  clear hl h e
  go_enter (Try.func19), (Try.ntmps19)
  go_wp2_with fail
  refine HLV.out.mono ?_
  rintro e w' ⟨A, c, L, rfl, h1⟩
  have H1 := Lib.hid h1
  clear h1
  go_wp2_with fail
  go_ret
  exact ⟨A, c, L, rfl, H1.out⟩
end
end Go.Proofs.Ytmnhklfljfglhaa.Sk
