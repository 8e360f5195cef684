/- Package table: contents, readBlocks, open, All, Index, Check, Get; what the laws share. -/
import Derived.Test.YtobjiamdljjkjaaJe
import Derived.Test.YtobjiamdljjkjaaJb
import Derived.Lib.SlBytesConst
import Derived.Deep.RegionHeld3
import Derived.Deep.QuietTactic
import Derived.BigQuiet
import Derived.LoopTactic
/- Package table: contents, one block more. -/
namespace Go.Proofs.Ytobjiamdljjkjaa.Tb
set_option linter.unusedVariables false
set_option linter.unusedSimpArgs false
open Go.RowKit Lift Ik Sk Vn Bk Bl Sq
/-- Blocks that neither the contents' box nor their entries lie in. -/
def Rq (B : Nat) (w : World) (g : Nat) (va : Value) (k : Nat) : Prop := k < w.heap.size ∧ k ≠ g ∧ ¬ va.ownBlock = some k ∧ B ≤ k
/-- Contents in memory. -/
structure Cb (B : Nat) (w : World) (g : Nat) (va xv : Value) (La : List D) (s e : Nat) : Prop where
  box : Lift.Box w g 89 [va, xv, .int .i64 (s : Int), .int .i64 (e : Int)]
  own : w.ownsRow B 48 4 va La.length (cellsL La)
  ok : ∀ d, d ∈ La → d.Ok w (Rq B w g va)
  base : B ≤ w.heap.size
section
variable {B g s e : Nat} {w w' : World} {va va' xv : Value} {La Lp : List D} {Ap : Option Addr} {cp : Nat}
theorem Rq.below (hb : Below w.heap.size w w') (k : Nat) (h : Rq B w g va k) : Rq B w' g va k := ⟨Nat.lt_of_lt_of_le h.1 hb.size, h.2⟩
theorem Cb.below (h : Cb B w g va xv La s e) (hb : Below w.heap.size w w') : Cb B w' g va xv La s e :=
  ⟨h.box.below hb h.box.lt, own_later h.own hb, fun d hd => (h.ok d hd).later (fun k hk => hb.block k hk.1) (Rq.below hb), Nat.le_trans h.base hb.size⟩
theorem Cb.off (h : Cb B w g va xv La s e) : ¬ va.ownBlock = some g := own_apart h.own h.box (by decide)
theorem Cb.set2 (h : Cb B w g va xv La s e) (n : Nat) : Cb B (w.setCell ⟨g, 2, none⟩ (.int .i64 (n : Int))) g va xv La n e := by
  have hk : ∀ k, k ≠ g → (w.setCell ⟨g, 2, none⟩ (.int .i64 (n : Int))).heap[k]? = w.heap[k]? := fun k hk => Below.heap_setCell _ _ _ _ hk
  have hs : (w.setCell ⟨g, 2, none⟩ (.int .i64 (n : Int))).heap.size = w.heap.size := by simp
  exact ⟨h.box.set 2 _, own_same h.own (fun k hk2 => hk k fun he => h.off (he ▸ hk2)), fun d hd => (h.ok d hd).later (fun k hk2 => hk k hk2.2.1) fun k hk2 => ⟨by rw [hs]; exact hk2.1, hk2.2⟩, by rw [hs]; exact h.base⟩
theorem Cb.set3 (h : Cb B w g va xv La s e) (n : Nat) : Cb B (w.setCell ⟨g, 3, none⟩ (.int .i64 (n : Int))) g va xv La s n := by
  have hk : ∀ k, k ≠ g → (w.setCell ⟨g, 3, none⟩ (.int .i64 (n : Int))).heap[k]? = w.heap[k]? := fun k hk => Below.heap_setCell _ _ _ _ hk
  have hs : (w.setCell ⟨g, 3, none⟩ (.int .i64 (n : Int))).heap.size = w.heap.size := by simp
  exact ⟨h.box.set 3 _, own_same h.own (fun k hk2 => hk k fun he => h.off (he ▸ hk2)), fun d hd => (h.ok d hd).later (fun k hk2 => hk k hk2.2.1) fun k hk2 => ⟨by rw [hs]; exact hk2.1, hk2.2⟩, by rw [hs]; exact h.base⟩
/-- Entries more, told in the box. -/
theorem Cb.more (h : Cb B w g va xv La s e) (hL : Ents w (Rq B w g va) Ap cp Lp) (hn : La.length + Lp.length ≤ 100000000) :
    ∃ va' w', Sem.run Try.prog (Builtin.append_ #[22, 22] 22 #[va, .slice Ap Lp.length cp]) w = .ok va' w' ∧ Lift.Box w' g 89 [va, xv, .int .i64 (s : Int), .int .i64 (e : Int)] ∧
      Cb B (w'.setCell ⟨g, 0, none⟩ va') g va' xv (La ++ Lp) s e ∧ Ents (w'.setCell ⟨g, 0, none⟩ va') (Rq B (w'.setCell ⟨g, 0, none⟩ va') g va') Ap cp Lp ∧ Keep (fun k => k = g ∨ va.ownBlock = some k) w (w'.setCell ⟨g, 0, none⟩ va') ∧ (∀ k, va'.ownBlock = some k → va.ownBlock = some k ∨ w.heap.size ≤ k) ∧
      ∃ A c, va' = .slice A (La ++ Lp).length c := by
  obtain ⟨va', w', hr, ho, hon⟩ := run_append_onto (P := Try.prog) (m := Lp.length) (c := cp) 22 22 48 (.agg #[.slice none 0 0, .int .u64 0, .int .i64 0, .slice none 0 0]) 4 64 Try.underlying22 (by kernel_rfl) rfl (by decide)
    (fun u hu => cellsL_one u hu) h.own (LiesP.lies hL.lies (fun k hk => hk.1)) (cellsL_length Lp) (by unfold maxLen; omega) (by omega) h.base
  have hbx : Lift.Box w' g 89 [va, xv, .int .i64 (s : Int), .int .i64 (e : Int)] := h.box.keep hon.keep h.off
  obtain ⟨A, c, hva, -, -, -⟩ := own_parts ho
  have hs : (w'.setCell ⟨g, 0, none⟩ va').heap.size = w'.heap.size := by simp
  have hk0 : ∀ k, k ≠ g → (w'.setCell ⟨g, 0, none⟩ va').heap[k]? = w'.heap[k]? := fun k hk => Below.heap_setCell _ _ _ _ hk
  have hoff : ¬ va'.ownBlock = some g := fun hv => by
    rcases hon.place g hv with h4 | h4
    · exact h.off h4
    · exact absurd h.box.lt (Nat.not_lt_of_le h4)
  have hk : ∀ k, Rq B w g va k → (w'.setCell ⟨g, 0, none⟩ va').heap[k]? = w.heap[k]? := fun k hk => (hk0 k hk.2.1).trans (hon.keep.block k hk.1 hk.2.2.1)
  have hR : ∀ k, Rq B w g va k → Rq B (w'.setCell ⟨g, 0, none⟩ va') g va' k := fun k hk2 => ⟨by rw [hs]; exact Nat.lt_of_lt_of_le hk2.1 hon.keep.size, hk2.2.1, fun hv => by
    rcases hon.place k hv with h4 | h4
    · exact hk2.2.2.1 h4
    · exact absurd hk2.1 (Nat.not_lt_of_le h4), hk2.2.2.2⟩
  refine ⟨va', w', hr, hbx, ⟨hbx.set 0 va', ?_, fun d hd => ?_, by rw [hs]; exact Nat.le_trans h.base hon.keep.size⟩, hL.later hk hR, ?_, hon.place, A, c, by rw [hva, List.length_append]⟩
  · rw [List.length_append, cellsL_append]
    exact own_same ho fun k hk2 => hk0 k fun he => hoff (he ▸ hk2)
  · rcases List.mem_append.1 hd with h5 | h5
    · exact (h.ok d h5).later hk hR
    · exact (hL.ok d h5).later hk hR
  · exact (hon.keep.mono fun k hk => .inr hk).setCell (p := ⟨g, 0, none⟩) (.inr (.inl rfl)) _
end
theorem cut_last {L : List D} {m : Nat} (h : L.length = m + 1) : weigh ((L.map D.t).take m) = weigh (L.map D.t).dropLast := by
  rw [List.dropLast_eq_take, List.length_map, h]
  rfl
/-- What add makes of contents. -/
def addL (La Lp : List D) : List D := if La.length ≤ 10000 then La ++ Lp else La
set_option maxRecDepth 100000 in
set_option maxHeartbeats 3200000 in
theorem oadd_any (B g s e ev cp : Nat) (va xv : Value) (La Lp : List D) (Ap : Option Addr) (w : World) (h : Cb B w g va xv La s e) (hL : Ents w (Rq B w g va) Ap cp Lp) (hne : Lp ≠ []) (hn : Lp.length ≤ 10000) (hna : La.length ≤ 20000)
    (hok : ∀ d, d ∈ Lp → okT d.t = true) (hs : s ≤ 100000000) (he : e ≤ 100000000) (hev : ev ≤ 100000000) :
    Calls Try.prog 113 #[.pointer (some ⟨g, 0, none⟩), .slice Ap Lp.length cp, .int .i64 (ev : Int)] w fun r w' => r = .returned (.tuple #[]) ∧ ∃ va', Cb B w' g va' xv (addL La Lp) (max s (weigh (Lp.map D.t).dropLast + 1)) (max e ev) ∧
      Keep (fun k => k = g ∨ va.ownBlock = some k) w w' ∧ ∀ k, va'.ownBlock = some k → va.ownBlock = some k ∨ w.heap.size ≤ k := by
  obtain ⟨Aa, ca, hva, -, hma, -⟩ := own_parts h.own
  subst hva
  obtain ⟨m, hm⟩ : ∃ m, Lp.length = m + 1 := ⟨Lp.length - 1, by have := List.length_pos_iff.2 hne; omega⟩
  have HM := Lib.hid hm
  have HOK := Lib.hid hok
  have hcp := hL.len
  have hmp := hL.cap
  have HCUT := Lib.hid (fun (W : World) => cut_ents Ap (m + 1) cp m (by omega) (by omega) hmp W)
  unfold maxLen at hmp hma
  have HWL := Lib.hid (cut_last hm)
  have HEW : Hid ((((weigh (Lp.map D.t).dropLast + 1 : Nat)) : Int) = 1 + (weigh (Lp.map D.t).dropLast : Int)) := Lib.hid (by omega)
  have hbx := h.box
  have q0 : w.cell? ⟨g, 0, none⟩ = some (.slice Aa La.length ca) := hbx.cell 0
  have em : ((m + 1 : Nat) : Int) - 1 = (m : Int) := by omega
  have hmn : m ≤ 10000 := by omega
  clear hbx hne
  by_cases hfew : La.length ≤ 10000
  · have d1 : decide ((La.length : Int) ≤ 10000) = true := decide_eq_true (by omega)
    have d1' : decide (La.length ≤ 10000) = true := decide_eq_true hfew
    have HAL : Hid (addL La Lp = La ++ Lp) := Lib.hid (if_pos hfew)
    obtain ⟨va1, w1, hr, hbx1, hC1, hL1, hK1, hp1, A1, c1, hv1⟩ := h.more hL (by omega)
    have HR := Lib.hid hr
    have hb0 : w1.cell? ⟨g, 0, none⟩ = some (.slice Aa La.length ca) := hbx1.cell 0
    have hf0 : w1.frozen? ⟨g, 0, none⟩ = false := hbx1.free 0
    have HC1 := Lib.hid hC1
    have HL1 := Lib.hid hL1
    have HK1 := Lib.hid hK1
    have HP1 := Lib.hid hp1
    obtain ⟨q, hq⟩ : ∃ q, q = (La ++ Lp).length := ⟨_, rfl⟩
    rw [← hq] at hv1
    subst hv1
    rw [hm] at HR
    rw [hm]
    clear hr hbx1 hC1 hL1 hK1 hp1 hfew h hL hok hm hq
    go_enter Try.func113, Try.ntmps113
    go_upto_region 2 with (at_builtin; refine wpList_append_run rfl _ _ 22 rfl rfl rfl HR.out ?_)
    generalize w1.setCell ⟨g, 0, none⟩ (.slice A1 q c1) = W1 at *
    clear hb0 hf0 q0 HR d1 d1'
    have hcut := HCUT.out
    go_wp2_with fail
    go_loopw [6, 30] (fun sz i wr => ∃ j n : Nat, j ≤ m ∧ i = .int .i64 (j : Int) ∧ sz = .int .i64 (n : Int) ∧ n ≤ 1 + 6000 * j ∧ Hid (n = weigh ((Lp.map D.t).take j) + 1) ∧ Hid (Below W1.heap.size W1 wr)) (fun _ i _ => m + 1 - (intOf i).toNat)
    case atStart => exact ⟨0, 1, Nat.zero_le _, rfl, rfl, by omega, Lib.hid (by simp [weigh]), Lib.hid (Below.refl _ _)⟩
    case round =>
      obtain ⟨j, n, hj, rfl, rfl, hn6, hwt, hb⟩ := hrel
      by_cases hlt : j < m
      · obtain ⟨d, hd⟩ : ∃ d, Lp[j]? = some d := ⟨_, List.getElem?_eq_getElem (by rw [HM.out]; omega)⟩
        have hE := ((HL1.out.mono (R' := (· < W1.heap.size)) fun k hk => hk.1).next hb.out)
        obtain ⟨ad, p, hA, hp, hq⟩ := place4 hE hd
        subst hA
        obtain ⟨o1, o2⟩ := okT_len (HOK.out d (List.mem_of_getElem? hd))
        have hwt2 : wgt d.t ≤ 5400 := by show d.k.key.length + 8 + d.val.length ≤ 5400; omega
        have HN : Hid (n + wgt d.t = weigh ((Lp.map D.t).take (j + 1)) + 1) := Lib.hid (by
          rw [take_next (show (Lp.map D.t)[j]? = some d.t by rw [List.getElem?_map, hd]; rfl), weigh_snoc, hwt.out]; omega)
        have hld := hq.load
        obtain ⟨-, q0, q1, q2, q3⟩ := hq
        have hbx0 : Below wr.heap.size wr (wr.alloc (ebox d)) := below_box wr d
        have HWT := Lib.hid (oweight_any d (wr.alloc (ebox d)) ((hE.next hbx0).ok d (List.mem_of_getElem? hd)) (HOK.out d (List.mem_of_getElem? hd)))
        have HB0 := Lib.hid (hb.out.trans (hbx0.mono hb.out.size))
        obtain ⟨x0, x1, x2, x3, -⟩ := (Bx.new wr d).facts
        have hlx := D.load (p := ⟨wr.heap.size, 0, none⟩) (d := d) x0 x1 x2 x3
        obtain ⟨Y, hY⟩ : ∃ Y, Y = wgt d.t := ⟨_, rfl⟩
        rw [← hY] at hwt2 HWT HN
        clear hd hE hbx0 hwt hY
        go_wp2_with fail
        refine HWT.out.mono ?_
        rintro e2 W3 ⟨rfl, hb3⟩
        have HB3 := Lib.hid (HB0.out.trans (hb3.mono HB0.out.size))
        clear hb3 HWT x0 x1 x2 x3 hlx q0 q1 q2 q3 hld hp
        go_wp2_with fail
        go_roundw
        case rel => exact ⟨j + 1, n + Y, by omega, by go_num, by go_num, by omega, HN, HB3⟩
        case measure => simp [intOf]; omega
      · obtain rfl : j = m := by omega
        have HN : Hid (n = weigh (Lp.map D.t).dropLast + 1) := Lib.hid (by rw [hwt.out, HWL.out])
        have hC := HC1.out.below hb.out
        have c2 : wr.cell? ⟨g, 2, none⟩ = some (.int .i64 (s : Int)) := hC.box.cell 2
        have c3 : wr.cell? ⟨g, 3, none⟩ = some (.int .i64 (e : Int)) := hC.box.cell 3
        have f2 : wr.frozen? ⟨g, 2, none⟩ = false := hC.box.free 2
        have f3 : wr.frozen? ⟨g, 3, none⟩ = false := hC.box.free 3
        obtain ⟨S, hS⟩ : ∃ S : Nat, S = max s n := ⟨_, rfl⟩
        obtain ⟨T, hT⟩ : ∃ T : Nat, T = max e ev := ⟨_, rfl⟩
        have hS' : max (s : Int) (n : Int) = (S : Int) := by omega
        have hT' : max (e : Int) (ev : Int) = (T : Int) := by omega
        have HF : Hid (Cb B ((wr.setCell ⟨g, 2, none⟩ (.int .i64 (S : Int))).setCell ⟨g, 3, none⟩ (.int .i64 (T : Int))) g (.slice A1 q c1) xv (addL La Lp) (max s (weigh (Lp.map D.t).dropLast + 1)) (max e ev)) := Lib.hid (by
          rw [← HN.out, ← hS, ← hT, HAL.out]
          exact (hC.set2 S).set3 T)
        have hkk : Keep (fun k => k = g ∨ (Value.slice Aa La.length ca).ownBlock = some k) w wr := HK1.out.trans (T := fun k => k = g ∨ (Value.slice Aa La.length ca).ownBlock = some k) (below_keep hb.out) fun _ _ h => h
        have HKF : Hid (Keep (fun k => k = g ∨ (Value.slice Aa La.length ca).ownBlock = some k) w ((wr.setCell ⟨g, 2, none⟩ (.int .i64 (S : Int))).setCell ⟨g, 3, none⟩ (.int .i64 (T : Int)))) := Lib.hid ((hkk.setCell (p := ⟨g, 2, none⟩) (.inr (.inl rfl)) _).setCell (p := ⟨g, 3, none⟩) (.inr (.inl rfl)) _)
        clear hwt hC hS hT hkk
        go_wp2_with fail
        go_end0
        exact ⟨rfl, _, HF.out, HKF.out, HP1.out⟩
  · have d1 : decide ((La.length : Int) ≤ 10000) = false := decide_eq_false (by omega)
    have d1' : decide (La.length ≤ 10000) = false := decide_eq_false hfew
    have HAL : Hid (addL La Lp = La) := Lib.hid (if_neg hfew)
    have HC1 := Lib.hid h
    have HL1 := Lib.hid hL
    have HK1 : Hid (Keep (fun k => k = g ∨ (Value.slice Aa La.length ca).ownBlock = some k) w w) := Lib.hid (Keep.refl _ _)
    have HP1 : Hid (∀ k, (Value.slice Aa La.length ca).ownBlock = some k → (Value.slice Aa La.length ca).ownBlock = some k ∨ w.heap.size ≤ k) := Lib.hid fun k hk => .inl hk
    rw [hm]
    clear hfew h hL hok hm
    go_enter Try.func113, Try.ntmps113
    go_upto_region 2 with fail
    clear q0 d1 d1'
    have hcut := HCUT.out
    go_wp2_with fail
    go_loopw [6, 30] (fun sz i wr => ∃ j n : Nat, j ≤ m ∧ i = .int .i64 (j : Int) ∧ sz = .int .i64 (n : Int) ∧ n ≤ 1 + 6000 * j ∧ Hid (n = weigh ((Lp.map D.t).take j) + 1) ∧ Hid (Below w.heap.size w wr)) (fun _ i _ => m + 1 - (intOf i).toNat)
    case atStart => exact ⟨0, 1, Nat.zero_le _, rfl, rfl, by omega, Lib.hid (by simp [weigh]), Lib.hid (Below.refl _ _)⟩
    case round =>
      obtain ⟨j, n, hj, rfl, rfl, hn6, hwt, hb⟩ := hrel
      by_cases hlt : j < m
      · obtain ⟨d, hd⟩ : ∃ d, Lp[j]? = some d := ⟨_, List.getElem?_eq_getElem (by rw [HM.out]; omega)⟩
        have hE := ((HL1.out.mono (R' := (· < w.heap.size)) fun k hk => hk.1).next hb.out)
        obtain ⟨ad, p, hA, hp, hq⟩ := place4 hE hd
        subst hA
        obtain ⟨o1, o2⟩ := okT_len (HOK.out d (List.mem_of_getElem? hd))
        have hwt2 : wgt d.t ≤ 5400 := by show d.k.key.length + 8 + d.val.length ≤ 5400; omega
        have HN : Hid (n + wgt d.t = weigh ((Lp.map D.t).take (j + 1)) + 1) := Lib.hid (by
          rw [take_next (show (Lp.map D.t)[j]? = some d.t by rw [List.getElem?_map, hd]; rfl), weigh_snoc, hwt.out]; omega)
        have hld := hq.load
        obtain ⟨-, q0, q1, q2, q3⟩ := hq
        have hbx0 : Below wr.heap.size wr (wr.alloc (ebox d)) := below_box wr d
        have HWT := Lib.hid (oweight_any d (wr.alloc (ebox d)) ((hE.next hbx0).ok d (List.mem_of_getElem? hd)) (HOK.out d (List.mem_of_getElem? hd)))
        have HB0 := Lib.hid (hb.out.trans (hbx0.mono hb.out.size))
        obtain ⟨x0, x1, x2, x3, -⟩ := (Bx.new wr d).facts
        have hlx := D.load (p := ⟨wr.heap.size, 0, none⟩) (d := d) x0 x1 x2 x3
        obtain ⟨Y, hY⟩ : ∃ Y, Y = wgt d.t := ⟨_, rfl⟩
        rw [← hY] at hwt2 HWT HN
        clear hd hE hbx0 hwt hY
        go_wp2_with fail
        refine HWT.out.mono ?_
        rintro e2 W3 ⟨rfl, hb3⟩
        have HB3 := Lib.hid (HB0.out.trans (hb3.mono HB0.out.size))
        clear hb3 HWT x0 x1 x2 x3 hlx q0 q1 q2 q3 hld hp
        go_wp2_with fail
        go_roundw
        case rel => exact ⟨j + 1, n + Y, by omega, by go_num, by go_num, by omega, HN, HB3⟩
        case measure => simp [intOf]; omega
      · obtain rfl : j = m := by omega
        have HN : Hid (n = weigh (Lp.map D.t).dropLast + 1) := Lib.hid (by rw [hwt.out, HWL.out])
        have hC := HC1.out.below hb.out
        have c2 : wr.cell? ⟨g, 2, none⟩ = some (.int .i64 (s : Int)) := hC.box.cell 2
        have c3 : wr.cell? ⟨g, 3, none⟩ = some (.int .i64 (e : Int)) := hC.box.cell 3
        have f2 : wr.frozen? ⟨g, 2, none⟩ = false := hC.box.free 2
        have f3 : wr.frozen? ⟨g, 3, none⟩ = false := hC.box.free 3
        obtain ⟨S, hS⟩ : ∃ S : Nat, S = max s n := ⟨_, rfl⟩
        obtain ⟨T, hT⟩ : ∃ T : Nat, T = max e ev := ⟨_, rfl⟩
        have hS' : max (s : Int) (n : Int) = (S : Int) := by omega
        have hT' : max (e : Int) (ev : Int) = (T : Int) := by omega
        have HF : Hid (Cb B ((wr.setCell ⟨g, 2, none⟩ (.int .i64 (S : Int))).setCell ⟨g, 3, none⟩ (.int .i64 (T : Int))) g (.slice Aa La.length ca) xv (addL La Lp) (max s (weigh (Lp.map D.t).dropLast + 1)) (max e ev)) := Lib.hid (by
          rw [← HN.out, ← hS, ← hT, HAL.out]
          exact (hC.set2 S).set3 T)
        have hkk : Keep (fun k => k = g ∨ (Value.slice Aa La.length ca).ownBlock = some k) w wr := HK1.out.trans (T := fun k => k = g ∨ (Value.slice Aa La.length ca).ownBlock = some k) (below_keep hb.out) fun _ _ h => h
        have HKF : Hid (Keep (fun k => k = g ∨ (Value.slice Aa La.length ca).ownBlock = some k) w ((wr.setCell ⟨g, 2, none⟩ (.int .i64 (S : Int))).setCell ⟨g, 3, none⟩ (.int .i64 (T : Int)))) := Lib.hid ((hkk.setCell (p := ⟨g, 2, none⟩) (.inr (.inl rfl)) _).setCell (p := ⟨g, 3, none⟩) (.inr (.inl rfl)) _)
        clear hwt hC hS hT hkk
        go_wp2_with fail
        go_end0
        exact ⟨rfl, _, HF.out, HKF.out, HP1.out⟩
end Go.Proofs.Ytobjiamdljjkjaa.Tb

/- Package table: whether contents make bytes. -/
namespace Go.Proofs.Ytobjiamdljjkjaa.Tb
set_option linter.unusedVariables false
set_option linter.unusedSimpArgs false
open Go.RowKit Lift Ik Sk Vn Bk Bl Sq
/-- The cells of contents. -/
def Ct (w : World) (g : Nat) (a0 a1 a2 a3 : Value) : Prop := g < w.heap.size ∧ w.cell? ⟨g, 0, none⟩ = some a0 ∧ w.cell? ⟨g, 1, none⟩ = some a1 ∧ w.cell? ⟨g, 2, none⟩ = some a2 ∧ w.cell? ⟨g, 3, none⟩ = some a3
theorem Ct.of {w : World} {g : Nat} {a0 a1 a2 a3 : Value} (h : Lift.Box w g 89 [a0, a1, a2, a3]) : Ct w g a0 a1 a2 a3 := ⟨h.lt, h.cell 0, h.cell 1, h.cell 2, h.cell 3⟩
theorem Ct.keep {w W : World} {g : Nat} {a0 a1 a2 a3 : Value} (h : Ct w g a0 a1 a2 a3) (hb : Below w.heap.size w W) : W.cell? ⟨g, 0, none⟩ = some a0 ∧ W.cell? ⟨g, 1, none⟩ = some a1 ∧ W.cell? ⟨g, 2, none⟩ = some a2 ∧ W.cell? ⟨g, 3, none⟩ = some a3 := by
  obtain ⟨h0, h1, h2, h3, h4⟩ := h
  exact ⟨(hb.cell (p := ⟨g, 0, none⟩) h0).trans h1, (hb.cell (p := ⟨g, 1, none⟩) h0).trans h2, (hb.cell (p := ⟨g, 2, none⟩) h0).trans h3, (hb.cell (p := ⟨g, 3, none⟩) h0).trans h4⟩
theorem tabF_byte {size every : Nat} {F : List Nat} {ts : List T} (hm : may ts = 0) (h : ∀ t, t ∈ ts → TOk t) (f8 : ∀ x, x ∈ F → x < 256) : ∀ x, x ∈ tabF size every F ts → x < 256 := by
  have hfl : (parts size [] ts).flatten = ts := by rw [parts_flat, List.nil_append]
  have hne := parts_some size ts []
  obtain ⟨hok, -, hn⟩ := may_zero hm
  have hdl := data_le (every := every) (parts size [] ts) hne (by rw [hfl]; exact hok)
  rw [hfl] at hdl
  intro x hx
  unfold tabF at hx
  dsimp only at hx
  rcases List.mem_append.1 hx with h1 | h1
  · exact dataT_byte every _ (by rw [hfl]; exact h) x h1
  · rcases List.mem_append.1 h1 with h1 | h1
    · exact f8 x h1
    · rcases List.mem_append.1 h1 with h1 | h1
      · exact blkT_byte (idx_ok _ 0 hne (by rw [hfl]; exact h) (by omega)) x h1
      · rcases List.mem_append.1 h1 with h1 | h1
        · exact tail5_byte _ _ _ _ _ x h1
        · exact sum4_byte _ x h1
theorem tabF_len {size every : Nat} {F : List Nat} {ts : List T} (hm : may ts = 0) (hf : F.length ≤ 20000000) : (tabF size every F ts).length ≤ 1000000000 := by
  have hfl : (parts size [] ts).flatten = ts := by rw [parts_flat, List.nil_append]
  have hne := parts_some size ts []
  obtain ⟨hok, -, hn⟩ := may_zero hm
  have hdl := data_le (every := every) (parts size [] ts) hne (by rw [hfl]; exact hok)
  rw [hfl] at hdl
  have hpl := flat_len _ hne
  rw [hfl] at hpl
  have hx := blk_le (every := 1) (ts := idx every 0 (parts size [] ts)) (fun x hx => by
    obtain ⟨p, a, n, h2, rfl⟩ := idx_mem _ 0 x hx
    exact ptr_okT (hok _ (by rw [← hfl]; exact List.mem_flatten.2 ⟨p, h2, lastT_mem (hne p h2)⟩)))
  rw [idx_len] at hx
  unfold tabF
  dsimp only
  rw [List.length_append, List.length_append, List.length_append, List.length_append, tail5_len, sum4_len]
  omega
set_option maxRecDepth 100000 in
set_option maxHeartbeats 3200000 in
theorem omakes_any (g s e : Nat) (Aa Ab Af : Option Addr) (ca cb cf : Nat) (xv : Value) (La : List D) (bs F : List Nat) (w : World) (hbx : Lift.Box w g 89 [.slice Aa La.length ca, xv, .int .i64 (s : Int), .int .i64 (e : Int)])
    (hE : Ents w (· < w.heap.size) Aa ca La) (hn : La.length ≤ 1000000) (hb : Lies w w.heap.size Ab (bs.map vb)) (b8 : ∀ x, x ∈ bs → x < 256) (hf : Lies w w.heap.size Af (F.map vb)) (hcf : F.length ≤ cf) (hmf : cf ≤ maxLen) (f8 : ∀ x, x ∈ F → x < 256) (hfn : F.length ≤ 20000000) :
    Calls Try.prog 90 #[.pointer (some ⟨g, 0, none⟩), .slice Ab bs.length cb, .slice Af F.length cf] w
      (Says w (mayT (La.map D.t) = 0 ∧ filB (users none (La.map D.t)) F ∧ tabF (clampS (s : Int)) (clamp (e : Int)) F (La.map D.t) = bs)) := by
  have HX := Lib.hid (Ct.of hbx)
  have HE := Lib.hid hE
  have HBB := Lib.hid hb
  have B8 := Lib.hid b8
  have HFF := Lib.hid hf
  have F8 := Lib.hid f8
  have HMF := Lib.hid hmf
  have HCH := Lib.hid (fun (W : World) (hbw : Below w.heap.size w W) => ochkt_any Aa ca La W (hE.next hbw) hn)
  have hml := mayT_le (La.map D.t)
  by_cases hmt : mayT (La.map D.t) = 0
  · have HMT := Lib.hid hmt
    have HMK : Hid ((mayT (La.map D.t) = 0 ∧ filB (users none (La.map D.t)) F ∧ tabF (clampS (s : Int)) (clamp (e : Int)) F (La.map D.t) = bs) ↔ (filB (users none (La.map D.t)) F ∧ tabF (clampS (s : Int)) (clamp (e : Int)) F (La.map D.t) = bs)) := Lib.hid ⟨fun h => h.2, fun h => ⟨hmt, h⟩⟩
    have HTB := Lib.hid (tabF_byte (size := clampS (s : Int)) (every := clamp (e : Int)) (F := F) (mayT_zero hmt).1 (fun t ht => by
      obtain ⟨d, hd, rfl⟩ := List.mem_map.1 ht
      exact ⟨(may_zero (mayT_zero hmt).1).1 _ (List.mem_map.2 ⟨d, hd, rfl⟩), (hE.ok d hd).ok, (hE.ok d hd).v8⟩) f8)
    rw [hmt] at HCH
    clear hbx hE hb b8 hf f8 hmf hmt hml
    go_enter Try.func90, Try.ntmps90
    go_upto_region 1 with fail
    refine wp_region_held_drew (S := fun w' => Hid (Below w.heap.size w w')) (by kernel_rfl) (Lib.hid (Below.refl _ _).drew) (fun hS => ?_)
    refine wpAnyH_take (i := 0) (v := ?_) rfl (by kernel_rfl) (by kernel_rfl) (by kernel_rfl) (fun _ _ _ h => h) (Or.inl ⟨by rfl, ?_⟩) hS ?_
    rotate_left
    · intro wi hw
      go_simp
      try with_reducible rfl
    try simp only [Act.put, List.getElem_toArray, List.getElem_cons_succ, List.getElem_cons_zero, List.setIfInBounds_toArray, List.set_cons_zero, List.set_cons_succ]
    refine wpAnyH_take (i := 1) (v := ?_) rfl (by kernel_rfl) (by kernel_rfl) (by kernel_rfl) (fun _ _ _ h => h) (Or.inl ⟨by rfl, ?_⟩) hS ?_
    rotate_left
    · intro wi hw
      go_simp
      try with_reducible rfl
    try simp only [Act.put, List.getElem_toArray, List.getElem_cons_succ, List.getElem_cons_zero, List.setIfInBounds_toArray, List.set_cons_zero, List.set_cons_succ]
    refine wpAnyH_take (i := 2) (v := ?_) rfl (by kernel_rfl) (by kernel_rfl) (by kernel_rfl) (fun _ _ _ h => h) (Or.inl ⟨by rfl, ?_⟩) hS ?_
    rotate_left
    · intro wi hw
      go_simp
      try with_reducible rfl
    try simp only [Act.put, List.getElem_toArray, List.getElem_cons_succ, List.getElem_cons_zero, List.setIfInBounds_toArray, List.set_cons_zero, List.set_cons_succ]
    refine wpAnyH_take (i := 3) (v := ?_) rfl (by kernel_rfl) (by kernel_rfl) (by kernel_rfl) (fun _ _ _ h => h) (Or.inl ⟨by rfl, ?_⟩) hS ?_
    rotate_left
    · intro wi hw
      obtain ⟨x0, x1, x2, x3⟩ := HX.out.keep (hw.out)
      go_simp
      try with_reducible rfl
    try simp only [Act.put, List.getElem_toArray, List.getElem_cons_succ, List.getElem_cons_zero, List.setIfInBounds_toArray, List.set_cons_zero, List.set_cons_succ]
    refine wpAnyH_ready (rs := [4]) (by kernel_rfl) (by simp) ?_
    refine AllReadyH.cons rfl (fun K hK => ?_) AllReadyH.nil
    go_simp
    refine (HCH.out _ hS.out).mono ?_
    rintro e9 W1 ⟨rfl, hb1⟩
    have HB1 : Hid (Below w.heap.size w W1) := Lib.hid (hS.out.trans (hb1.mono hS.out.size))
    clear hb1
    go_wp2_with fail
    refine hK.out _ _ HB1 (fun _ => ?_)
    clear hK K hS
    refine wpAnyH_other (S' := fun w' => Hid (Below W1.heap.size W1 w')) (fun w hw => Lib.hid (HB1.out.trans (hw.out.mono HB1.out.size))) _ _ _ _ ?_
    have hS : Hid (Below W1.heap.size W1 W1) := Lib.hid (Below.refl _ _)
    try simp only [Act.put, List.getElem_toArray, List.getElem_cons_succ, List.getElem_cons_zero, List.setIfInBounds_toArray, List.set_cons_zero, List.set_cons_succ]
    refine wpAnyH_take (i := 5) (v := ?_) rfl (by kernel_rfl) (by kernel_rfl) (by kernel_rfl) (fun _ _ _ h => h) (Or.inl ⟨by rfl, ?_⟩) hS ?_
    rotate_left
    · intro wi hw
      go_simp
      try with_reducible rfl
    try simp only [Act.put, List.getElem_toArray, List.getElem_cons_succ, List.getElem_cons_zero, List.setIfInBounds_toArray, List.set_cons_zero, List.set_cons_succ]
    refine wpAnyH_take (i := 6) (v := ?_) rfl (by kernel_rfl) (by kernel_rfl) (by kernel_rfl) (fun _ _ _ h => h) (Or.inl ⟨by rfl, ?_⟩) hS ?_
    rotate_left
    · intro wi hw
      go_simp
      try with_reducible rfl
    try simp only [Act.put, List.getElem_toArray, List.getElem_cons_succ, List.getElem_cons_zero, List.setIfInBounds_toArray, List.set_cons_zero, List.set_cons_succ]
    refine wpAnyH_take (i := 7) (v := ?_) rfl (by kernel_rfl) (by kernel_rfl) (by kernel_rfl) (fun _ _ _ h => h) (Or.inl ⟨by rfl, ?_⟩) hS ?_
    rotate_left
    · intro wi hw
      go_simp
      try with_reducible rfl
    try simp only [Act.put, List.getElem_toArray, List.getElem_cons_succ, List.getElem_cons_zero, List.setIfInBounds_toArray, List.set_cons_zero, List.set_cons_succ]
    refine wpAnyH_take (i := 8) (v := ?_) rfl (by kernel_rfl) (by kernel_rfl) (by kernel_rfl) (fun _ _ _ h => h) (Or.inl ⟨by rfl, ?_⟩) hS ?_
    rotate_left
    · intro wi hw
      go_simp
      try with_reducible rfl
    try simp only [Act.put, List.getElem_toArray, List.getElem_cons_succ, List.getElem_cons_zero, List.setIfInBounds_toArray, List.set_cons_zero, List.set_cons_succ]
    refine wpAnyH_take (i := 9) (v := ?_) rfl (by kernel_rfl) (by kernel_rfl) (by kernel_rfl) (fun _ _ _ h => h) (Or.inl ⟨by rfl, ?_⟩) hS ?_
    rotate_left
    · intro wi hw
      go_simp
      try with_reducible rfl
    try simp only [Act.put, List.getElem_toArray, List.getElem_cons_succ, List.getElem_cons_zero, List.setIfInBounds_toArray, List.set_cons_zero, List.set_cons_succ]
    refine wpAnyH_take (i := 10) (v := ?_) rfl (by kernel_rfl) (by kernel_rfl) (by kernel_rfl) (fun _ _ _ h => h) (Or.inl ⟨by rfl, ?_⟩) hS ?_
    rotate_left
    · intro wi hw
      go_simp
      try with_reducible rfl
    try simp only [Act.put, List.getElem_toArray, List.getElem_cons_succ, List.getElem_cons_zero, List.setIfInBounds_toArray, List.set_cons_zero, List.set_cons_succ]
    refine wpAnyH_take (i := 11) (v := ?_) rfl (by kernel_rfl) (by kernel_rfl) (by kernel_rfl) (fun _ _ _ h => h) (Or.inl ⟨by rfl, ?_⟩) hS ?_
    rotate_left
    · intro wi hw
      obtain ⟨x0, x1, x2, x3⟩ := HX.out.keep (HB1.out.trans (hw.out.mono HB1.out.size))
      go_simp
      try with_reducible rfl
    try simp only [Act.put, List.getElem_toArray, List.getElem_cons_succ, List.getElem_cons_zero, List.setIfInBounds_toArray, List.set_cons_zero, List.set_cons_succ]
    refine wpAnyH_ready (rs := [12]) (by kernel_rfl) (by simp) ?_
    refine AllReadyH.cons rfl (fun K hK => ?_) AllReadyH.nil
    go_simp
    refine (ouserst_any Aa ca La _ (HE.out.next (HB1.out.trans (hS.out.mono HB1.out.size))) hn).mono ?_
    rintro e9 W2 ⟨Au, cu, Es, rfl, hEs, hSq, hb2⟩
    have HB2 : Hid (Below W1.heap.size W1 W2) := Lib.hid (hS.out.trans (hb2.mono hS.out.size))
    have hEl : Es.length ≤ 1000000 := by
      have h1 := congrArg List.length hEs
      have h2 := users_len (La.map D.t) none
      rw [List.length_map] at h1 h2
      omega
    have HES := Lib.hid hEs
    have HSQ := Lib.hid hSq
    clear hb2 hEs hSq
    go_wp2_with fail
    refine hK.out _ _ HB2 (fun _ => ?_)
    clear hK K hS
    refine wpAnyH_other (S' := fun w' => Hid (Below W2.heap.size W2 w')) (fun w hw => Lib.hid (HB2.out.trans (hw.out.mono HB2.out.size))) _ _ _ _ ?_
    have hS : Hid (Below W2.heap.size W2 W2) := Lib.hid (Below.refl _ _)
    try simp only [Act.put, List.getElem_toArray, List.getElem_cons_succ, List.getElem_cons_zero, List.setIfInBounds_toArray, List.set_cons_zero, List.set_cons_succ]
    refine wpAnyH_ready (rs := [13]) (by kernel_rfl) (by simp) ?_
    refine AllReadyH.cons rfl (fun K hK => ?_) AllReadyH.nil
    go_simp
    refine (isfil_any Af Au cf cu F Es _ ((HFF.out.below ((HB1.out.trans (HB2.out.mono HB1.out.size)).trans (hS.out.mono (Nat.le_trans HB1.out.size HB2.out.size)))).up ((HB1.out.trans (HB2.out.mono HB1.out.size)).trans (hS.out.mono (Nat.le_trans HB1.out.size HB2.out.size))).size) hcf HMF.out F8.out ((HSQ.out.below hS.out).up hS.out.size) hEl).mono ?_
    rintro e9 W3 ⟨r, rfl, hr, hb3⟩
    have HB3 : Hid (Below W2.heap.size W2 W3) := Lib.hid (hS.out.trans (hb3.mono hS.out.size))
    rw [HES.out] at hr
    have HR := Lib.hid hr
    have HW3 := Lib.hid ((HB1.out.trans (HB2.out.mono HB1.out.size)).trans (HB3.out.mono (Nat.le_trans HB1.out.size HB2.out.size)))
    clear hb3 hr
    cases r
    · have HNO : Hid (¬ (filB (users none (La.map D.t)) F ∧ tabF (clampS (s : Int)) (clamp (e : Int)) F (La.map D.t) = bs)) := Lib.hid fun h => by
        have := HR.out.2 h.1
        cases this
      go_wp2_with fail
      refine hK.out _ _ HB3 (fun _ => ?_)
      clear hK K hS
      refine wpAnyH_other (S' := fun w' => Hid (Below W3.heap.size W3 w')) (fun w hw => Lib.hid (HB3.out.trans (hw.out.mono HB3.out.size))) _ _ _ _ ?_
      have hS : Hid (Below W3.heap.size W3 W3) := Lib.hid (Below.refl _ _)
      try simp only [Act.put, List.getElem_toArray, List.getElem_cons_succ, List.getElem_cons_zero, List.setIfInBounds_toArray, List.set_cons_zero, List.set_cons_succ]
      refine wpAnyH_take (i := 14) (v := ?_) rfl (by kernel_rfl) (by kernel_rfl) (by kernel_rfl) (fun _ _ _ h => h) (Or.inl ⟨by rfl, ?_⟩) hS ?_
      rotate_left
      · intro wi hw
        go_simp
        try with_reducible rfl
      try simp only [Act.put, List.getElem_toArray, List.getElem_cons_succ, List.getElem_cons_zero, List.setIfInBounds_toArray, List.set_cons_zero, List.set_cons_succ]
      refine wpAnyH_take (i := 15) (v := ?_) rfl (by kernel_rfl) (by kernel_rfl) (by kernel_rfl) (fun _ _ _ h => h) (Or.inl ⟨by rfl, ?_⟩) hS ?_
      rotate_left
      · intro wi hw
        go_simp
        try with_reducible rfl
      try simp only [Act.put, List.getElem_toArray, List.getElem_cons_succ, List.getElem_cons_zero, List.setIfInBounds_toArray, List.set_cons_zero, List.set_cons_succ]
      refine wpAnyH_take (i := 16) (v := undef) rfl (by kernel_rfl) (by kernel_rfl) (by kernel_rfl) (fun _ _ _ h => h) (Or.inr ⟨by rfl, rfl⟩) hS ?_
      try simp only [Act.put, List.getElem_toArray, List.getElem_cons_succ, List.getElem_cons_zero, List.setIfInBounds_toArray, List.set_cons_zero, List.set_cons_succ]
      refine wpAnyH_take (i := 17) (v := undef) rfl (by kernel_rfl) (by kernel_rfl) (by kernel_rfl) (fun _ _ _ h => h) (Or.inr ⟨by rfl, rfl⟩) hS ?_
      try simp only [Act.put, List.getElem_toArray, List.getElem_cons_succ, List.getElem_cons_zero, List.setIfInBounds_toArray, List.set_cons_zero, List.set_cons_succ]
      refine wpAnyH_take (i := 18) (v := undef) rfl (by kernel_rfl) (by kernel_rfl) (by kernel_rfl) (fun _ _ _ h => h) (Or.inr ⟨by rfl, rfl⟩) hS ?_
      try simp only [Act.put, List.getElem_toArray, List.getElem_cons_succ, List.getElem_cons_zero, List.setIfInBounds_toArray, List.set_cons_zero, List.set_cons_succ]
      refine wpAnyH_take (i := 19) (v := undef) rfl (by kernel_rfl) (by kernel_rfl) (by kernel_rfl) (fun _ _ _ h => h) (Or.inr ⟨by rfl, rfl⟩) hS ?_
      try simp only [Act.put, List.getElem_toArray, List.getElem_cons_succ, List.getElem_cons_zero, List.setIfInBounds_toArray, List.set_cons_zero, List.set_cons_succ]
      refine wpAnyH_take (i := 20) (v := undef) rfl (by kernel_rfl) (by kernel_rfl) (by kernel_rfl) (fun _ _ _ h => h) (Or.inr ⟨by rfl, rfl⟩) hS ?_
      try simp only [Act.put, List.getElem_toArray, List.getElem_cons_succ, List.getElem_cons_zero, List.setIfInBounds_toArray, List.set_cons_zero, List.set_cons_succ]
      refine wpAnyH_take (i := 21) (v := undef) rfl (by kernel_rfl) (by kernel_rfl) (by kernel_rfl) (fun _ _ _ h => h) (Or.inr ⟨by rfl, rfl⟩) hS ?_
      try simp only [Act.put, List.getElem_toArray, List.getElem_cons_succ, List.getElem_cons_zero, List.setIfInBounds_toArray, List.set_cons_zero, List.set_cons_succ]
      refine wpAnyH_take (i := 22) (v := undef) rfl (by kernel_rfl) (by kernel_rfl) (by kernel_rfl) (fun _ _ _ h => h) (Or.inr ⟨by rfl, rfl⟩) hS ?_
      try simp only [Act.put, List.getElem_toArray, List.getElem_cons_succ, List.getElem_cons_zero, List.setIfInBounds_toArray, List.set_cons_zero, List.set_cons_succ]
      refine wpAnyH_take (i := 23) (v := undef) rfl (by kernel_rfl) (by kernel_rfl) (by kernel_rfl) (fun _ _ _ h => h) (Or.inr ⟨by rfl, rfl⟩) hS ?_
      try simp only [Act.put, List.getElem_toArray, List.getElem_cons_succ, List.getElem_cons_zero, List.setIfInBounds_toArray, List.set_cons_zero, List.set_cons_succ]
      refine wpAnyH_take (i := 24) (v := undef) rfl (by kernel_rfl) (by kernel_rfl) (by kernel_rfl) (fun _ _ _ h => h) (Or.inr ⟨by rfl, rfl⟩) hS ?_
      try simp only [Act.put, List.getElem_toArray, List.getElem_cons_succ, List.getElem_cons_zero, List.setIfInBounds_toArray, List.set_cons_zero, List.set_cons_succ]
      refine wpAnyH_take (i := 25) (v := undef) rfl (by kernel_rfl) (by kernel_rfl) (by kernel_rfl) (fun _ _ _ h => h) (Or.inr ⟨by rfl, rfl⟩) hS ?_
      try simp only [Act.put, List.getElem_toArray, List.getElem_cons_succ, List.getElem_cons_zero, List.setIfInBounds_toArray, List.set_cons_zero, List.set_cons_succ]
      refine wpAnyH_take (i := 26) (v := undef) rfl (by kernel_rfl) (by kernel_rfl) (by kernel_rfl) (fun _ _ _ h => h) (Or.inr ⟨by rfl, rfl⟩) hS ?_
      try simp only [Act.put, List.getElem_toArray, List.getElem_cons_succ, List.getElem_cons_zero, List.setIfInBounds_toArray, List.set_cons_zero, List.set_cons_succ]
      refine wpAnyH_take (i := 27) (v := undef) rfl (by kernel_rfl) (by kernel_rfl) (by kernel_rfl) (fun _ _ _ h => h) (Or.inr ⟨by rfl, rfl⟩) hS ?_
      try simp only [Act.put, List.getElem_toArray, List.getElem_cons_succ, List.getElem_cons_zero, List.setIfInBounds_toArray, List.set_cons_zero, List.set_cons_succ]
      refine wpAnyH_take (i := 28) (v := undef) rfl (by kernel_rfl) (by kernel_rfl) (by kernel_rfl) (fun _ _ _ h => h) (Or.inr ⟨by rfl, rfl⟩) hS ?_
      try simp only [Act.put, List.getElem_toArray, List.getElem_cons_succ, List.getElem_cons_zero, List.setIfInBounds_toArray, List.set_cons_zero, List.set_cons_succ]
      refine wpAnyH_take (i := 29) (v := undef) rfl (by kernel_rfl) (by kernel_rfl) (by kernel_rfl) (fun _ _ _ h => h) (Or.inr ⟨by rfl, rfl⟩) hS ?_
      try simp only [Act.put, List.getElem_toArray, List.getElem_cons_succ, List.getElem_cons_zero, List.setIfInBounds_toArray, List.set_cons_zero, List.set_cons_succ]
      refine wpAnyH_take (i := 30) (v := undef) rfl (by kernel_rfl) (by kernel_rfl) (by kernel_rfl) (fun _ _ _ h => h) (Or.inr ⟨by rfl, rfl⟩) hS ?_
      try simp only [Act.put, List.getElem_toArray, List.getElem_cons_succ, List.getElem_cons_zero, List.setIfInBounds_toArray, List.set_cons_zero, List.set_cons_succ]
      refine wpAnyH_take (i := 31) (v := undef) rfl (by kernel_rfl) (by kernel_rfl) (by kernel_rfl) (fun _ _ _ h => h) (Or.inr ⟨by rfl, rfl⟩) hS ?_
      try simp only [Act.put, List.getElem_toArray, List.getElem_cons_succ, List.getElem_cons_zero, List.setIfInBounds_toArray, List.set_cons_zero, List.set_cons_succ]
      refine wpAnyH_take (i := 32) (v := ?_) rfl (by kernel_rfl) (by kernel_rfl) (by kernel_rfl) (fun _ _ _ h => h) (Or.inl ⟨by rfl, ?_⟩) hS ?_
      rotate_left
      · intro wi hw
        go_simp
        try with_reducible rfl
      try simp only [Act.put, List.getElem_toArray, List.getElem_cons_succ, List.getElem_cons_zero, List.setIfInBounds_toArray, List.set_cons_zero, List.set_cons_succ]
      refine wpAnyH_take (i := 33) (v := ?_) rfl (by kernel_rfl) (by kernel_rfl) (by kernel_rfl) (fun _ _ _ h => h) (Or.inl ⟨by rfl, ?_⟩) hS ?_
      rotate_left
      · intro wi hw
        go_simp
        try with_reducible rfl
      try simp only [Act.put, List.getElem_toArray, List.getElem_cons_succ, List.getElem_cons_zero, List.setIfInBounds_toArray, List.set_cons_zero, List.set_cons_succ]
      refine wpAnyH_done (by kernel_rfl) ?_ _
      have hfin := HW3.out.trans (hS.out.mono HW3.out.size)
      clear hS
      go_wp2_with fail
      go_ret
      exact ⟨false, rfl, ⟨fun h => (by cases h), fun h => absurd (HMK.out.1 h) HNO.out⟩, hfin⟩
    · have HYS : Hid (filB (users none (La.map D.t)) F) := Lib.hid (HR.out.1 rfl)
      go_wp2_with fail
      refine hK.out _ _ HB3 (fun _ => ?_)
      clear hK K hS
      refine wpAnyH_other (S' := fun w' => Hid (Below W3.heap.size W3 w')) (fun w hw => Lib.hid (HB3.out.trans (hw.out.mono HB3.out.size))) _ _ _ _ ?_
      have hS : Hid (Below W3.heap.size W3 W3) := Lib.hid (Below.refl _ _)
      try simp only [Act.put, List.getElem_toArray, List.getElem_cons_succ, List.getElem_cons_zero, List.setIfInBounds_toArray, List.set_cons_zero, List.set_cons_succ]
      refine wpAnyH_take (i := 14) (v := ?_) rfl (by kernel_rfl) (by kernel_rfl) (by kernel_rfl) (fun _ _ _ h => h) (Or.inl ⟨by rfl, ?_⟩) hS ?_
      rotate_left
      · intro wi hw
        go_simp
        try with_reducible rfl
      try simp only [Act.put, List.getElem_toArray, List.getElem_cons_succ, List.getElem_cons_zero, List.setIfInBounds_toArray, List.set_cons_zero, List.set_cons_succ]
      refine wpAnyH_take (i := 15) (v := ?_) rfl (by kernel_rfl) (by kernel_rfl) (by kernel_rfl) (fun _ _ _ h => h) (Or.inl ⟨by rfl, ?_⟩) hS ?_
      rotate_left
      · intro wi hw
        go_simp
        try with_reducible rfl
      try simp only [Act.put, List.getElem_toArray, List.getElem_cons_succ, List.getElem_cons_zero, List.setIfInBounds_toArray, List.set_cons_zero, List.set_cons_succ]
      refine wpAnyH_take (i := 16) (v := ?_) rfl (by kernel_rfl) (by kernel_rfl) (by kernel_rfl) (fun _ _ _ h => h) (Or.inl ⟨by rfl, ?_⟩) hS ?_
      rotate_left
      · intro wi hw
        go_simp
        try with_reducible rfl
      try simp only [Act.put, List.getElem_toArray, List.getElem_cons_succ, List.getElem_cons_zero, List.setIfInBounds_toArray, List.set_cons_zero, List.set_cons_succ]
      refine wpAnyH_take (i := 17) (v := ?_) rfl (by kernel_rfl) (by kernel_rfl) (by kernel_rfl) (fun _ _ _ h => h) (Or.inl ⟨by rfl, ?_⟩) hS ?_
      rotate_left
      · intro wi hw
        go_simp
        try with_reducible rfl
      try simp only [Act.put, List.getElem_toArray, List.getElem_cons_succ, List.getElem_cons_zero, List.setIfInBounds_toArray, List.set_cons_zero, List.set_cons_succ]
      refine wpAnyH_take (i := 18) (v := ?_) rfl (by kernel_rfl) (by kernel_rfl) (by kernel_rfl) (fun _ _ _ h => h) (Or.inl ⟨by rfl, ?_⟩) hS ?_
      rotate_left
      · intro wi hw
        go_simp
        try with_reducible rfl
      try simp only [Act.put, List.getElem_toArray, List.getElem_cons_succ, List.getElem_cons_zero, List.setIfInBounds_toArray, List.set_cons_zero, List.set_cons_succ]
      refine wpAnyH_take (i := 19) (v := ?_) rfl (by kernel_rfl) (by kernel_rfl) (by kernel_rfl) (fun _ _ _ h => h) (Or.inl ⟨by rfl, ?_⟩) hS ?_
      rotate_left
      · intro wi hw
        obtain ⟨x0, x1, x2, x3⟩ := HX.out.keep (HW3.out.trans (hw.out.mono HW3.out.size))
        go_simp
        try with_reducible rfl
      try simp only [Act.put, List.getElem_toArray, List.getElem_cons_succ, List.getElem_cons_zero, List.setIfInBounds_toArray, List.set_cons_zero, List.set_cons_succ]
      refine wpAnyH_take (i := 20) (v := ?_) rfl (by kernel_rfl) (by kernel_rfl) (by kernel_rfl) (fun _ _ _ h => h) (Or.inl ⟨by rfl, ?_⟩) hS ?_
      rotate_left
      · intro wi hw
        go_simp
        try with_reducible rfl
      try simp only [Act.put, List.getElem_toArray, List.getElem_cons_succ, List.getElem_cons_zero, List.setIfInBounds_toArray, List.set_cons_zero, List.set_cons_succ]
      refine wpAnyH_take (i := 21) (v := ?_) rfl (by kernel_rfl) (by kernel_rfl) (by kernel_rfl) (fun _ _ _ h => h) (Or.inl ⟨by rfl, ?_⟩) hS ?_
      rotate_left
      · intro wi hw
        go_simp
        try with_reducible rfl
      try simp only [Act.put, List.getElem_toArray, List.getElem_cons_succ, List.getElem_cons_zero, List.setIfInBounds_toArray, List.set_cons_zero, List.set_cons_succ]
      refine wpAnyH_take (i := 22) (v := ?_) rfl (by kernel_rfl) (by kernel_rfl) (by kernel_rfl) (fun _ _ _ h => h) (Or.inl ⟨by rfl, ?_⟩) hS ?_
      rotate_left
      · intro wi hw
        go_simp
        try with_reducible rfl
      try simp only [Act.put, List.getElem_toArray, List.getElem_cons_succ, List.getElem_cons_zero, List.setIfInBounds_toArray, List.set_cons_zero, List.set_cons_succ]
      refine wpAnyH_take (i := 23) (v := ?_) rfl (by kernel_rfl) (by kernel_rfl) (by kernel_rfl) (fun _ _ _ h => h) (Or.inl ⟨by rfl, ?_⟩) hS ?_
      rotate_left
      · intro wi hw
        obtain ⟨x0, x1, x2, x3⟩ := HX.out.keep (HW3.out.trans (hw.out.mono HW3.out.size))
        go_simp
        try with_reducible rfl
      try simp only [Act.put, List.getElem_toArray, List.getElem_cons_succ, List.getElem_cons_zero, List.setIfInBounds_toArray, List.set_cons_zero, List.set_cons_succ]
      refine wpAnyH_take (i := 24) (v := ?_) rfl (by kernel_rfl) (by kernel_rfl) (by kernel_rfl) (fun _ _ _ h => h) (Or.inl ⟨by rfl, ?_⟩) hS ?_
      rotate_left
      · intro wi hw
        go_simp
        try with_reducible rfl
      try simp only [Act.put, List.getElem_toArray, List.getElem_cons_succ, List.getElem_cons_zero, List.setIfInBounds_toArray, List.set_cons_zero, List.set_cons_succ]
      refine wpAnyH_take (i := 25) (v := ?_) rfl (by kernel_rfl) (by kernel_rfl) (by kernel_rfl) (fun _ _ _ h => h) (Or.inl ⟨by rfl, ?_⟩) hS ?_
      rotate_left
      · intro wi hw
        go_simp
        try with_reducible rfl
      try simp only [Act.put, List.getElem_toArray, List.getElem_cons_succ, List.getElem_cons_zero, List.setIfInBounds_toArray, List.set_cons_zero, List.set_cons_succ]
      refine wpAnyH_take (i := 26) (v := ?_) rfl (by kernel_rfl) (by kernel_rfl) (by kernel_rfl) (fun _ _ _ h => h) (Or.inl ⟨by rfl, ?_⟩) hS ?_
      rotate_left
      · intro wi hw
        go_simp
        try with_reducible rfl
      try simp only [Act.put, List.getElem_toArray, List.getElem_cons_succ, List.getElem_cons_zero, List.setIfInBounds_toArray, List.set_cons_zero, List.set_cons_succ]
      refine wpAnyH_take (i := 27) (v := ?_) rfl (by kernel_rfl) (by kernel_rfl) (by kernel_rfl) (fun _ _ _ h => h) (Or.inl ⟨by rfl, ?_⟩) hS ?_
      rotate_left
      · intro wi hw
        obtain ⟨x0, x1, x2, x3⟩ := HX.out.keep (HW3.out.trans (hw.out.mono HW3.out.size))
        go_simp
        try with_reducible rfl
      try simp only [Act.put, List.getElem_toArray, List.getElem_cons_succ, List.getElem_cons_zero, List.setIfInBounds_toArray, List.set_cons_zero, List.set_cons_succ]
      refine wpAnyH_take (i := 28) (v := ?_) rfl (by kernel_rfl) (by kernel_rfl) (by kernel_rfl) (fun _ _ _ h => h) (Or.inl ⟨by rfl, ?_⟩) hS ?_
      rotate_left
      · intro wi hw
        go_simp
        try with_reducible rfl
      try simp only [Act.put, List.getElem_toArray, List.getElem_cons_succ, List.getElem_cons_zero, List.setIfInBounds_toArray, List.set_cons_zero, List.set_cons_succ]
      refine wpAnyH_take (i := 30) (v := ?_) rfl (by kernel_rfl) (by kernel_rfl) (by kernel_rfl) (fun _ _ _ h => h) (Or.inl ⟨by rfl, ?_⟩) hS ?_
      rotate_left
      · intro wi hw
        go_simp
        try with_reducible rfl
      try simp only [Act.put, List.getElem_toArray, List.getElem_cons_succ, List.getElem_cons_zero, List.setIfInBounds_toArray, List.set_cons_zero, List.set_cons_succ]
      refine wpAnyH_ready (rs := [29]) (by kernel_rfl) (by simp) ?_
      refine AllReadyH.cons rfl (fun K hK => ?_) AllReadyH.nil
      go_simp
      have HW4 : Hid (Below w.heap.size w _) := Lib.hid (HW3.out.trans (hS.out.mono HW3.out.size))
      refine (olayt_any Aa Af ca cf La F (s : Int) (e : Int) _ (HE.out.next HW4.out) HMT.out ((HFF.out.below HW4.out).up HW4.out.size) hcf HMF.out F8.out hfn).mono ?_
      intro e9 W4 hmade
      obtain ⟨v4, rfl, -, ⟨A4, c4, hv4, m1, m2, m3⟩, hb4⟩ := made_byts hmade
      subst hv4
      have HB4 : Hid (Below W3.heap.size W3 W4) := Lib.hid (hS.out.trans (hb4.mono hS.out.size))
      have HM3 := Lib.hid m3
      have HW5 := Lib.hid (HW3.out.trans (HB4.out.mono HW3.out.size))
      clear hmade m3 hb4 HW4
      generalize tabF (clampS (s : Int)) (clamp (e : Int)) F (La.map D.t) = Z at *
      go_wp2_with fail
      refine hK.out _ _ HB4 (fun _ => ?_)
      clear hK K hS
      refine wpAnyH_other (S' := fun w' => Hid (Below W4.heap.size W4 w')) (fun w hw => Lib.hid (HB4.out.trans (hw.out.mono HB4.out.size))) _ _ _ _ ?_
      have hS : Hid (Below W4.heap.size W4 W4) := Lib.hid (Below.refl _ _)
      try simp only [Act.put, List.getElem_toArray, List.getElem_cons_succ, List.getElem_cons_zero, List.setIfInBounds_toArray, List.set_cons_zero, List.set_cons_succ]
      refine wpAnyH_ready (rs := [31]) (by kernel_rfl) (by simp) ?_
      refine AllReadyH.cons rfl (fun K hK => ?_) AllReadyH.nil
      go_simp
      have HW6 : Hid (Below w.heap.size w _) := Lib.hid (HW5.out.trans (hS.out.mono HW5.out.size))
      refine (equal_any A4 Ab c4 cb Z bs _ ((HM3.out.below hS.out).up hS.out.size) ((HBB.out.below HW6.out).up HW6.out.size) HTB.out B8.out).mono ?_
      rintro e9 w9 ⟨rfl, hw9⟩
      subst hw9
      go_wp2_with fail
      refine hK.out _ _ hS (fun hS => ?_)
      clear hK K
      try simp only [Act.put, List.getElem_toArray, List.getElem_cons_succ, List.getElem_cons_zero, List.setIfInBounds_toArray, List.set_cons_zero, List.set_cons_succ]
      refine wpAnyH_take (i := 32) (v := ?_) rfl (by kernel_rfl) (by kernel_rfl) (by kernel_rfl) (fun _ _ _ h => h) (Or.inl ⟨by rfl, ?_⟩) hS ?_
      rotate_left
      · intro wi hw
        go_simp
        try with_reducible rfl
      try simp only [Act.put, List.getElem_toArray, List.getElem_cons_succ, List.getElem_cons_zero, List.setIfInBounds_toArray, List.set_cons_zero, List.set_cons_succ]
      refine wpAnyH_take (i := 33) (v := ?_) rfl (by kernel_rfl) (by kernel_rfl) (by kernel_rfl) (fun _ _ _ h => h) (Or.inl ⟨by rfl, ?_⟩) hS ?_
      rotate_left
      · intro wi hw
        go_simp
        try with_reducible rfl
      try simp only [Act.put, List.getElem_toArray, List.getElem_cons_succ, List.getElem_cons_zero, List.setIfInBounds_toArray, List.set_cons_zero, List.set_cons_succ]
      refine wpAnyH_done (by kernel_rfl) ?_ _
      have hfin := HW5.out.trans (hS.out.mono HW5.out.size)
      clear hS
      go_wp2_with fail
      go_ret
      exact ⟨decide (Z = bs), rfl, ⟨fun h => HMK.out.2 ⟨HYS.out, of_decide_eq_true h⟩, fun h => decide_eq_true (HMK.out.1 h).2⟩, hfin⟩
  · have HNO : Hid (¬ (mayT (La.map D.t) = 0 ∧ filB (users none (La.map D.t)) F ∧ tabF (clampS (s : Int)) (clamp (e : Int)) F (La.map D.t) = bs)) := Lib.hid fun h => hmt h.1
    have d1 : ((mayT (La.map D.t) : Int) == 0) = false := by rw [beq_eq_false_iff_ne]; omega
    obtain ⟨n, hn2⟩ : ∃ n, n = mayT (La.map D.t) := ⟨_, rfl⟩
    rw [← hn2] at HCH d1 hml
    have d2 : (n == 0) = false := by rw [beq_eq_false_iff_ne]; omega
    clear hbx hE hb b8 hf f8 hmf hmt hn2
    go_enter Try.func90, Try.ntmps90
    go_upto_region 1 with fail
    refine wp_region_held_drew (S := fun w' => Hid (Below w.heap.size w w')) (by kernel_rfl) (Lib.hid (Below.refl _ _).drew) (fun hS => ?_)
    refine wpAnyH_take (i := 0) (v := ?_) rfl (by kernel_rfl) (by kernel_rfl) (by kernel_rfl) (fun _ _ _ h => h) (Or.inl ⟨by rfl, ?_⟩) hS ?_
    rotate_left
    · intro wi hw
      go_simp
      try with_reducible rfl
    try simp only [Act.put, List.getElem_toArray, List.getElem_cons_succ, List.getElem_cons_zero, List.setIfInBounds_toArray, List.set_cons_zero, List.set_cons_succ]
    refine wpAnyH_take (i := 1) (v := ?_) rfl (by kernel_rfl) (by kernel_rfl) (by kernel_rfl) (fun _ _ _ h => h) (Or.inl ⟨by rfl, ?_⟩) hS ?_
    rotate_left
    · intro wi hw
      go_simp
      try with_reducible rfl
    try simp only [Act.put, List.getElem_toArray, List.getElem_cons_succ, List.getElem_cons_zero, List.setIfInBounds_toArray, List.set_cons_zero, List.set_cons_succ]
    refine wpAnyH_take (i := 2) (v := ?_) rfl (by kernel_rfl) (by kernel_rfl) (by kernel_rfl) (fun _ _ _ h => h) (Or.inl ⟨by rfl, ?_⟩) hS ?_
    rotate_left
    · intro wi hw
      go_simp
      try with_reducible rfl
    try simp only [Act.put, List.getElem_toArray, List.getElem_cons_succ, List.getElem_cons_zero, List.setIfInBounds_toArray, List.set_cons_zero, List.set_cons_succ]
    refine wpAnyH_take (i := 3) (v := ?_) rfl (by kernel_rfl) (by kernel_rfl) (by kernel_rfl) (fun _ _ _ h => h) (Or.inl ⟨by rfl, ?_⟩) hS ?_
    rotate_left
    · intro wi hw
      obtain ⟨x0, x1, x2, x3⟩ := HX.out.keep (hw.out)
      go_simp
      try with_reducible rfl
    try simp only [Act.put, List.getElem_toArray, List.getElem_cons_succ, List.getElem_cons_zero, List.setIfInBounds_toArray, List.set_cons_zero, List.set_cons_succ]
    refine wpAnyH_ready (rs := [4]) (by kernel_rfl) (by simp) ?_
    refine AllReadyH.cons rfl (fun K hK => ?_) AllReadyH.nil
    go_simp
    refine (HCH.out _ hS.out).mono ?_
    rintro e9 W1 ⟨rfl, hb1⟩
    have HB1 : Hid (Below w.heap.size w W1) := Lib.hid (hS.out.trans (hb1.mono hS.out.size))
    clear hb1
    go_wp2_with fail
    refine hK.out _ _ HB1 (fun _ => ?_)
    clear hK K hS
    refine wpAnyH_other (S' := fun w' => Hid (Below W1.heap.size W1 w')) (fun w hw => Lib.hid (HB1.out.trans (hw.out.mono HB1.out.size))) _ _ _ _ ?_
    have hS : Hid (Below W1.heap.size W1 W1) := Lib.hid (Below.refl _ _)
    try simp only [Act.put, List.getElem_toArray, List.getElem_cons_succ, List.getElem_cons_zero, List.setIfInBounds_toArray, List.set_cons_zero, List.set_cons_succ]
    refine wpAnyH_take (i := 5) (v := ?_) rfl (by kernel_rfl) (by kernel_rfl) (by kernel_rfl) (fun _ _ _ h => h) (Or.inl ⟨by rfl, ?_⟩) hS ?_
    rotate_left
    · intro wi hw
      go_simp
      try with_reducible rfl
    try simp only [Act.put, List.getElem_toArray, List.getElem_cons_succ, List.getElem_cons_zero, List.setIfInBounds_toArray, List.set_cons_zero, List.set_cons_succ]
    refine wpAnyH_take (i := 6) (v := ?_) rfl (by kernel_rfl) (by kernel_rfl) (by kernel_rfl) (fun _ _ _ h => h) (Or.inl ⟨by rfl, ?_⟩) hS ?_
    rotate_left
    · intro wi hw
      go_simp
      try with_reducible rfl
    try simp only [Act.put, List.getElem_toArray, List.getElem_cons_succ, List.getElem_cons_zero, List.setIfInBounds_toArray, List.set_cons_zero, List.set_cons_succ]
    refine wpAnyH_take (i := 7) (v := undef) rfl (by kernel_rfl) (by kernel_rfl) (by kernel_rfl) (fun _ _ _ h => h) (Or.inr ⟨by rfl, rfl⟩) hS ?_
    try simp only [Act.put, List.getElem_toArray, List.getElem_cons_succ, List.getElem_cons_zero, List.setIfInBounds_toArray, List.set_cons_zero, List.set_cons_succ]
    refine wpAnyH_take (i := 8) (v := undef) rfl (by kernel_rfl) (by kernel_rfl) (by kernel_rfl) (fun _ _ _ h => h) (Or.inr ⟨by rfl, rfl⟩) hS ?_
    try simp only [Act.put, List.getElem_toArray, List.getElem_cons_succ, List.getElem_cons_zero, List.setIfInBounds_toArray, List.set_cons_zero, List.set_cons_succ]
    refine wpAnyH_take (i := 9) (v := undef) rfl (by kernel_rfl) (by kernel_rfl) (by kernel_rfl) (fun _ _ _ h => h) (Or.inr ⟨by rfl, rfl⟩) hS ?_
    try simp only [Act.put, List.getElem_toArray, List.getElem_cons_succ, List.getElem_cons_zero, List.setIfInBounds_toArray, List.set_cons_zero, List.set_cons_succ]
    refine wpAnyH_take (i := 10) (v := undef) rfl (by kernel_rfl) (by kernel_rfl) (by kernel_rfl) (fun _ _ _ h => h) (Or.inr ⟨by rfl, rfl⟩) hS ?_
    try simp only [Act.put, List.getElem_toArray, List.getElem_cons_succ, List.getElem_cons_zero, List.setIfInBounds_toArray, List.set_cons_zero, List.set_cons_succ]
    refine wpAnyH_take (i := 11) (v := undef) rfl (by kernel_rfl) (by kernel_rfl) (by kernel_rfl) (fun _ _ _ h => h) (Or.inr ⟨by rfl, rfl⟩) hS ?_
    try simp only [Act.put, List.getElem_toArray, List.getElem_cons_succ, List.getElem_cons_zero, List.setIfInBounds_toArray, List.set_cons_zero, List.set_cons_succ]
    refine wpAnyH_take (i := 12) (v := undef) rfl (by kernel_rfl) (by kernel_rfl) (by kernel_rfl) (fun _ _ _ h => h) (Or.inr ⟨by rfl, rfl⟩) hS ?_
    try simp only [Act.put, List.getElem_toArray, List.getElem_cons_succ, List.getElem_cons_zero, List.setIfInBounds_toArray, List.set_cons_zero, List.set_cons_succ]
    refine wpAnyH_take (i := 13) (v := undef) rfl (by kernel_rfl) (by kernel_rfl) (by kernel_rfl) (fun _ _ _ h => h) (Or.inr ⟨by rfl, rfl⟩) hS ?_
    try simp only [Act.put, List.getElem_toArray, List.getElem_cons_succ, List.getElem_cons_zero, List.setIfInBounds_toArray, List.set_cons_zero, List.set_cons_succ]
    refine wpAnyH_take (i := 14) (v := ?_) rfl (by kernel_rfl) (by kernel_rfl) (by kernel_rfl) (fun _ _ _ h => h) (Or.inl ⟨by rfl, ?_⟩) hS ?_
    rotate_left
    · intro wi hw
      go_simp
      try with_reducible rfl
    try simp only [Act.put, List.getElem_toArray, List.getElem_cons_succ, List.getElem_cons_zero, List.setIfInBounds_toArray, List.set_cons_zero, List.set_cons_succ]
    refine wpAnyH_take (i := 15) (v := ?_) rfl (by kernel_rfl) (by kernel_rfl) (by kernel_rfl) (fun _ _ _ h => h) (Or.inl ⟨by rfl, ?_⟩) hS ?_
    rotate_left
    · intro wi hw
      go_simp
      try with_reducible rfl
    try simp only [Act.put, List.getElem_toArray, List.getElem_cons_succ, List.getElem_cons_zero, List.setIfInBounds_toArray, List.set_cons_zero, List.set_cons_succ]
    refine wpAnyH_take (i := 16) (v := undef) rfl (by kernel_rfl) (by kernel_rfl) (by kernel_rfl) (fun _ _ _ h => h) (Or.inr ⟨by rfl, rfl⟩) hS ?_
    try simp only [Act.put, List.getElem_toArray, List.getElem_cons_succ, List.getElem_cons_zero, List.setIfInBounds_toArray, List.set_cons_zero, List.set_cons_succ]
    refine wpAnyH_take (i := 17) (v := undef) rfl (by kernel_rfl) (by kernel_rfl) (by kernel_rfl) (fun _ _ _ h => h) (Or.inr ⟨by rfl, rfl⟩) hS ?_
    try simp only [Act.put, List.getElem_toArray, List.getElem_cons_succ, List.getElem_cons_zero, List.setIfInBounds_toArray, List.set_cons_zero, List.set_cons_succ]
    refine wpAnyH_take (i := 18) (v := undef) rfl (by kernel_rfl) (by kernel_rfl) (by kernel_rfl) (fun _ _ _ h => h) (Or.inr ⟨by rfl, rfl⟩) hS ?_
    try simp only [Act.put, List.getElem_toArray, List.getElem_cons_succ, List.getElem_cons_zero, List.setIfInBounds_toArray, List.set_cons_zero, List.set_cons_succ]
    refine wpAnyH_take (i := 19) (v := undef) rfl (by kernel_rfl) (by kernel_rfl) (by kernel_rfl) (fun _ _ _ h => h) (Or.inr ⟨by rfl, rfl⟩) hS ?_
    try simp only [Act.put, List.getElem_toArray, List.getElem_cons_succ, List.getElem_cons_zero, List.setIfInBounds_toArray, List.set_cons_zero, List.set_cons_succ]
    refine wpAnyH_take (i := 20) (v := undef) rfl (by kernel_rfl) (by kernel_rfl) (by kernel_rfl) (fun _ _ _ h => h) (Or.inr ⟨by rfl, rfl⟩) hS ?_
    try simp only [Act.put, List.getElem_toArray, List.getElem_cons_succ, List.getElem_cons_zero, List.setIfInBounds_toArray, List.set_cons_zero, List.set_cons_succ]
    refine wpAnyH_take (i := 21) (v := undef) rfl (by kernel_rfl) (by kernel_rfl) (by kernel_rfl) (fun _ _ _ h => h) (Or.inr ⟨by rfl, rfl⟩) hS ?_
    try simp only [Act.put, List.getElem_toArray, List.getElem_cons_succ, List.getElem_cons_zero, List.setIfInBounds_toArray, List.set_cons_zero, List.set_cons_succ]
    refine wpAnyH_take (i := 22) (v := undef) rfl (by kernel_rfl) (by kernel_rfl) (by kernel_rfl) (fun _ _ _ h => h) (Or.inr ⟨by rfl, rfl⟩) hS ?_
    try simp only [Act.put, List.getElem_toArray, List.getElem_cons_succ, List.getElem_cons_zero, List.setIfInBounds_toArray, List.set_cons_zero, List.set_cons_succ]
    refine wpAnyH_take (i := 23) (v := undef) rfl (by kernel_rfl) (by kernel_rfl) (by kernel_rfl) (fun _ _ _ h => h) (Or.inr ⟨by rfl, rfl⟩) hS ?_
    try simp only [Act.put, List.getElem_toArray, List.getElem_cons_succ, List.getElem_cons_zero, List.setIfInBounds_toArray, List.set_cons_zero, List.set_cons_succ]
    refine wpAnyH_take (i := 24) (v := undef) rfl (by kernel_rfl) (by kernel_rfl) (by kernel_rfl) (fun _ _ _ h => h) (Or.inr ⟨by rfl, rfl⟩) hS ?_
    try simp only [Act.put, List.getElem_toArray, List.getElem_cons_succ, List.getElem_cons_zero, List.setIfInBounds_toArray, List.set_cons_zero, List.set_cons_succ]
    refine wpAnyH_take (i := 25) (v := undef) rfl (by kernel_rfl) (by kernel_rfl) (by kernel_rfl) (fun _ _ _ h => h) (Or.inr ⟨by rfl, rfl⟩) hS ?_
    try simp only [Act.put, List.getElem_toArray, List.getElem_cons_succ, List.getElem_cons_zero, List.setIfInBounds_toArray, List.set_cons_zero, List.set_cons_succ]
    refine wpAnyH_take (i := 26) (v := undef) rfl (by kernel_rfl) (by kernel_rfl) (by kernel_rfl) (fun _ _ _ h => h) (Or.inr ⟨by rfl, rfl⟩) hS ?_
    try simp only [Act.put, List.getElem_toArray, List.getElem_cons_succ, List.getElem_cons_zero, List.setIfInBounds_toArray, List.set_cons_zero, List.set_cons_succ]
    refine wpAnyH_take (i := 27) (v := undef) rfl (by kernel_rfl) (by kernel_rfl) (by kernel_rfl) (fun _ _ _ h => h) (Or.inr ⟨by rfl, rfl⟩) hS ?_
    try simp only [Act.put, List.getElem_toArray, List.getElem_cons_succ, List.getElem_cons_zero, List.setIfInBounds_toArray, List.set_cons_zero, List.set_cons_succ]
    refine wpAnyH_take (i := 28) (v := undef) rfl (by kernel_rfl) (by kernel_rfl) (by kernel_rfl) (fun _ _ _ h => h) (Or.inr ⟨by rfl, rfl⟩) hS ?_
    try simp only [Act.put, List.getElem_toArray, List.getElem_cons_succ, List.getElem_cons_zero, List.setIfInBounds_toArray, List.set_cons_zero, List.set_cons_succ]
    refine wpAnyH_take (i := 29) (v := undef) rfl (by kernel_rfl) (by kernel_rfl) (by kernel_rfl) (fun _ _ _ h => h) (Or.inr ⟨by rfl, rfl⟩) hS ?_
    try simp only [Act.put, List.getElem_toArray, List.getElem_cons_succ, List.getElem_cons_zero, List.setIfInBounds_toArray, List.set_cons_zero, List.set_cons_succ]
    refine wpAnyH_take (i := 30) (v := undef) rfl (by kernel_rfl) (by kernel_rfl) (by kernel_rfl) (fun _ _ _ h => h) (Or.inr ⟨by rfl, rfl⟩) hS ?_
    try simp only [Act.put, List.getElem_toArray, List.getElem_cons_succ, List.getElem_cons_zero, List.setIfInBounds_toArray, List.set_cons_zero, List.set_cons_succ]
    refine wpAnyH_take (i := 31) (v := undef) rfl (by kernel_rfl) (by kernel_rfl) (by kernel_rfl) (fun _ _ _ h => h) (Or.inr ⟨by rfl, rfl⟩) hS ?_
    try simp only [Act.put, List.getElem_toArray, List.getElem_cons_succ, List.getElem_cons_zero, List.setIfInBounds_toArray, List.set_cons_zero, List.set_cons_succ]
    refine wpAnyH_take (i := 32) (v := ?_) rfl (by kernel_rfl) (by kernel_rfl) (by kernel_rfl) (fun _ _ _ h => h) (Or.inl ⟨by rfl, ?_⟩) hS ?_
    rotate_left
    · intro wi hw
      go_simp
      try with_reducible rfl
    try simp only [Act.put, List.getElem_toArray, List.getElem_cons_succ, List.getElem_cons_zero, List.setIfInBounds_toArray, List.set_cons_zero, List.set_cons_succ]
    refine wpAnyH_take (i := 33) (v := ?_) rfl (by kernel_rfl) (by kernel_rfl) (by kernel_rfl) (fun _ _ _ h => h) (Or.inl ⟨by rfl, ?_⟩) hS ?_
    rotate_left
    · intro wi hw
      go_simp
      try with_reducible rfl
    try simp only [Act.put, List.getElem_toArray, List.getElem_cons_succ, List.getElem_cons_zero, List.setIfInBounds_toArray, List.set_cons_zero, List.set_cons_succ]
    refine wpAnyH_done (by kernel_rfl) ?_ _
    have hfin := HB1.out.trans (hS.out.mono HB1.out.size)
    clear hS
    go_wp2_with fail
    go_ret
    exact ⟨false, rfl, ⟨fun h => (by cases h), fun h => absurd h HNO.out⟩, hfin⟩
end Go.Proofs.Ytobjiamdljjkjaa.Tb

/- Package table: the blocks that an index tells of. -/
namespace Go.Proofs.Ytobjiamdljjkjaa.Tb
set_option linter.unusedVariables false
set_option linter.unusedSimpArgs false
open Go.RowKit Lift Ik Sk Vn Bk Bl Sq
open Vt (res)
/-- A box of four. -/
abbrev put4 (w : World) (g : Nat) (a b c d : Value) : World := (((w.setCell ⟨g, 0, none⟩ a).setCell ⟨g, 1, none⟩ b).setCell ⟨g, 2, none⟩ c).setCell ⟨g, 3, none⟩ d
theorem put4_box {w : World} {g : Nat} {T : TypeId} {u0 u1 u2 u3 : Value} (h : Lift.Box w g T [u0, u1, u2, u3]) (a b c d : Value) : Lift.Box (put4 w g a b c d) g T [a, b, c, d] := (((h.set 0 a).set 1 b).set 2 c).set 3 d
theorem put4_below {B : Nat} {w0 w : World} (h : Below B w0 w) {g : Nat} (hg : B ≤ g) (a b c d : Value) : Below B w0 (put4 w g a b c d) :=
  (((h.setCell (p := ⟨g, 0, none⟩) hg _).setCell (p := ⟨g, 1, none⟩) hg _).setCell (p := ⟨g, 2, none⟩) hg _).setCell (p := ⟨g, 3, none⟩) hg _
theorem put4_off (w : World) (g : Nat) (a b c d : Value) (k : Nat) (hk : k ≠ g) : (put4 w g a b c d).heap[k]? = w.heap[k]? := by
  unfold put4
  rw [Below.heap_setCell _ _ _ _ hk, Below.heap_setCell _ _ _ _ hk, Below.heap_setCell _ _ _ _ hk, Below.heap_setCell _ _ _ _ hk]
theorem put4_size (w : World) (g : Nat) (a b c d : Value) : (put4 w g a b c d).heap.size = w.heap.size := by simp [put4]
theorem cont_load {w : World} {g : Nat} {a b c d : Value} (h : Lift.Box w g 89 [a, b, c, d]) : Sem.run Try.prog (loadVar 89 ⟨g, 0, none⟩) w = .ok (.agg #[a, b, c, d]) w :=
  run_loadVar_row (P := Try.prog) w g 89 89 #[a, b, c, d] (0, 0) _ h Try.underlying89 rfl (by kernel_rfl)
/-- The entries that contents hold are all, or both are too many. -/
def Rel (La : List D) (ps : List (List T)) : Prop := La.map D.t = ps.flatten ∨ (10000 < La.length ∧ 10000 < ps.flatten.length)
theorem Rel.next {La Lp : List D} {ps : List (List T)} (h : Rel La ps) : Rel (addL La Lp) (ps ++ [Lp.map D.t]) := by
  unfold addL
  by_cases hn : La.length ≤ 10000
  · rw [if_pos hn]
    rcases h with h | h
    · left
      rw [List.map_append, h, List.flatten_append]
      simp
    · omega
  · rw [if_neg hn]
    right
    rw [List.flatten_append, List.length_append]
    rcases h with h | h
    · have := congrArg List.length h
      rw [List.length_map] at this
      omega
    · omega
theorem addL_len {La Lp : List D} (h1 : La.length ≤ 20000) (h2 : Lp.length ≤ 10000) : (addL La Lp).length ≤ 20000 := by
  unfold addL
  split
  · rw [List.length_append]; omega
  · exact h1
/-! ### The walk, by what the project's functions tell -/
section
variable {bs : List Nat} {fp at' n : Nat} {t : T} {X : List T}
theorem walk_none (h : lenA t.val at' = none) : walk bs fp at' (t :: X) = .error 2 := by
  unfold lenA at h
  by_cases h1 : (res t.val 0).2.2 = 0
  · split at h
    · rename_i h2
      exact walk_e2 h1 (.inr (.inr (.inl (h2.resolve_left (fun h3 => h3 h1)))))
    · split at h
      · rename_i h2
        exact walk_e2 h1 (h2.elim .inl fun h3 => .inr (.inl h3))
      · cases h
  · exact walk_e1 h1
theorem lenA_parts (h : lenA t.val at' = some n) : (res t.val 0).2.2 = 0 ∧ n = nOf t ∧ ∀ f, n ≤ f - at' → ¬ ((res t.val ((res t.val 0).2.1 : Nat)).2.2 ≠ 0 ∨ (res t.val ((res t.val 0).2.1 : Nat)).2.1 ≠ t.val.length ∨ (res t.val 0).1 ≠ at' ∨ f - at' < nOf t) := by
  unfold lenA at h
  split at h
  · cases h
  · rename_i h1
    split at h
    · cases h
    · rename_i h2
      injection h with h
      refine ⟨by omega, h.symm, fun f hf => ?_⟩
      rintro (q | q | q | q)
      · exact h2 (.inl q)
      · exact h2 (.inr q)
      · exact h1 (.inr q)
      · unfold nOf at q; omega
theorem walk_far (h : lenA t.val at' = some n) (h2 : fp - at' < n) : walk bs fp at' (t :: X) = .error 2 := by
  obtain ⟨h1, rfl, -⟩ := lenA_parts h
  exact walk_e2 h1 (.inr (.inr (.inr h2)))
theorem walk_blk (h : lenA t.val at' = some n) (h2 : n ≤ fp - at') (h3 : (allB ((bs.drop at').take n)).2 ≠ 0) : walk bs fp at' (t :: X) = .error (inner (allB ((bs.drop at').take n)).2) := by
  obtain ⟨h1, rfl, h4⟩ := lenA_parts h
  exact walk_e3 h1 (h4 fp h2) h3
theorem walk_key (h : lenA t.val at' = some n) (h2 : n ≤ fp - at') (h3 : (allB ((bs.drop at').take n)).2 = 0) (h5 : ptsB t.k (allB ((bs.drop at').take n)).1 = false) : walk bs fp at' (t :: X) = .error 2 := by
  obtain ⟨h1, rfl, h4⟩ := lenA_parts h
  refine walk_e4 h1 (h4 fp h2) h3 ?_
  by_cases h6 : (allB ((bs.drop at').take (nOf t))).1 = []
  · exact .inl h6
  · right
    intro h7
    have h8 : ptsB t.k (allB ((bs.drop at').take (nOf t))).1 = true := (ptsB_iff _ _).2 ⟨h6, by have := congrArg T.k h7; exact this⟩
    rw [h5] at h8
    cases h8
theorem walk_step (v8 : ∀ c, c ∈ t.val → c < 256) (h : lenA t.val at' = some n) (h2 : n ≤ fp - at') (h3 : (allB ((bs.drop at').take n)).2 = 0) (h5 : ptsB t.k (allB ((bs.drop at').take n)).1 = true) :
    walk bs fp at' (t :: X) = (walk bs fp (at' + n) X).map ((allB ((bs.drop at').take n)).1 :: ·) ∧ n = nOf t := by
  obtain ⟨h9, -, -⟩ := lenA_enc v8 h
  obtain ⟨h1, rfl, h4⟩ := lenA_parts h
  obtain ⟨h6, h7⟩ := (ptsB_iff _ _).1 h5
  refine ⟨walk_go h1 (h4 fp h2) h3 ?_, rfl⟩
  rintro (h8 | h8)
  · exact h6 h8
  · exact h8 (congr (congrArg T.mk h7) h9 : T.mk t.k t.val = _)
end
theorem evB_le {xs : List Nat} (h : (allB xs).2 = 0) (hs : xs.length < 4294967296) : evB xs ≤ 10000 := by
  obtain ⟨hm, ev, e1, e2, hev⟩ := allB_is h
  have h1 := evB_blk e1 hm (by rw [hev]; exact hs)
  rw [hev] at h1
  have := (may_zero hm).2.2
  rw [h1]
  split <;> omega
/-- What readBlocks answers. -/
def Rbk (w : World) (bs : List Nat) (fq : Nat) (Xt : List T) (nx cx : Nat) (Ax : Option Addr) (e : Ending) (w' : World) : Prop :=
  Below w.heap.size w w' ∧ ((∃ k : Nat, walk bs fq 0 Xt = .error k ∧ e = .returned (.tuple #[.agg #[.slice none 0 0, .slice none 0 0, .int .i64 0, .int .i64 0], .int .i64 (k : Int)])) ∨
    ∃ (ps : List (List T)) (Aa : Option Addr) (ca : Nat) (La : List D), walk bs fq 0 Xt = .ok ps ∧ e = .returned (.tuple #[.agg #[.slice Aa La.length ca, .slice Ax nx cx, .int .i64 (lowS ps 0 : Int), .int .i64 (evs bs 0 Xt 0 : Int)], .int .i64 0]) ∧
      Ents w' (fun k => w.heap.size ≤ k ∧ k < w'.heap.size) Aa ca La ∧ Rel La ps ∧ La.length ≤ 20000)
theorem rbk_bad {w w' : World} {bs : List Nat} {fq nx cx k : Nat} {Xt : List T} {Ax : Option Addr} (h : walk bs fq 0 Xt = .error k) (hb : Below w.heap.size w w') : Rbk w bs fq Xt nx cx Ax (.returned (.tuple #[.agg #[.slice none 0 0, .slice none 0 0, .int .i64 0, .int .i64 0], .int .i64 (k : Int)])) w' := ⟨hb, .inl ⟨k, h, rfl⟩⟩
set_option maxRecDepth 100000 in
set_option maxHeartbeats 6400000 in
theorem oblocks_any (Ab Ax : Option Addr) (cb cx fq : Nat) (bs : List Nat) (X : List D) (w : World) (hl : Lies w w.heap.size Ab (bs.map vb)) (hq : fq ≤ bs.length) (hc : bs.length ≤ cb) (hm : cb ≤ maxLen) (hs : bs.length ≤ 10000000) (b8 : ∀ x, x ∈ bs → x < 256)
    (hx : Ents w (· < w.heap.size) Ax cx X) (hn : X.length ≤ 10000) :
    Calls Try.prog 89 #[.slice Ab fq cb, .slice Ax X.length cx] w (Rbk w bs fq (X.map D.t) X.length cx Ax) := by
  obtain ⟨W1, hW1⟩ : ∃ W1 : World, W1 = (w.alloc (.cells #[.slice none 0 0, .slice none 0 0, .int .i64 0, .int .i64 0] 89)).alloc (.cells #[.slice none 0 0, .slice Ax X.length cx, .int .i64 0, .int .i64 0] 89) := ⟨_, rfl⟩
  have hb1 : Below w.heap.size w W1 := by rw [hW1]; exact Joins.below_alloc2 w _ _
  have hxR : Lift.Box W1 w.heap.size 89 [.slice none 0 0, .slice none 0 0, .int .i64 0, .int .i64 0] := by rw [hW1]; exact (Lift.Box.new w _ _).alloc _
  have hxC : Lift.Box W1 (w.heap.size + 1) 89 [.slice none 0 0, .slice Ax X.length cx, .int .i64 0, .int .i64 0] := by
    rw [hW1]
    have := Lift.Box.new (w.alloc (.cells #[.slice none 0 0, .slice none 0 0, .int .i64 0, .int .i64 0] 89)) 89 [.slice none 0 0, .slice Ax X.length cx, .int .i64 0, .int .i64 0]
    rw [World.size_alloc] at this
    exact this
  have HX := Lib.hid hx
  have HL := Lib.hid hl
  have B8 := Lib.hid b8
  have HB1 := Lib.hid hb1
  have HXR := Lib.hid hxR
  have HC1 : Hid (Cb (w.heap.size + 1) W1 (w.heap.size + 1) (.slice none 0 0) (.slice Ax X.length cx) [] 0 0) := Lib.hid ⟨hxC, World.ownsRow_nil _ _ _ _, fun d hd => (by cases hd), Nat.le_of_lt hxC.lt⟩
  have HMM := Lib.hid hm
  have hcx := hx.len
  have hmx := hx.cap
  unfold maxLen at hmx hm
  clear hb1 hxR hxC hx hl b8
  go_enter Try.func89, Try.ntmps89
  go_wp2_with fail
  rw [← hW1]
  clear hW1
  obtain ⟨gR, hgR⟩ : ∃ gR, gR = w.heap.size := ⟨_, rfl⟩
  obtain ⟨gC, hgC⟩ : ∃ gC, gC = w.heap.size + 1 := ⟨_, rfl⟩
  have HGR := Lib.hid hgR
  have hgrc : Hid (gR ≠ gC ∧ w.heap.size ≤ gC ∧ gR < gC) := Lib.hid ⟨by omega, by omega, by omega⟩
  rw [← hgC] at HC1
  rw [← hgR] at HXR
  rw [show (Value.pointer (some ⟨w.heap.size, 0, none⟩)) = Value.pointer (some ⟨gR, 0, none⟩) by rw [hgR], show (Value.pointer (some ⟨w.heap.size + 1, 0, none⟩)) = Value.pointer (some ⟨gC, 0, none⟩) by rw [hgC]]
  clear hgR hgC
  go_loopw [7, 20] (fun a i wr => ∃ (j at' s e : Nat) (va : Value) (La : List D) (ps : List (List T)), j ≤ X.length ∧ i = .int .i64 (j : Int) ∧ a = .int .i64 (at' : Int) ∧ at' ≤ fq ∧ s ≤ 60000000 ∧ e ≤ 10000 ∧ La.length ≤ 20000 ∧
    Hid (Left bs fq (X.map D.t) at' ((X.map D.t).drop j) ps) ∧ Hid (evs bs 0 (X.map D.t) 0 = evs bs at' ((X.map D.t).drop j) e) ∧ Hid (s = lowS ps 0) ∧ Hid (Rel La ps) ∧ Hid (Cb gC wr gC va (.slice Ax X.length cx) La s e) ∧ Hid (Lift.Box wr gR 89 [.slice none 0 0, .slice none 0 0, .int .i64 0, .int .i64 0]) ∧ Hid (Below w.heap.size w wr))
    (fun _ i _ => X.length + 1 - (intOf i).toNat)
  case atStart => exact ⟨0, 0, 0, 0, _, [], [], Nat.zero_le _, rfl, rfl, Nat.zero_le _, Nat.zero_le _, Nat.zero_le _, Nat.zero_le _, Lib.hid (Left.start _ _ _), Lib.hid rfl, Lib.hid rfl, Lib.hid (.inl rfl), HC1, HXR, HB1⟩
  case round =>
    obtain ⟨j, at', s, e, va, La, ps, hj, rfl, rfl, hat, hs6, he6, hLa, hleft, hev, hlow, hrel2, hcb, hzb, hb⟩ := hrel
    by_cases hlt : j < X.length
    · obtain ⟨d, hd⟩ : ∃ d, X[j]? = some d := ⟨_, List.getElem?_eq_getElem hlt⟩
      have hE := HX.out.next hb.out
      obtain ⟨ad, p, hA, hp, hq4⟩ := place4 hE hd
      subst hA
      have okd := hE.ok d (List.mem_of_getElem? hd)
      have HDR : Hid ((X.map D.t).drop j = d.t :: (X.map D.t).drop (j + 1)) := Lib.hid (drop_at (by rw [List.getElem?_map, hd]; rfl))
      have hld := hq4.load
      obtain ⟨-, q0, q1, q2, q3⟩ := hq4
      obtain ⟨W2, hW2⟩ : ∃ W2 : World, W2 = wr.alloc (ebox d) := ⟨_, rfl⟩
      have hb2 : Below wr.heap.size wr W2 := by rw [hW2]; exact below_box wr d
      have hx2 : At4 W2 ⟨wr.heap.size, 0, none⟩ d := by
        have hx := Bx.new wr d
        obtain ⟨x0, x1, x2, x3, -⟩ := hx.facts
        rw [hW2]
        exact ⟨by simp, x0, x1, x2, x3⟩
      have okd2 := okd.next hb2
      have HLA := Lib.hid (lenat_any d.va d.vc W2.heap.size at' d.val W2 (okd2.vl.lies fun k hk => hk) okd2.vc okd2.vm okd2.v8 (by omega))
      have HOD := Lib.hid okd2
      have HX2 := Lib.hid hx2
      have HB2 := Lib.hid (hb.out.trans (hb2.mono hb.out.size))
      have HC2 := Lib.hid (hcb.out.below hb2)
      have HZ2 := Lib.hid (hzb.out.below hb2 hzb.out.lt)
      have V8 := Lib.hid okd.v8
      have hszr : Hid (gC < wr.heap.size ∧ wr.heap.size ≤ W2.heap.size) := Lib.hid ⟨hcb.out.box.lt, hb2.size⟩
      obtain ⟨-, x0, x1, x2, x3⟩ := hx2
      obtain ⟨q, hqq⟩ : ∃ q, fq = at' + q := ⟨fq - at', by omega⟩
      have eq1 : (fq : Int) - (at' : Int) = (q : Int) := by omega
      have uq : IntKind.u64.wrap (q : Int) = (q : Int) := IntWalk.u64_in _ (by omega)
      have HQQ := Lib.hid hqq
      clear hd hE okd okd2 hb2 hqq
      go_upto_region 6 with fail
      rw [← hW2]
      clear hW2 q0 q1 q2 q3 hld hp
      go_wp2_with fail
      refine HLA.out.mono ?_
      rintro e9 w9 ⟨rfl, hw9⟩
      subst hw9
      clear HLA
      cases hla : lenA d.val at' with
      | none =>
        rw [show lenV none = Value.tuple #[.int .u64 0, .bool false] from rfl]
        have HW : Hid (walk bs fq 0 (X.map D.t) = .error 2) := Lib.hid (hleft.out.err (by rw [HDR.out]; exact walk_none (t := d.t) hla))
        have hz := HZ2.out
        clear hla
        have z0 : W2.cell? ⟨gR, 0, none⟩ = some (.slice none 0 0) := hz.cell 0
        have z1 : W2.cell? ⟨gR, 1, none⟩ = some (.slice none 0 0) := hz.cell 1
        have z2 : W2.cell? ⟨gR, 2, none⟩ = some (.int .i64 0) := hz.cell 2
        have z3 : W2.cell? ⟨gR, 3, none⟩ = some (.int .i64 0) := hz.cell 3
        have y0 : W2.frozen? ⟨gR, 0, none⟩ = false := hz.free 0
        have y1 : W2.frozen? ⟨gR, 1, none⟩ = false := hz.free 1
        have y2 : W2.frozen? ⟨gR, 2, none⟩ = false := hz.free 2
        have y3 : W2.frozen? ⟨gR, 3, none⟩ = false := hz.free 3
        have HZZ := Lib.hid hz
        clear hz
        go_wp2_with fail
        have hbz := put4_box HZZ.out (.slice none 0 0) (.slice none 0 0) (.int .i64 0) (.int .i64 0)
        refine bodyPost_ret (results_box rfl Try.underlying89 (by kernel_rfl) _ rfl hbz) rfl ?_
        exact rbk_bad HW.out (put4_below HB2.out (by rw [HGR.out]; exact Nat.le_refl _) _ _ _ _)
      | some n =>
        rw [show lenV (some n) = Value.tuple #[.int .u64 (n : Int), .bool true] from rfl]
        have HLN := Lib.hid hla
        have hn64 : n < 18446744073709551616 := (lenA_enc V8.out hla).2.1
        clear hla
        by_cases hfar : q < n
        · have HW : Hid (walk bs fq 0 (X.map D.t) = .error 2) := Lib.hid (hleft.out.err (by rw [HDR.out]; exact walk_far (t := d.t) HLN.out (by have := HQQ.out; omega)))
          have d1 : decide ((q : Int) < (n : Int)) = true := decide_eq_true (by omega)
          have d1' : decide (q < n) = true := decide_eq_true hfar
          have hz := HZ2.out
          clear hfar
          have z0 : W2.cell? ⟨gR, 0, none⟩ = some (.slice none 0 0) := hz.cell 0
          have z1 : W2.cell? ⟨gR, 1, none⟩ = some (.slice none 0 0) := hz.cell 1
          have z2 : W2.cell? ⟨gR, 2, none⟩ = some (.int .i64 0) := hz.cell 2
          have z3 : W2.cell? ⟨gR, 3, none⟩ = some (.int .i64 0) := hz.cell 3
          have y0 : W2.frozen? ⟨gR, 0, none⟩ = false := hz.free 0
          have y1 : W2.frozen? ⟨gR, 1, none⟩ = false := hz.free 1
          have y2 : W2.frozen? ⟨gR, 2, none⟩ = false := hz.free 2
          have y3 : W2.frozen? ⟨gR, 3, none⟩ = false := hz.free 3
          have HZZ := Lib.hid hz
          clear hz
          go_wp2_with fail
          have hbz := put4_box HZZ.out (.slice none 0 0) (.slice none 0 0) (.int .i64 0) (.int .i64 0)
          refine bodyPost_ret (results_box rfl Try.underlying89 (by kernel_rfl) _ rfl hbz) rfl ?_
          exact rbk_bad HW.out (put4_below HB2.out (by rw [HGR.out]; exact Nat.le_refl _) _ _ _ _)
        · have d1 : decide ((q : Int) < (n : Int)) = false := decide_eq_false (by omega)
          have d1' : decide (q < n) = false := decide_eq_false hfar
          have hnq : n ≤ q := by omega
          have HNQ : Hid (n ≤ fq - at') := Lib.hid (by have := HQQ.out; omega)
          have hanq : at' + n ≤ fq := by have := HQQ.out; omega
          have un : IntKind.i64.wrap (n : Int) = (n : Int) := IntWalk.i64_in _ (by have := HQQ.out; omega)
          obtain ⟨A5, hA5, -, hcut⟩ := cut_mid Ab fq cb at' n (by omega) (by omega) HMM.out
          have hsl : ((bs.drop at').take n).length = n := by rw [List.length_take, List.length_drop]; omega
          have hlsl : Lies W2 W2.heap.size A5 (((bs.drop at').take n).map vb) := Lies.cut ((HL.out.below HB2.out).up HB2.out.size) (fun h => hA5 (by rw [hsl] at h; exact h)) (List.take_prefix _ _)
          have HOP : Hid (Calls Try.prog 109 #[.slice A5 n (cb - at')] W2 (Opnd W2 ((bs.drop at').take n))) := Lib.hid (by
            have h := oopen_any A5 (cb - at') ((bs.drop at').take n) W2 hlsl (by rw [hsl]; omega) (Nat.le_trans (Nat.sub_le _ _) HMM.out) (by rw [hsl]; omega) (fun x hx => B8.out x (List.mem_of_mem_drop (List.mem_of_mem_take hx)))
            rwa [hsl] at h)
          have HCUT : Hid (∀ W : World, Sem.run Try.prog (Instr.slice 25 (.slice Ab fq cb) (some (.int .i64 (at' : Int))) (some (.int .i64 ((at' : Int) + (n : Int)))) none) W = .ok (.slice A5 n (cb - at')) W) := Lib.hid fun W => hcut W _ rfl
          have hcutw := HCUT.out
          have HSL := Lib.hid hsl
          have hbl := allB_le ((bs.drop at').take n)
          clear hfar hcut hA5 hlsl hsl
          go_wp2_with fail
          refine HOP.out.mono ?_
          rintro e9 W3 ⟨hb3, (⟨h1, h2, rfl⟩ | ⟨h2, A6, c6, Lp, hB, h1, rfl, hents⟩)⟩
          · obtain ⟨m, hm2⟩ : ∃ m, m = (allB ((bs.drop at').take n)).2 := ⟨_, rfl⟩
            have HW : Hid (walk bs fq 0 (X.map D.t) = .error (inner m)) := Lib.hid (hleft.out.err (by rw [HDR.out, hm2]; exact walk_blk (t := d.t) HLN.out HNQ.out h2))
            rw [← hm2] at hbl h2 ⊢
            have d2 : ((m : Int) != 0) = true := by rw [bne_iff_ne]; omega
            have HDF := Lib.hid (defect_any m W3)
            have HB3 := Lib.hid (HB2.out.trans (hb3.mono HB2.out.size))
            have hz := HZ2.out.below hb3 HZ2.out.lt
            have him : inner m ≤ 10 := by unfold inner; split <;> omega
            clear hb3 h1 h2 hm2 HOP
            have z0 : W3.cell? ⟨gR, 0, none⟩ = some (.slice none 0 0) := hz.cell 0
            have z1 : W3.cell? ⟨gR, 1, none⟩ = some (.slice none 0 0) := hz.cell 1
            have z2 : W3.cell? ⟨gR, 2, none⟩ = some (.int .i64 0) := hz.cell 2
            have z3 : W3.cell? ⟨gR, 3, none⟩ = some (.int .i64 0) := hz.cell 3
            have y0 : W3.frozen? ⟨gR, 0, none⟩ = false := hz.free 0
            have y1 : W3.frozen? ⟨gR, 1, none⟩ = false := hz.free 1
            have y2 : W3.frozen? ⟨gR, 2, none⟩ = false := hz.free 2
            have y3 : W3.frozen? ⟨gR, 3, none⟩ = false := hz.free 3
            have HZZ := Lib.hid hz
            clear hz
            go_wp2_with fail
            refine HDF.out.mono ?_
            rintro e9 w9 ⟨rfl, hw9⟩
            subst hw9
            go_wp2_with fail
            have hbz := put4_box HZZ.out (.slice none 0 0) (.slice none 0 0) (.int .i64 0) (.int .i64 0)
            refine bodyPost_ret (results_box rfl Try.underlying89 (by kernel_rfl) _ rfl hbz) rfl ?_
            exact rbk_bad HW.out (put4_below HB3.out (by rw [HGR.out]; exact Nat.le_refl _) _ _ _ _)
          · have H1 := Lib.hid h1
            have H2 := Lib.hid h2
            obtain ⟨v, hv⟩ : ∃ v, v = evB ((bs.drop at').take n) := ⟨_, rfl⟩
            have HV := Lib.hid hv
            have hv4 : v ≤ 10000 := by rw [hv]; exact evB_le h2 (by rw [HSL.out]; omega)
            rw [← hv]
            have HB3 := Lib.hid (HB2.out.trans (hb3.mono HB2.out.size))
            have HC3 := Lib.hid (HC2.out.below hb3)
            have HZ3 := Lib.hid (HZ2.out.below hb3 HZ2.out.lt)
            have HE3 := Lib.hid hents
            have hx3 := HX2.out.keep hb3
            have hpl : Lp.length ≤ 10000 := by
              have := (may_zero hB.1).2.2
              rwa [List.length_map] at this
            have HPOK : Hid (∀ d, d ∈ Lp → okT d.t = true) := Lib.hid fun d hd => (may_zero hB.1).1 _ (List.mem_map.2 ⟨d, hd, rfl⟩)
            have hld3 := key_load hx3.2.1 hx3.2.2.1 hx3.2.2.2.1
            obtain ⟨-, x0, x1, x2, x3⟩ := hx3
            have HPT := Lib.hid (ptsto_any d.ka A6 d.kc c6 d.k Lp W3 ((HOD.out.next hb3).at' fun k hk => hk) (hents.mono fun k hk => hk.2))
            have hs23 : Hid (W2.heap.size ≤ W3.heap.size) := Lib.hid hb3.size
            clear h1 h2 hb3 hents hB hv HOP
            obtain ⟨pt, hpt⟩ : ∃ pt, pt = ptsB d.k (Lp.map D.t) := ⟨_, rfl⟩
            have HPB := Lib.hid hpt
            rw [← hpt] at HPT
            clear hpt
            go_wp2_with fail
            refine HPT.out.mono ?_
            rintro e9 W4 ⟨rfl, hb4⟩
            have HB4 := Lib.hid (HB3.out.trans (hb4.mono HB3.out.size))
            have HC4 := Lib.hid (HC3.out.below hb4)
            have HZ4 := Lib.hid (HZ3.out.below hb4 HZ3.out.lt)
            have HE4 : Hid (Ents W4 (Rq gC W4 gC va) A6 c6 Lp) := Lib.hid (HE3.out.later (fun k hk => hb4.block k hk.2) fun k hk => ⟨Nat.lt_of_lt_of_le hk.2 hb4.size, by have h1 := hszr.out.1; have h2 := hszr.out.2; have h3 := hk.1; omega, fun hv => by
              have h4 := (hcb.out.own.lt k hv).2
              have h5 := hszr.out.2
              have h6 := hk.1
              omega, by have h1 := hszr.out.1; have h2 := hszr.out.2; have h3 := hk.1; omega⟩)
            clear hb4 HPT x0 x1 x2 x3 hld3
            cases pt
            · have HW : Hid (walk bs fq 0 (X.map D.t) = .error 2) := Lib.hid (hleft.out.err (by rw [HDR.out]; exact walk_key (t := d.t) HLN.out HNQ.out H2.out (by rw [H1.out]; exact HPB.out.symm)))
              have hz := HZ4.out
              have z0 : W4.cell? ⟨gR, 0, none⟩ = some (.slice none 0 0) := hz.cell 0
              have z1 : W4.cell? ⟨gR, 1, none⟩ = some (.slice none 0 0) := hz.cell 1
              have z2 : W4.cell? ⟨gR, 2, none⟩ = some (.int .i64 0) := hz.cell 2
              have z3 : W4.cell? ⟨gR, 3, none⟩ = some (.int .i64 0) := hz.cell 3
              have y0 : W4.frozen? ⟨gR, 0, none⟩ = false := hz.free 0
              have y1 : W4.frozen? ⟨gR, 1, none⟩ = false := hz.free 1
              have y2 : W4.frozen? ⟨gR, 2, none⟩ = false := hz.free 2
              have y3 : W4.frozen? ⟨gR, 3, none⟩ = false := hz.free 3
              have HZZ := Lib.hid hz
              clear hz
              go_wp2_with fail
              have hbz := put4_box HZZ.out (.slice none 0 0) (.slice none 0 0) (.int .i64 0) (.int .i64 0)
              refine bodyPost_ret (results_box rfl Try.underlying89 (by kernel_rfl) _ rfl hbz) rfl ?_
              exact rbk_bad HW.out (put4_below HB4.out (by rw [HGR.out]; exact Nat.le_refl _) _ _ _ _)
            · have hws := walk_step (fp := fq) (X := (X.map D.t).drop (j + 1)) (t := d.t) V8.out HLN.out HNQ.out H2.out (by rw [H1.out]; exact HPB.out.symm)
              obtain ⟨hwk, hnn⟩ := hws
              rw [H1.out] at hwk
              have hlf := hleft.out
              rw [HDR.out] at hlf
              have HLF : Hid (Left bs fq (X.map D.t) (at' + n) ((X.map D.t).drop (j + 1)) (ps ++ [Lp.map D.t])) := Lib.hid (by
                have h := hlf.next (p := Lp.map D.t) (by rw [← hnn]; exact hwk)
                rwa [← hnn] at h)
              have HEV : Hid (evs bs 0 (X.map D.t) 0 = evs bs (at' + n) ((X.map D.t).drop (j + 1)) (max e v)) := Lib.hid (by
                rw [hev.out, HDR.out, HV.out]
                show evs bs (at' + nOf d.t) _ (max e (evB ((bs.drop at').take (nOf d.t)))) = _
                rw [← hnn])
              have HLO : Hid (max s (weigh (Lp.map D.t).dropLast + 1) = lowS (ps ++ [Lp.map D.t]) 0) := Lib.hid (by rw [lowS_snoc, hlow.out])
              have hpne : Lp ≠ [] := fun h => by
                have := ((ptsB_iff _ _).1 HPB.out.symm).1
                rw [h] at this
                exact this rfl
              have hwle : weigh (Lp.map D.t).dropLast + 1 ≤ 60000000 := by
                have h1 := weigh_max (Lp.map D.t).dropLast fun t ht => by
                  rw [List.dropLast_eq_take] at ht
                  obtain ⟨d, hd, rfl⟩ := List.mem_map.1 (List.mem_of_mem_take ht)
                  exact okT_len (HPOK.out d hd)
                rw [List.length_dropLast, List.length_map] at h1
                omega
              have HREL : Hid (Rel (addL La Lp) (ps ++ [Lp.map D.t])) := Lib.hid hrel2.out.next
              have hal := addL_len (Lp := Lp) hLa hpl
              have HAD := Lib.hid (oadd_any gC gC s e v c6 va (.slice (some ad) X.length cx) La Lp A6 W4 HC4.out HE4.out hpne hpl hLa HPOK.out (by omega) (by omega) (by omega))
              obtain ⟨S, hS⟩ : ∃ S, S = max s (weigh (Lp.map D.t).dropLast + 1) := ⟨_, rfl⟩
              have hS6 : S ≤ 60000000 := by omega
              obtain ⟨V, hV⟩ : ∃ V, V = max e v := ⟨_, rfl⟩
              have hV6 : V ≤ 10000 := by omega
              rw [← hS, ← hV] at HAD
              rw [← hS] at HLO
              rw [← hV] at HEV
              obtain ⟨LL, hLL⟩ : ∃ LL, LL = addL La Lp := ⟨_, rfl⟩
              rw [← hLL] at HAD HREL hal
              clear hwk hnn hlf hpne hwle hS hV hLL
              go_wp2_with fail
              refine HAD.out.mono ?_
              rintro e9 W5 ⟨rfl, va', hC5, hk5, hpl5⟩
              have HC5 := Lib.hid hC5
              have HB5 : Hid (Below w.heap.size w W5) := Lib.hid (HB4.out.trans (hk5.below HB4.out.size fun k hk => by
                rcases hk with h | h
                · rw [h]; exact hgrc.out.2.1
                · exact Nat.le_trans hgrc.out.2.1 (HC4.out.own.lt k h).1))
              have HZ5 : Hid (Lift.Box W5 gR 89 [.slice none 0 0, .slice none 0 0, .int .i64 0, .int .i64 0]) := Lib.hid (HZ4.out.keep hk5 (fun h => by
                rcases h with h | h
                · exact hgrc.out.1 h
                · exact own_apart HC4.out.own HZ4.out (by decide) h))
              clear hC5 hk5 hpl5 HAD
              go_wp2_with fail
              go_roundw
              case rel => exact ⟨j + 1, at' + n, S, V, va', LL, ps ++ [Lp.map D.t], by omega, by go_num, by go_num, hanq, hS6, hV6, hal, HLF, HEV, HLO, HREL, HC5, HZ5, HB5⟩
              case measure => simp [intOf]; omega
    · obtain rfl : j = X.length := by omega
      have hdn : (X.map D.t).drop X.length = [] := List.drop_eq_nil_of_le (by rw [List.length_map]; exact Nat.le_refl _)
      rw [hdn] at hleft hev
      have HWK := Lib.hid (hleft.out.done).1
      have HEV : Hid (evs bs 0 (X.map D.t) 0 = e) := Lib.hid hev.out
      obtain ⟨Aa, ca, hva, a1, a2, a3⟩ := own_parts hcb.out.own
      subst hva
      have hbc := hcb.out.box
      have hldc := cont_load hbc
      have c0 : wr.cell? ⟨gC, 0, none⟩ = some (.slice Aa La.length ca) := hbc.cell 0
      have c1 : wr.cell? ⟨gC, 1, none⟩ = some (.slice Ax X.length cx) := hbc.cell 1
      have c2 : wr.cell? ⟨gC, 2, none⟩ = some (.int .i64 (s : Int)) := hbc.cell 2
      have c3 : wr.cell? ⟨gC, 3, none⟩ = some (.int .i64 (e : Int)) := hbc.cell 3
      have HEN : Hid (Ents wr (fun k => (w.heap.size ≤ k ∧ k < wr.heap.size) ∧ k ≠ gR) Aa ca La) := Lib.hid ⟨LiesP.later (LiesP.of_own hcb.out.own) (fun _ _ => rfl) (fun k hk => ⟨⟨Nat.le_trans hgrc.out.2.1 hk.1, hk.2.1⟩, by have h1 := hgrc.out.2.2; have h2 := hk.1; omega⟩), a1, a2, fun d hd => (hcb.out.ok d hd).later (fun _ _ => rfl) fun k hk => ⟨⟨Nat.le_trans hgrc.out.2.1 hk.2.2.2, hk.1⟩, by have h1 := hgrc.out.2.2; have h2 := hk.2.2.2; omega⟩⟩
      have hz := hzb.out
      clear hdn a1 a2 a3 hbc hev hleft
      have z0 : wr.cell? ⟨gR, 0, none⟩ = some (.slice none 0 0) := hz.cell 0
      have z1 : wr.cell? ⟨gR, 1, none⟩ = some (.slice none 0 0) := hz.cell 1
      have z2 : wr.cell? ⟨gR, 2, none⟩ = some (.int .i64 0) := hz.cell 2
      have z3 : wr.cell? ⟨gR, 3, none⟩ = some (.int .i64 0) := hz.cell 3
      have y0 : wr.frozen? ⟨gR, 0, none⟩ = false := hz.free 0
      have y1 : wr.frozen? ⟨gR, 1, none⟩ = false := hz.free 1
      have y2 : wr.frozen? ⟨gR, 2, none⟩ = false := hz.free 2
      have y3 : wr.frozen? ⟨gR, 3, none⟩ = false := hz.free 3
      have HZZ := Lib.hid hz
      clear hz
      go_wp2_with fail
      have hbz := put4_box HZZ.out (.slice Aa La.length ca) (.slice Ax X.length cx) (.int .i64 (s : Int)) (.int .i64 (e : Int))
      refine bodyPost_ret (results_box rfl Try.underlying89 (by kernel_rfl) _ rfl hbz) rfl ?_
      have hsz := put4_size wr gR (.slice Aa La.length ca) (.slice Ax X.length cx) (.int .i64 (s : Int)) (.int .i64 (e : Int))
      refine ⟨put4_below hb.out (by rw [HGR.out]; exact Nat.le_refl _) _ _ _ _, .inr ⟨ps, Aa, ca, La, HWK.out, by rw [← hlow.out, HEV.out]; rfl, HEN.out.later (fun k hk => put4_off wr gR _ _ _ _ k hk.2) (fun k hk => ⟨hk.1.1, by rw [hsz]; exact hk.1.2⟩), hrel2.out, hLa⟩⟩
end Go.Proofs.Ytobjiamdljjkjaa.Tb

/- Package table: open. -/
namespace Go.Proofs.Ytobjiamdljjkjaa.Tb
set_option linter.unusedVariables false
set_option linter.unusedSimpArgs false
open Go.RowKit Lift Ik Sk Vn Bk Bl Sq
theorem cut_to32 (A : Option Addr) (n c k : Nat) (h : k ≤ c) (hc : n ≤ c) (hm : c ≤ maxLen) (hk : k < 4294967296) (W : World) : Sem.run Try.prog (Instr.slice 25 (.slice A n c) none (some (.int .u32 (k : Int))) none) W = .ok (.slice A k c) W := by
  unfold maxLen at hm
  go_simp
theorem cut_mid32 (A : Option Addr) (n c p k : Nat) (h : p + k ≤ n) (hc : n ≤ c) (hm : c ≤ maxLen) (hp : p < 4294967296) :
    ∃ A' : Option Addr, (0 < k → A' = A.map (·.add p)) ∧ ∀ (W : World) (q : Int), q = (p : Int) + (k : Int) → Sem.run Try.prog (Instr.slice 25 (.slice A n c) (some (.int .u32 (p : Int))) (some (.int .i64 q)) none) W = .ok (.slice A' k (c - p)) W := by
  unfold maxLen at hm
  by_cases hcp : c = p
  · refine ⟨A, fun h0 => by omega, fun W q hq => ?_⟩
    obtain rfl : k = 0 := by omega
    obtain rfl : n = p := by omega
    subst hcp hq
    go_simp
  · refine ⟨A.map (·.add p), fun _ => rfl, fun W q hq => ?_⟩
    subst hq
    go_simp
    rw [if_pos ⟨by omega, by omega⟩, if_pos (by omega), show ((p : Int) + (k : Int)).toNat - p = k by omega]
theorem cut_both32 (A : Option Addr) (n c p k : Nat) (h : p + k ≤ n) (hc : n ≤ c) (hm : c ≤ maxLen) (hp : p + k < 4294967296) :
    ∃ A' : Option Addr, (0 < k → A' = A.map (·.add p)) ∧ ∀ (W : World) (q : Nat), q = p + k → Sem.run Try.prog (Instr.slice 25 (.slice A n c) (some (.int .u32 (p : Int))) (some (.int .u32 (q : Int))) none) W = .ok (.slice A' k (c - p)) W := by
  unfold maxLen at hm
  by_cases hcp : c = p
  · refine ⟨A, fun h0 => by omega, fun W q hq => ?_⟩
    obtain rfl : k = 0 := by omega
    obtain rfl : n = p := by omega
    subst hcp hq
    go_simp
  · refine ⟨A.map (·.add p), fun _ => rfl, fun W q hq => ?_⟩
    subst hq
    go_simp
    rw [if_pos ⟨by omega, by omega⟩, if_pos (by omega), show ((p : Int) + (k : Int)).toNat - p = k by omega]
theorem walk_pos {bs : List Nat} {fp : Nat} : ∀ (X : List T) (a k : Nat), walk bs fp a X = .error k → k ≠ 0 ∧ k ≤ 10
  | [], a, k, h => by unfold walk at h; cases h
  | t :: X, a, k, h => by
    unfold walk at h
    split at h
    · injection h with h; omega
    · split at h
      · injection h with h; omega
      · dsimp only at h
        split at h
        · injection h with h
          rw [← h]; unfold inner; split <;> omega
        · split at h
          · injection h with h; omega
          · cases hq : walk bs fp (a + (Vt.res t.val ((Vt.res t.val 0).2.1 : Nat)).1) X with
            | error e2 =>
              rw [hq] at h
              injection h with h
              rw [← h]
              exact walk_pos X _ _ hq
            | ok q => rw [hq] at h; cases h
/-- What open answers. -/
def Opt (w : World) (bs : List Nat) (e : Ending) (w' : World) : Prop :=
  Below w.heap.size w w' ∧ ((∃ n : Nat, tallO bs = ([], [], n) ∧ n ≠ 0 ∧ e = .returned (.tuple #[.agg #[.slice none 0 0, .slice none 0 0, .int .i64 0, .int .i64 0], .int .i64 (n : Int)])) ∨
    ∃ (A1 : Option Addr) (c1 : Nat) (L1 : List D) (A2 : Option Addr) (c2 : Nat) (L2 : List D) (s v : Int), tallO bs = (L1.map D.t, L2.map D.t, 0) ∧ e = .returned (.tuple #[.agg #[.slice A1 L1.length c1, .slice A2 L2.length c2, .int .i64 s, .int .i64 v], .int .i64 0]) ∧
      Ents w' (fun k => w.heap.size ≤ k ∧ k < w'.heap.size) A1 c1 L1 ∧ Ents w' (fun k => w.heap.size ≤ k ∧ k < w'.heap.size) A2 c2 L2)
theorem opt_bad {w w' : World} {bs : List Nat} {n : Nat} (h : tallO bs = ([], [], n)) (hn : n ≠ 0) (hb : Below w.heap.size w w') : Opt w bs (.returned (.tuple #[.agg #[.slice none 0 0, .slice none 0 0, .int .i64 0, .int .i64 0], .int .i64 (n : Int)])) w' := ⟨hb, .inl ⟨n, h, hn, rfl⟩⟩
theorem at4_ft (bs : List Nat) (i : Nat) : at4 (bs.drop (bs.length - 24)) i = ft bs i := by
  unfold at4 ft
  rw [List.drop_drop]
set_option maxRecDepth 100000 in
set_option maxHeartbeats 6400000 in
theorem oopent_any (A : Option Addr) (c : Nat) (bs : List Nat) (w : World) (hl : Lies w w.heap.size A (bs.map vb)) (hc : bs.length ≤ c) (hm : c ≤ maxLen) (hs : bs.length ≤ 10000000) (h8 : ∀ x, x ∈ bs → x < 256) :
    Calls Try.prog 53 #[.slice A bs.length c] w (Opt w bs) := by
  obtain ⟨W0, hW0⟩ : ∃ W0 : World, W0 = w.alloc (.cells #[.slice none 0 0, .slice none 0 0, .int .i64 0, .int .i64 0] 89) := ⟨_, rfl⟩
  have hb0 : Below w.heap.size w W0 := by rw [hW0]; exact Joins.below_alloc1 w _
  have hx0 : Lift.Box W0 w.heap.size 89 [.slice none 0 0, .slice none 0 0, .int .i64 0, .int .i64 0] := by rw [hW0]; exact Lift.Box.new w _ _
  have HB0 := Lib.hid hb0
  have HZ0 := Lib.hid hx0
  have HL := Lib.hid hl
  have H8 := Lib.hid h8
  have HM := Lib.hid hm
  obtain ⟨gR, hgR⟩ : ∃ gR, gR = w.heap.size := ⟨_, rfl⟩
  have HGR := Lib.hid hgR
  rw [← hgR] at HZ0
  unfold maxLen at hm
  clear hb0 hx0 hl h8
  go_enter Try.func53, Try.ntmps53
  go_upto_region 1 with fail
  rw [← hW0, show (Value.pointer (some ⟨w.heap.size, 0, none⟩)) = Value.pointer (some ⟨gR, 0, none⟩) by rw [hgR]]
  clear hW0 hgR
  by_cases h24 : bs.length < 24
  · have HE := Lib.hid (tallO_short h24)
    have d1 : decide ((bs.length : Int) < 24) = true := decide_eq_true (by omega)
    have d1' : decide (bs.length < 24) = true := decide_eq_true h24
    have hz := HZ0.out
    clear h24
    have z0 : W0.cell? ⟨gR, 0, none⟩ = some (.slice none 0 0) := hz.cell 0
    have z1 : W0.cell? ⟨gR, 1, none⟩ = some (.slice none 0 0) := hz.cell 1
    have z2 : W0.cell? ⟨gR, 2, none⟩ = some (.int .i64 0) := hz.cell 2
    have z3 : W0.cell? ⟨gR, 3, none⟩ = some (.int .i64 0) := hz.cell 3
    have y0 : W0.frozen? ⟨gR, 0, none⟩ = false := hz.free 0
    have y1 : W0.frozen? ⟨gR, 1, none⟩ = false := hz.free 1
    have y2 : W0.frozen? ⟨gR, 2, none⟩ = false := hz.free 2
    have y3 : W0.frozen? ⟨gR, 3, none⟩ = false := hz.free 3
    have HZZ := Lib.hid hz
    clear hz
    go_wp2_with fail
    have hbz := put4_box HZZ.out (.slice none 0 0) (.slice none 0 0) (.int .i64 0) (.int .i64 0)
    refine bodyPost_ret (results_box rfl Try.underlying89 (by kernel_rfl) _ rfl hbz) rfl ?_
    exact opt_bad HE.out (by first | decide | omega) (put4_below HB0.out (by rw [HGR.out]; exact Nat.le_refl _) _ _ _ _)
  · have d1 : decide ((bs.length : Int) < 24) = false := decide_eq_false (by omega)
    have d1' : decide (bs.length < 24) = false := decide_eq_false h24
    have H24 := Lib.hid h24
    obtain ⟨z, hz24⟩ : ∃ z, bs.length = z + 24 := ⟨bs.length - 24, by omega⟩
    have HZ24 := Lib.hid hz24
    have ez : (bs.length : Int) - 24 = (z : Int) := by omega
    have hz7 : z ≤ 10000000 := by omega
    obtain ⟨A1, hA1, -, hcut⟩ := cut_from A bs.length c z (by omega) hc HM.out
    rw [show bs.length - z = 24 from by omega] at hcut hA1
    have HCUT : Hid (∀ W : World, Sem.run Try.prog (Instr.slice 25 (.slice A bs.length c) (some (.int .i64 (z : Int))) none none) W = .ok (.slice A1 24 (c - z)) W) := Lib.hid hcut
    have hxl : (bs.drop z).length = 24 := by rw [List.length_drop]; omega
    have HFT := Lib.hid (ofoot_any A1 (c - z) (bs.drop z) W0 (Lies.cut ((HL.out.below HB0.out).up HB0.out.size) (fun h => hA1 (by omega)) (List.prefix_refl _)) hxl (by omega) (Nat.le_trans (Nat.sub_le _ _) HM.out) (fun x hx => H8.out x (List.mem_of_mem_drop hx)))
    have HSUM : Hid ((bs.drop z).drop 20 = bs.drop (bs.length - 4) ∧ (bs.drop z).take 20 = (bs.drop (bs.length - 24)).take 20) := Lib.hid ⟨by rw [List.drop_drop, show z + 20 = bs.length - 4 from by omega], by rw [show bs.length - 24 = z from by omega]⟩
    have HAT : Hid (∀ i, at4 (bs.drop z) i = ft bs i) := Lib.hid fun i => by rw [← at4_ft, show bs.length - 24 = z from by omega]
    have H32 : Hid (∀ i, ft bs i < 4294967296) := Lib.hid fun i => by
      rw [← at4_ft]
      exact at4_lt (fun x hx => H8.out x (List.mem_of_mem_drop hx)) i
    have hcutw := HCUT.out
    clear h24 hcut hA1 hxl hz24
    go_wp2_with fail
    refine HFT.out.mono ?_
    rintro e9 W1 ⟨hb1, (⟨hsum, rfl⟩ | ⟨hsum, rfl⟩)⟩
    · rw [HAT.out, HAT.out, HAT.out, HAT.out, HAT.out]
      have HS : Hid (bs.drop (bs.length - 4) = sum4 ((bs.drop (bs.length - 24)).take 20)) := Lib.hid (by rw [← HSUM.out.1, ← HSUM.out.2]; exact hsum)
      have l0 := H32.out 0
      have l1 := H32.out 4
      have l2 := H32.out 8
      have l3 := H32.out 12
      obtain ⟨n0, hn0⟩ : ∃ n, n = ft bs 0 := ⟨_, rfl⟩
      obtain ⟨n1, hn1⟩ : ∃ n, n = ft bs 4 := ⟨_, rfl⟩
      obtain ⟨n2, hn2⟩ : ∃ n, n = ft bs 8 := ⟨_, rfl⟩
      obtain ⟨n3, hn3⟩ : ∃ n, n = ft bs 12 := ⟨_, rfl⟩
      obtain ⟨n4, hn4⟩ : ∃ n, n = ft bs 16 := ⟨_, rfl⟩
      rw [← hn0, ← hn1, ← hn2, ← hn3, ← hn4]
      rw [← hn0] at l0
      rw [← hn1] at l1
      rw [← hn2] at l2
      rw [← hn3] at l3
      have HN0 := Lib.hid hn0
      have HN1 := Lib.hid hn1
      have HN2 := Lib.hid hn2
      have HN3 := Lib.hid hn3
      obtain ⟨W2, hW2⟩ : ∃ W2 : World, W2 = W1.alloc (.cells #[.int .u32 (n0 : Int), .int .u32 (n1 : Int), .int .u32 (n2 : Int), .int .u32 (n3 : Int), .int .u32 (n4 : Int)] 119) := ⟨_, rfl⟩
      have hb2 : Below W1.heap.size W1 W2 := by rw [hW2]; exact Joins.below_alloc1 W1 _
      have hf2 : Lift.Box W2 W1.heap.size 119 [.int .u32 (n0 : Int), .int .u32 (n1 : Int), .int .u32 (n2 : Int), .int .u32 (n3 : Int), .int .u32 (n4 : Int)] := by rw [hW2]; exact Lift.Box.new W1 _ _
      have hb02 : Below W0.heap.size W0 W2 := hb1.trans (hb2.mono hb1.size)
      have HZ2 := Lib.hid (HZ0.out.below hb02 HZ0.out.lt)
      have HB2 := Lib.hid (HB0.out.trans (hb02.mono HB0.out.size))
      have hldf := foot_load hf2
      obtain ⟨gF, hgF⟩ : ∃ gF, gF = W1.heap.size := ⟨_, rfl⟩
      rw [← hgF] at hf2 hldf
      have HF2 := Lib.hid hf2
      have v0 : W2.cell? ⟨gF, 0, none⟩ = some (.int .u32 (n0 : Int)) := hf2.cell 0
      have v1 : W2.cell? ⟨gF, 1, none⟩ = some (.int .u32 (n1 : Int)) := hf2.cell 1
      have v2 : W2.cell? ⟨gF, 2, none⟩ = some (.int .u32 (n2 : Int)) := hf2.cell 2
      have v3 : W2.cell? ⟨gF, 3, none⟩ = some (.int .u32 (n3 : Int)) := hf2.cell 3
      have v4 : W2.cell? ⟨gF, 4, none⟩ = some (.int .u32 (n4 : Int)) := hf2.cell 4
      have HFI := Lib.hid (fits_any n0 n1 n2 n3 n4 z W2 l0 l1 l2 l3 (by omega))
      clear hn0 hn1 hn2 hn3 hn4 hsum hb1 hb2 hf2 hb02 HFT
      go_upto_region 5 with fail
      rw [← hW2, show (Value.pointer (some ⟨W1.heap.size, 0, none⟩)) = Value.pointer (some ⟨gF, 0, none⟩) by rw [hgF]]
      clear hW2 hgF
      go_wp2_with fail
      refine HFI.out.mono ?_
      rintro e9 W3 ⟨rfl, hb3⟩
      have HB3 := Lib.hid (HB2.out.trans (hb3.mono HB2.out.size))
      have HZ3 := Lib.hid (HZ2.out.below hb3 HZ2.out.lt)
      have HF3 := Lib.hid (HF2.out.below hb3 HF2.out.lt)
      clear v0 v1 v2 v3 v4 hldf hb3 HFI
      by_cases hfit : n0 + n1 = n2 ∧ n2 + n3 = z
      · have df : decide (n0 + n1 = n2 ∧ n2 + n3 = z) = true := decide_eq_true hfit
        obtain ⟨k1, k2⟩ := hfit
        have HK1 := Lib.hid k1
        have HK2 := Lib.hid k2
        have H3 : Hid (ft bs 0 + ft bs 4 = ft bs 8) := Lib.hid (by rw [← HN0.out, ← HN1.out, ← HN2.out]; exact k1)
        have H4 : Hid (ft bs 8 + ft bs 12 = bs.length - 24) := Lib.hid (by rw [← HN2.out, ← HN3.out, HZ24.out, k2]; omega)
        rw [df]
        have hzl := HZ24.out
        obtain ⟨A4, hA4, hcut4⟩ := cut_mid32 A bs.length c n2 n3 (by omega) hc HM.out l2
        have hil : ((bs.drop n2).take n3).length = n3 := by rw [List.length_take, List.length_drop]; omega
        have hixb : ixb bs = (bs.drop n2).take n3 := by unfold ixb; rw [← HN2.out, ← HN3.out]
        have HRI : Hid (Calls Try.prog 88 #[.slice A4 n3 (c - n2)] W3 (Rix W3 (ixb bs))) := Lib.hid (by
          have h := oridx_any A4 (c - n2) ((bs.drop n2).take n3) W3 (Lies.cut ((HL.out.below HB3.out).up HB3.out.size) (fun h => hA4 (by rw [hil] at h; exact h)) (List.take_prefix _ _)) (by rw [hil]; omega) (Nat.le_trans (Nat.sub_le _ _) HM.out) (by rw [hil]; omega) (fun x hx => H8.out x (List.mem_of_mem_drop (List.mem_of_mem_take hx)))
          rw [hil] at h
          rw [hixb]
          exact h)
        have HCUT4 : Hid (∀ W : World, Sem.run Try.prog (Instr.slice 25 (.slice A bs.length c) (some (.int .u32 (n2 : Int))) (some (.int .i64 (z : Int))) none) W = .ok (.slice A4 n3 (c - n2)) W) := Lib.hid fun W => hcut4 W z (by omega)
        have hcutw4 := HCUT4.out
        have HIL : Hid ((ixb bs).length ≤ 10000000) := Lib.hid (by rw [hixb, hil]; omega)
        have hf := HF3.out
        have hn2z : n2 ≤ bs.length := by omega
        have hn012 : n0 + n1 ≤ bs.length := by omega
        clear df k1 k2 hcut4 hA4 hil hixb hzl
        have v0 : W3.cell? ⟨gF, 0, none⟩ = some (.int .u32 (n0 : Int)) := hf.cell 0
        have v2 : W3.cell? ⟨gF, 2, none⟩ = some (.int .u32 (n2 : Int)) := hf.cell 2
        clear hf
        go_wp2_with fail
        refine HRI.out.mono ?_
        rintro e9 W4 ⟨hb4, (⟨h1, rfl⟩ | ⟨h1, h2, rfl⟩ | ⟨h1, h2, A5, c5, X, hX, rfl, hents⟩)⟩
        · have HE : Hid (tallO bs = ([], [], inner (allB (ixb bs)).2)) := Lib.hid (tallO_ix H24.out HS.out H3.out H4.out h1)
          have hle := allB_le (ixb bs)
          generalize (allB (ixb bs)).2 = m at *
          have hi1 : inner m ≠ 0 := by unfold inner; split <;> omega
          have hi2 : inner m ≤ 10 := by unfold inner; split <;> omega
          generalize inner m = im at *
          have d2 : ((im : Int) != 0) = true := by rw [bne_iff_ne]; omega
          have HB4 := Lib.hid (HB3.out.trans (hb4.mono HB3.out.size))
          have hz := HZ3.out.below hb4 HZ3.out.lt
          clear h1 hb4 HRI v0 v2
          have z0 : W4.cell? ⟨gR, 0, none⟩ = some (.slice none 0 0) := hz.cell 0
          have z1 : W4.cell? ⟨gR, 1, none⟩ = some (.slice none 0 0) := hz.cell 1
          have z2 : W4.cell? ⟨gR, 2, none⟩ = some (.int .i64 0) := hz.cell 2
          have z3 : W4.cell? ⟨gR, 3, none⟩ = some (.int .i64 0) := hz.cell 3
          have y0 : W4.frozen? ⟨gR, 0, none⟩ = false := hz.free 0
          have y1 : W4.frozen? ⟨gR, 1, none⟩ = false := hz.free 1
          have y2 : W4.frozen? ⟨gR, 2, none⟩ = false := hz.free 2
          have y3 : W4.frozen? ⟨gR, 3, none⟩ = false := hz.free 3
          have HZZ := Lib.hid hz
          clear hz
          go_wp2_with fail
          have hbz := put4_box HZZ.out (.slice none 0 0) (.slice none 0 0) (.int .i64 0) (.int .i64 0)
          refine bodyPost_ret (results_box rfl Try.underlying89 (by kernel_rfl) _ rfl hbz) rfl ?_
          exact opt_bad HE.out (by first | decide | omega) (put4_below HB4.out (by rw [HGR.out]; exact Nat.le_refl _) _ _ _ _)
        · have HE : Hid (tallO bs = ([], [], 2)) := Lib.hid (tallO_one H24.out HS.out H3.out H4.out h1 fun h => h2 ((evB_one h1 (by have := HIL.out; omega)).2 h))
          have HB4 := Lib.hid (HB3.out.trans (hb4.mono HB3.out.size))
          have hz := HZ3.out.below hb4 HZ3.out.lt
          clear h1 h2 hb4 HRI v0 v2
          have z0 : W4.cell? ⟨gR, 0, none⟩ = some (.slice none 0 0) := hz.cell 0
          have z1 : W4.cell? ⟨gR, 1, none⟩ = some (.slice none 0 0) := hz.cell 1
          have z2 : W4.cell? ⟨gR, 2, none⟩ = some (.int .i64 0) := hz.cell 2
          have z3 : W4.cell? ⟨gR, 3, none⟩ = some (.int .i64 0) := hz.cell 3
          have y0 : W4.frozen? ⟨gR, 0, none⟩ = false := hz.free 0
          have y1 : W4.frozen? ⟨gR, 1, none⟩ = false := hz.free 1
          have y2 : W4.frozen? ⟨gR, 2, none⟩ = false := hz.free 2
          have y3 : W4.frozen? ⟨gR, 3, none⟩ = false := hz.free 3
          have HZZ := Lib.hid hz
          clear hz
          go_wp2_with fail
          have hbz := put4_box HZZ.out (.slice none 0 0) (.slice none 0 0) (.int .i64 0) (.int .i64 0)
          refine bodyPost_ret (results_box rfl Try.underlying89 (by kernel_rfl) _ rfl hbz) rfl ?_
          exact opt_bad HE.out (by first | decide | omega) (put4_below HB4.out (by rw [HGR.out]; exact Nat.le_refl _) _ _ _ _)
        · have HI1 := Lib.hid h1
          have HI2 := Lib.hid ((evB_one h1 (by have := HIL.out; omega)).1 h2)
          have HXX := Lib.hid hX
          have hXn : X.length ≤ 10000 := by
            have := (may_zero (allB_is h1).1).2.2
            rwa [hX, List.length_map] at this
          have HB4 := Lib.hid (HB3.out.trans (hb4.mono HB3.out.size))
          have HZ4 := Lib.hid (HZ3.out.below hb4 HZ3.out.lt)
          have HF4 := Lib.hid (HF3.out.below hb4 HF3.out.lt)
          have HEX : Hid (Ents W4 (fun k => w.heap.size ≤ k ∧ k < W4.heap.size) A5 c5 X) := Lib.hid (hents.mono fun k hk => ⟨Nat.le_trans HB3.out.size hk.1, hk.2⟩)
          have HRB := Lib.hid (oblocks_any A A5 c c5 n2 bs X W4 ((HL.out.below HB4.out).up HB4.out.size) hn2z hc HM.out hs H8.out (hents.mono fun k hk => hk.2) hXn)
          have HXGR : Hid (Ents W4 (fun k => W3.heap.size ≤ k ∧ k < W4.heap.size) A5 c5 X) := Lib.hid hents
          have hgr3 : Hid (gR < W3.heap.size) := Lib.hid HZ3.out.lt
          have hcutw5 := fun W => cut_to32 A bs.length c n2 (by omega) hc HM.out l2 W
          have hf := HF4.out
          clear h1 h2 hX hb4 hents HRI v0 v2
          have v0 : W4.cell? ⟨gF, 0, none⟩ = some (.int .u32 (n0 : Int)) := hf.cell 0
          have v2 : W4.cell? ⟨gF, 2, none⟩ = some (.int .u32 (n2 : Int)) := hf.cell 2
          clear hf
          go_wp2_with fail
          refine HRB.out.mono ?_
          rintro e9 W5 ⟨hb5, (⟨k, hwk, rfl⟩ | ⟨ps, A6, c6, La, hwk, rfl, hen6, hrel, hLa⟩)⟩
          · have HE : Hid (tallO bs = ([], [], k)) := Lib.hid (tallO_walk H24.out HS.out H3.out H4.out HI1.out HI2.out (by rw [← HN2.out, HXX.out]; exact hwk))
            obtain ⟨hk0, hk10⟩ := walk_pos _ _ _ hwk
            have d2 : ((k : Int) != 0) = true := by rw [bne_iff_ne]; omega
            obtain ⟨o, ho⟩ : ∃ o : Obj, o = .cells #[.slice none 0 0, .slice none 0 0, .int .i64 0, .int .i64 0] 89 := ⟨_, rfl⟩
            have hb6 : Below W5.heap.size W5 (W5.alloc o) := Joins.below_alloc1 W5 o
            have hb46 := hb5.trans (hb6.mono hb5.size)
            have HB6 := Lib.hid (HB4.out.trans (hb46.mono HB4.out.size))
            have hz := HZ4.out.below hb46 HZ4.out.lt
            clear hwk hb5 hb6 hb46 HRB v0 v2
            rw [ho] at hz HB6
            clear ho
            have z0 : (W5.alloc (.cells #[.slice none 0 0, .slice none 0 0, .int .i64 0, .int .i64 0] 89)).cell? ⟨gR, 0, none⟩ = some (.slice none 0 0) := hz.cell 0
            have z1 : (W5.alloc (.cells #[.slice none 0 0, .slice none 0 0, .int .i64 0, .int .i64 0] 89)).cell? ⟨gR, 1, none⟩ = some (.slice none 0 0) := hz.cell 1
            have z2 : (W5.alloc (.cells #[.slice none 0 0, .slice none 0 0, .int .i64 0, .int .i64 0] 89)).cell? ⟨gR, 2, none⟩ = some (.int .i64 0) := hz.cell 2
            have z3 : (W5.alloc (.cells #[.slice none 0 0, .slice none 0 0, .int .i64 0, .int .i64 0] 89)).cell? ⟨gR, 3, none⟩ = some (.int .i64 0) := hz.cell 3
            have y0 : (W5.alloc (.cells #[.slice none 0 0, .slice none 0 0, .int .i64 0, .int .i64 0] 89)).frozen? ⟨gR, 0, none⟩ = false := hz.free 0
            have y1 : (W5.alloc (.cells #[.slice none 0 0, .slice none 0 0, .int .i64 0, .int .i64 0] 89)).frozen? ⟨gR, 1, none⟩ = false := hz.free 1
            have y2 : (W5.alloc (.cells #[.slice none 0 0, .slice none 0 0, .int .i64 0, .int .i64 0] 89)).frozen? ⟨gR, 2, none⟩ = false := hz.free 2
            have y3 : (W5.alloc (.cells #[.slice none 0 0, .slice none 0 0, .int .i64 0, .int .i64 0] 89)).frozen? ⟨gR, 3, none⟩ = false := hz.free 3
            have HZZ := Lib.hid hz
            clear hz
            go_wp2_with fail
            have hbz := put4_box HZZ.out (.slice none 0 0) (.slice none 0 0) (.int .i64 0) (.int .i64 0)
            refine bodyPost_ret (results_box rfl Try.underlying89 (by kernel_rfl) _ rfl hbz) rfl ?_
            exact opt_bad HE.out (by first | decide | omega) (put4_below HB6.out (by rw [HGR.out]; exact Nat.le_refl _) _ _ _ _)
          · have HCX : Hid (CtxO bs (X.map D.t) ps) := Lib.hid ⟨H24.out, HS.out, H3.out, H4.out, by rw [← HXX.out, ← HI1.out], by rw [← HXX.out]; exact HI2.out, by rw [← HN2.out]; exact hwk⟩
            have HREL := Lib.hid hrel
            obtain ⟨s, hs2⟩ : ∃ s, s = lowS ps 0 := ⟨_, rfl⟩
            obtain ⟨v, hv2⟩ : ∃ v, v = evs bs 0 (X.map D.t) 0 := ⟨_, rfl⟩
            have HSV : Hid (s = lowS ps 0 ∧ v = evs bs 0 (X.map D.t) 0) := Lib.hid ⟨hs2, hv2⟩
            rw [← hs2, ← hv2]
            obtain ⟨W6, hW6⟩ : ∃ W6 : World, W6 = W5.alloc (.cells #[.slice A6 La.length c6, .slice A5 X.length c5, .int .i64 (s : Int), .int .i64 (v : Int)] 89) := ⟨_, rfl⟩
            have hb6 : Below W5.heap.size W5 W6 := by rw [hW6]; exact Joins.below_alloc1 W5 _
            have hx6 : Lift.Box W6 W5.heap.size 89 [.slice A6 La.length c6, .slice A5 X.length c5, .int .i64 (s : Int), .int .i64 (v : Int)] := by rw [hW6]; exact Lift.Box.new W5 _ _
            obtain ⟨gC, hgC⟩ : ∃ gC, gC = W5.heap.size := ⟨_, rfl⟩
            rw [← hgC] at hx6
            have hb46 := hb5.trans (hb6.mono hb5.size)
            have HB6 := Lib.hid (HB4.out.trans (hb46.mono HB4.out.size))
            have HZ6 := Lib.hid (HZ4.out.below hb46 HZ4.out.lt)
            have HF6 := Lib.hid (HF4.out.below hb46 HF4.out.lt)
            have HX6 := Lib.hid hx6
            have HEX6 : Hid (Ents W6 (fun k => W3.heap.size ≤ k ∧ k < W6.heap.size) A5 c5 X) := Lib.hid (HXGR.out.later (fun k hk => hb46.block k hk.2) fun k hk => ⟨hk.1, Nat.lt_of_lt_of_le hk.2 hb46.size⟩)
            have HEL6 : Hid (Ents W6 (fun k => W4.heap.size ≤ k ∧ k < W6.heap.size) A6 c6 La) := Lib.hid (hen6.later (fun k hk => hb6.block k hk.2) fun k hk => ⟨hk.1, Nat.lt_of_lt_of_le hk.2 hb6.size⟩)
            have hgr4 : Hid (gR < W4.heap.size) := Lib.hid HZ4.out.lt
            obtain ⟨A7, hA7, hcut7⟩ := cut_both32 A bs.length c n0 n1 hn012 hc HM.out (by have := HK1.out; omega)
            have hfl : ((bs.drop n0).take n1).length = n1 := by rw [List.length_take, List.length_drop]; omega
            have HMK : Hid (Calls Try.prog (90) #[.pointer (some ⟨gC, 0, none⟩), .slice A bs.length c, .slice A7 n1 (c - n0)] W6
                (Says W6 (mayT (La.map D.t) = 0 ∧ filB (users none (La.map D.t)) ((bs.drop n0).take n1) ∧ tabF (clampS (s : Int)) (clamp (v : Int)) ((bs.drop n0).take n1) (La.map D.t) = bs))) := Lib.hid (by
              have h := omakes_any gC s v A6 A A7 c6 c (c - n0) (.slice A5 X.length c5) La bs ((bs.drop n0).take n1) W6 hx6 (HEL6.out.mono fun k hk => hk.2) (by omega) ((HL.out.below HB6.out).up HB6.out.size) H8.out
                (Lies.cut ((HL.out.below HB6.out).up HB6.out.size) (fun h => hA7 (by rw [hfl] at h; exact h)) (List.take_prefix _ _)) (by rw [hfl]; omega) (Nat.le_trans (Nat.sub_le _ _) HM.out) (fun x hx => H8.out x (List.mem_of_mem_drop (List.mem_of_mem_take hx))) (by rw [hfl]; omega)
              rw [hfl] at h
              exact h)
            have HCUT7 : Hid (∀ W : World, Sem.run Try.prog (Instr.slice 25 (.slice A bs.length c) (some (.int .u32 (n0 : Int))) (some (.int .u32 (n2 : Int))) none) W = .ok (.slice A7 n1 (c - n0)) W) := Lib.hid fun W => hcut7 W n2 (by have := HK1.out; omega)
            have hcutw7 := HCUT7.out
            have HMI : Hid ((mayT (La.map D.t) = 0 ∧ filB (users none (La.map D.t)) ((bs.drop n0).take n1) ∧ tabF (clampS (s : Int)) (clamp (v : Int)) ((bs.drop n0).take n1) (La.map D.t) = bs) ↔ (IsT bs ps.flatten ∧ La.map D.t = ps.flatten)) := Lib.hid (by
              rcases HREL.out with h | ⟨h, h2⟩
              · have hmk := makes_iff HCX.out
                rw [HSV.out.1, HSV.out.2, HN0.out, HN1.out, h]
                exact ⟨fun q => ⟨hmk.1 q, rfl⟩, fun q => hmk.2 q.1⟩
              · constructor
                · rintro ⟨q, -⟩
                  have := (may_zero (mayT_zero q).1).2.2
                  rw [List.length_map] at this
                  omega
                · rintro ⟨q, -⟩
                  have := isT_few q
                  omega)
            have hf := HF6.out
            clear hwk hrel hs2 hv2 hb5 hb6 hx6 hb46 hA7 hcut7 hfl hen6 HRB v0 v2
            have v0 : W6.cell? ⟨gF, 0, none⟩ = some (.int .u32 (n0 : Int)) := hf.cell 0
            have v2 : W6.cell? ⟨gF, 2, none⟩ = some (.int .u32 (n2 : Int)) := hf.cell 2
            clear hf
            go_upto_region 13 with fail
            rw [← hW6, show (Value.pointer (some ⟨W5.heap.size, 0, none⟩)) = Value.pointer (some ⟨gC, 0, none⟩) by rw [hgC]]
            clear hW6 hgC
            go_wp2_with fail
            refine HMK.out.mono ?_
            rintro e9 W7 ⟨r, rfl, hr, hb7⟩
            have HR := Lib.hid hr
            have HB7 := Lib.hid (HB6.out.trans (hb7.mono HB6.out.size))
            have HZ7 := Lib.hid (HZ6.out.below hb7 HZ6.out.lt)
            have HX7 := Lib.hid (HX6.out.below hb7 HX6.out.lt)
            have HEX7 : Hid (Ents W7 (fun k => W3.heap.size ≤ k ∧ k < W7.heap.size) A5 c5 X) := Lib.hid (HEX6.out.later (fun k hk => hb7.block k hk.2) fun k hk => ⟨hk.1, Nat.lt_of_lt_of_le hk.2 hb7.size⟩)
            have HEL7 : Hid (Ents W7 (fun k => W4.heap.size ≤ k ∧ k < W7.heap.size) A6 c6 La) := Lib.hid (HEL6.out.later (fun k hk => hb7.block k hk.2) fun k hk => ⟨hk.1, Nat.lt_of_lt_of_le hk.2 hb7.size⟩)
            clear hr hb7 HMK v0 v2
            cases r
            · have HE : Hid (tallO bs = ([], [], 2)) := Lib.hid (tallO_rest HCX.out fun h => by
                rcases HREL.out with h2 | ⟨h2, h3⟩
                · have := HR.out.2 (HMI.out.2 ⟨h, h2⟩)
                  cases this
                · have := isT_few h
                  omega)
              have hz := HZ7.out
              have z0 : W7.cell? ⟨gR, 0, none⟩ = some (.slice none 0 0) := hz.cell 0
              have z1 : W7.cell? ⟨gR, 1, none⟩ = some (.slice none 0 0) := hz.cell 1
              have z2 : W7.cell? ⟨gR, 2, none⟩ = some (.int .i64 0) := hz.cell 2
              have z3 : W7.cell? ⟨gR, 3, none⟩ = some (.int .i64 0) := hz.cell 3
              have y0 : W7.frozen? ⟨gR, 0, none⟩ = false := hz.free 0
              have y1 : W7.frozen? ⟨gR, 1, none⟩ = false := hz.free 1
              have y2 : W7.frozen? ⟨gR, 2, none⟩ = false := hz.free 2
              have y3 : W7.frozen? ⟨gR, 3, none⟩ = false := hz.free 3
              have HZZ := Lib.hid hz
              clear hz
              go_wp2_with fail
              have hbz := put4_box HZZ.out (.slice none 0 0) (.slice none 0 0) (.int .i64 0) (.int .i64 0)
              refine bodyPost_ret (results_box rfl Try.underlying89 (by kernel_rfl) _ rfl hbz) rfl ?_
              exact opt_bad HE.out (by first | decide | omega) (put4_below HB7.out (by rw [HGR.out]; exact Nat.le_refl _) _ _ _ _)
            · have hyes := HMI.out.1 (HR.out.1 rfl)
              have HE : Hid (tallO bs = (La.map D.t, X.map D.t, 0)) := Lib.hid (by rw [tallO_ctx HCX.out hyes.1, hyes.2])
              have hbc := HX7.out
              have hldc := cont_load hbc
              have c0 : W7.cell? ⟨gC, 0, none⟩ = some (.slice A6 La.length c6) := hbc.cell 0
              have c1 : W7.cell? ⟨gC, 1, none⟩ = some (.slice A5 X.length c5) := hbc.cell 1
              have c2 : W7.cell? ⟨gC, 2, none⟩ = some (.int .i64 (s : Int)) := hbc.cell 2
              have c3 : W7.cell? ⟨gC, 3, none⟩ = some (.int .i64 (v : Int)) := hbc.cell 3
              have hz := HZ7.out
              clear hyes hbc
              have z0 : W7.cell? ⟨gR, 0, none⟩ = some (.slice none 0 0) := hz.cell 0
              have z1 : W7.cell? ⟨gR, 1, none⟩ = some (.slice none 0 0) := hz.cell 1
              have z2 : W7.cell? ⟨gR, 2, none⟩ = some (.int .i64 0) := hz.cell 2
              have z3 : W7.cell? ⟨gR, 3, none⟩ = some (.int .i64 0) := hz.cell 3
              have y0 : W7.frozen? ⟨gR, 0, none⟩ = false := hz.free 0
              have y1 : W7.frozen? ⟨gR, 1, none⟩ = false := hz.free 1
              have y2 : W7.frozen? ⟨gR, 2, none⟩ = false := hz.free 2
              have y3 : W7.frozen? ⟨gR, 3, none⟩ = false := hz.free 3
              have HZZ := Lib.hid hz
              clear hz
              go_wp2_with fail
              have hbz := put4_box HZZ.out (.slice A6 La.length c6) (.slice A5 X.length c5) (.int .i64 (s : Int)) (.int .i64 (v : Int))
              refine bodyPost_ret (results_box rfl Try.underlying89 (by kernel_rfl) _ rfl hbz) rfl ?_
              have hsz := put4_size W7 gR (.slice A6 La.length c6) (.slice A5 X.length c5) (.int .i64 (s : Int)) (.int .i64 (v : Int))
              refine ⟨put4_below HB7.out (by rw [HGR.out]; exact Nat.le_refl _) _ _ _ _, .inr ⟨A6, c6, La, A5, c5, X, s, v, HE.out, rfl, ?_, ?_⟩⟩
              · exact HEL7.out.later (fun k hk => put4_off W7 gR _ _ _ _ k (by have h1 := hgr4.out; have h2 := hk.1; omega)) fun k hk => ⟨Nat.le_trans HB4.out.size hk.1, by rw [hsz]; exact hk.2⟩
              · exact HEX7.out.later (fun k hk => put4_off W7 gR _ _ _ _ k (by have h1 := hgr3.out; have h2 := hk.1; omega)) fun k hk => ⟨Nat.le_trans HB3.out.size hk.1, by rw [hsz]; exact hk.2⟩
      · have df : decide (n0 + n1 = n2 ∧ n2 + n3 = z) = false := decide_eq_false hfit
        have HE : Hid (tallO bs = ([], [], 2)) := Lib.hid (tallO_foot H24.out HS.out (by
          rw [← HN0.out, ← HN1.out, ← HN2.out, ← HN3.out, HZ24.out]
          have := hfit
          omega))
        rw [df]
        have hz := HZ3.out
        clear hfit df
        have z0 : W3.cell? ⟨gR, 0, none⟩ = some (.slice none 0 0) := hz.cell 0
        have z1 : W3.cell? ⟨gR, 1, none⟩ = some (.slice none 0 0) := hz.cell 1
        have z2 : W3.cell? ⟨gR, 2, none⟩ = some (.int .i64 0) := hz.cell 2
        have z3 : W3.cell? ⟨gR, 3, none⟩ = some (.int .i64 0) := hz.cell 3
        have y0 : W3.frozen? ⟨gR, 0, none⟩ = false := hz.free 0
        have y1 : W3.frozen? ⟨gR, 1, none⟩ = false := hz.free 1
        have y2 : W3.frozen? ⟨gR, 2, none⟩ = false := hz.free 2
        have y3 : W3.frozen? ⟨gR, 3, none⟩ = false := hz.free 3
        have HZZ := Lib.hid hz
        clear hz
        go_wp2_with fail
        have hbz := put4_box HZZ.out (.slice none 0 0) (.slice none 0 0) (.int .i64 0) (.int .i64 0)
        refine bodyPost_ret (results_box rfl Try.underlying89 (by kernel_rfl) _ rfl hbz) rfl ?_
        exact opt_bad HE.out (by first | decide | omega) (put4_below HB3.out (by rw [HGR.out]; exact Nat.le_refl _) _ _ _ _)
    · have HE : Hid (tallO bs = ([], [], 5)) := Lib.hid (tallO_sum H24.out (by rw [← HSUM.out.1, ← HSUM.out.2]; exact hsum))
      obtain ⟨o, ho⟩ : ∃ o : Obj, o = .cells #[.int .u32 0, .int .u32 0, .int .u32 0, .int .u32 0, .int .u32 0] 119 := ⟨_, rfl⟩
      have hb2 : Below W1.heap.size W1 (W1.alloc o) := Joins.below_alloc1 W1 o
      have hb02 := hb1.trans (hb2.mono hb1.size)
      have HB2 := Lib.hid (HB0.out.trans (hb02.mono HB0.out.size))
      have hz := HZ0.out.below hb02 HZ0.out.lt
      clear hsum hb1 hb2 hb02 HFT
      rw [ho] at hz HB2
      clear ho
      have z0 : (W1.alloc (.cells #[.int .u32 0, .int .u32 0, .int .u32 0, .int .u32 0, .int .u32 0] 119)).cell? ⟨gR, 0, none⟩ = some (.slice none 0 0) := hz.cell 0
      have z1 : (W1.alloc (.cells #[.int .u32 0, .int .u32 0, .int .u32 0, .int .u32 0, .int .u32 0] 119)).cell? ⟨gR, 1, none⟩ = some (.slice none 0 0) := hz.cell 1
      have z2 : (W1.alloc (.cells #[.int .u32 0, .int .u32 0, .int .u32 0, .int .u32 0, .int .u32 0] 119)).cell? ⟨gR, 2, none⟩ = some (.int .i64 0) := hz.cell 2
      have z3 : (W1.alloc (.cells #[.int .u32 0, .int .u32 0, .int .u32 0, .int .u32 0, .int .u32 0] 119)).cell? ⟨gR, 3, none⟩ = some (.int .i64 0) := hz.cell 3
      have y0 : (W1.alloc (.cells #[.int .u32 0, .int .u32 0, .int .u32 0, .int .u32 0, .int .u32 0] 119)).frozen? ⟨gR, 0, none⟩ = false := hz.free 0
      have y1 : (W1.alloc (.cells #[.int .u32 0, .int .u32 0, .int .u32 0, .int .u32 0, .int .u32 0] 119)).frozen? ⟨gR, 1, none⟩ = false := hz.free 1
      have y2 : (W1.alloc (.cells #[.int .u32 0, .int .u32 0, .int .u32 0, .int .u32 0, .int .u32 0] 119)).frozen? ⟨gR, 2, none⟩ = false := hz.free 2
      have y3 : (W1.alloc (.cells #[.int .u32 0, .int .u32 0, .int .u32 0, .int .u32 0, .int .u32 0] 119)).frozen? ⟨gR, 3, none⟩ = false := hz.free 3
      have HZZ := Lib.hid hz
      clear hz
      go_wp2_with fail
      have hbz := put4_box HZZ.out (.slice none 0 0) (.slice none 0 0) (.int .i64 0) (.int .i64 0)
      refine bodyPost_ret (results_box rfl Try.underlying89 (by kernel_rfl) _ rfl hbz) rfl ?_
      exact opt_bad HE.out (by first | decide | omega) (put4_below HB2.out (by rw [HGR.out]; exact Nat.le_refl _) _ _ _ _)
end Go.Proofs.Ytobjiamdljjkjaa.Tb

/- Package table: All, Index, Check, Get. -/
namespace Go.Proofs.Ytobjiamdljjkjaa.Bk
set_option linter.unusedVariables false
set_option linter.unusedSimpArgs false
open Go.RowKit Lift Ik Sk Vn
set_option maxRecDepth 100000 in
theorem tclo_any (d : D) (Ak : Option Addr) (ck : Nat) (k : K) (w : World) (hd : d.Ok w (· < w.heap.size)) (hk : At w w.heap.size Ak ck k) :
    Calls Try.prog 51 #[d.v, key Ak ck k] w fun e w' => e = .returned (.int .i64 (cmpK d.k k)) ∧ Below w.heap.size w w' := by
  have hb0 : Below w.heap.size w ((w.alloc (ebox d)).alloc (.cells #[.slice Ak k.key.length ck, .int .u64 (k.seq : Int), .int .i64 k.kind] 38)) := Joins.below_alloc2 w _ _
  have hsz : (w.alloc (ebox d)).heap.size = w.heap.size + 1 := by simp
  have hx1 : Bx ((w.alloc (ebox d)).alloc (.cells #[.slice Ak k.key.length ck, .int .u64 (k.seq : Int), .int .i64 k.kind] 38)) w.heap.size d := (Bx.new w d).alloc _
  have hx2 := Lift.Box.new (w.alloc (ebox d)) 38 [.slice Ak k.key.length ck, .int .u64 (k.seq : Int), .int .i64 k.kind]
  rw [hsz] at hx2
  have HC := Lib.hid (cmp_any d.ka Ak d.kc ck d.k k _ ((hd.next hb0).at' fun k hk => hk) (hk.next hb0))
  have HB := Lib.hid hb0
  obtain ⟨c0, c1, c2, -, -, -, -, -⟩ := hx1.facts
  obtain ⟨k0, k1, k2, -, -, -⟩ := hx2.facts3
  have hkd := KD.load (p := ⟨w.heap.size, 0, none⟩) (d := ⟨d.ka, d.kc, d.k⟩) c0 c1 c2
  have hkk := KD.load (p := ⟨w.heap.size + 1, 0, none⟩) (d := ⟨Ak, ck, k⟩) k0 k1 k2
  clear hb0 hx1 hx2 hd hk hsz
  go_enter (Try.func51), (Try.ntmps51)
  go_wp2_with fail
  refine HC.out.mono ?_
  rintro e W ⟨rfl, hb1⟩
  have HB1 := Lib.hid (HB.out.trans (hb1.mono HB.out.size))
  clear hb1
  go_wp2_with fail
  go_ret
  exact ⟨rfl, HB1.out⟩
set_option maxRecDepth 1000000 in
set_option maxHeartbeats 3200000 in
theorem tbinf_any (A : Option Addr) (c : Nat) (L : List D) (Ak : Option Addr) (ck : Nat) (k : K) (w : World) (h1 : Ents w (· < w.heap.size) A c L) (hk : At w w.heap.size Ak ck k) (hn : L.length ≤ 10000) (hs : Sorted D.k L) :
    Calls Try.prog 41 #[.slice A L.length c, key Ak ck k, .func (.func 51) #[] #[]] w fun e w' => (∃ b, e = .returned (.tuple #[.int .i64 ((ahead L k : Nat) : Int), .bool b])) ∧ Below w.heap.size w w' := by
  have H1 := Lib.hid h1
  have HKA := Lib.hid hk
  have HS := Lib.hid hs
  have hc1 := h1.len
  have hm1 := h1.cap
  unfold maxLen at hm1
  have hb0 : Below w.heap.size w (w.alloc (.cells #[.slice Ak k.key.length ck, .int .u64 (k.seq : Int), .int .i64 k.kind] 38)) := Joins.below_alloc1 w _
  have hkb := Lift.Box.new w 38 [.slice Ak k.key.length ck, .int .u64 (k.seq : Int), .int .i64 k.kind]
  have HB0 := Lib.hid hb0
  have hz0 : (w.alloc (.cells #[.slice Ak k.key.length ck, .int .u64 (k.seq : Int), .int .i64 k.kind] 38)).heap.size = w.heap.size + 1 := by simp
  have HZ0 := Lib.hid hz0
  have HKB := Lib.hid hkb
  clear h1 hk hs hb0 hkb hz0
  go_enter (Try.func41), (Try.ntmps41)
  go_upto_region 1 with fail
  change Code.wp _ _ _ _ (w.alloc (.cells #[.slice Ak k.key.length ck, .int .u64 (k.seq : Int), .int .i64 k.kind] 38))
  obtain ⟨W0, hW0⟩ : ∃ W0, W0 = w.alloc (.cells #[.slice Ak k.key.length ck, .int .u64 (k.seq : Int), .int .i64 k.kind] 38) := ⟨_, rfl⟩
  rw [← hW0] at HB0 HKB HZ0 ⊢
  clear hW0
  go_wp2_with fail
  go_loopw [9, 10] (fun i j wr => ∃ lo hi : Nat, lo ≤ hi ∧ hi ≤ L.length ∧ i = .int .i64 (lo : Int) ∧ j = .int .i64 (hi : Int) ∧ Hid (∀ i d, i < lo → L[i]? = some d → cmpK d.k k < 0) ∧ Hid (∀ i d, hi ≤ i → L[i]? = some d → 0 ≤ cmpK d.k k) ∧ Hid (Below W0.heap.size W0 wr)) (fun i j _ => (intOf j).toNat - (intOf i).toNat)
  case atStart => exact ⟨0, L.length, Nat.zero_le _, Nat.le_refl _, rfl, rfl, Lib.hid fun i d hi => by omega, Lib.hid fun i d hi hd => by have := (List.getElem?_eq_some_iff.1 hd).1; omega, Lib.hid (Below.refl _ _)⟩
  case round =>
    obtain ⟨lo, hi, hlh, hhi, rfl, rfl, g1, g2, hbr⟩ := hrel
    have hb : Hid (Below w.heap.size w wr) := Lib.hid (HB0.out.trans (hbr.out.mono HB0.out.size))
    have HGL : Hid (w.heap.size < W0.heap.size) := Lib.hid (by have := HZ0.out; omega)
    by_cases hlt : lo < hi
    · obtain ⟨m, hm⟩ : ∃ m, m = (lo + hi) / 2 := ⟨_, rfl⟩
      have em : ((lo : Int) + (hi : Int)) / 2 = (m : Int) := by omega
      have hm1 : lo ≤ m := by omega
      have hm2 : m < hi := by omega
      obtain ⟨d, hd⟩ : ∃ d, L[m]? = some d := ⟨_, List.getElem?_eq_getElem (by omega)⟩
      obtain ⟨ad, pp, hA, -, hpp, -⟩ := H1.out.place hd
      subst hA
      have HPP := Lib.hid hpp
      have HD := Lib.hid hd
      have HO := Lib.hid (H1.out.ok d (List.mem_of_getElem? hd))
      have HML := Lib.hid (show m < L.length by omega)
      clear hd hpp hm
      have hcases : (cmpK d.k k < 0 ∧ decide (cmpK d.k k < 0) = true) ∨ (¬ cmpK d.k k < 0 ∧ decide (cmpK d.k k < 0) = false) := by
        by_cases h : cmpK d.k k < 0
        · exact .inl ⟨h, decide_eq_true h⟩
        · exact .inr ⟨h, decide_eq_false h⟩
      rcases hcases with ⟨hc, hdc⟩ | ⟨hc, hdc⟩
      · have HR : Hid (∀ i e, i < m + 1 → L[i]? = some e → cmpK e.k k < 0) := Lib.hid fun i e hi he => le_lt (sorted_le HS.out he HD.out (by omega)) hc
        have HDC := Lib.hid hdc
        clear hc hdc
        go_upto_region 5 with fail
        refine wp_region_held_drew (S := fun w' => Hid (Below wr.heap.size wr w')) (by kernel_rfl) (Lib.hid (Below.refl _ _).drew) (fun hS => ?_)
        refine wpAnyH_take (i := 0) (v := ?_) rfl (by kernel_rfl) (by kernel_rfl) (by kernel_rfl) (fun _ _ _ h => h) (Or.inl ⟨by rfl, ?_⟩) hS ?_
        rotate_left
        · intro wi hw
          go_simp
          try with_reducible rfl
        try simp only [Act.put, List.getElem_toArray, List.getElem_cons_succ, List.getElem_cons_zero, List.setIfInBounds_toArray, List.set_cons_zero, List.set_cons_succ]
        refine wpAnyH_take (i := 1) (v := ?_) rfl (by kernel_rfl) (by kernel_rfl) (by kernel_rfl) (fun _ _ _ h => h) (Or.inl ⟨by rfl, ?_⟩) hS ?_
        rotate_left
        · intro wi hw
          go_simp
          try with_reducible rfl
        try simp only [Act.put, List.getElem_toArray, List.getElem_cons_succ, List.getElem_cons_zero, List.setIfInBounds_toArray, List.set_cons_zero, List.set_cons_succ]
        refine wpAnyH_take (i := 2) (v := ?_) rfl (by kernel_rfl) (by kernel_rfl) (by kernel_rfl) (fun _ _ _ h => h) (Or.inl ⟨by rfl, ?_⟩) hS ?_
        rotate_left
        · intro wi hw
          go_simp
          try with_reducible rfl
        try simp only [Act.put, List.getElem_toArray, List.getElem_cons_succ, List.getElem_cons_zero, List.setIfInBounds_toArray, List.set_cons_zero, List.set_cons_succ]
        refine wpAnyH_take (i := 3) (v := ?_) rfl (by kernel_rfl) (by kernel_rfl) (by kernel_rfl) (fun _ _ _ h => h) (Or.inl ⟨by rfl, ?_⟩) hS ?_
        rotate_left
        · intro wi hw
          have hpp := HPP.out
          have hml := HML.out
          go_simp
          try with_reducible rfl
        try simp only [Act.put, List.getElem_toArray, List.getElem_cons_succ, List.getElem_cons_zero, List.setIfInBounds_toArray, List.set_cons_zero, List.set_cons_succ]
        refine wpAnyH_take (i := 4) (v := ?_) rfl (by kernel_rfl) (by kernel_rfl) (by kernel_rfl) (fun _ _ _ h => h) (Or.inl ⟨by rfl, ?_⟩) hS ?_
        rotate_left
        · intro wi hw
          obtain ⟨ad', pi, hA, -, hpi, q0, q1, q2, q3⟩ := (H1.out.below (hb.out.trans (hw.out.mono hb.out.size))).place HD.out
          injection hA with hA
          subst hA
          obtain rfl : pi = pp := hpi.symm.trans HPP.out
          have hld := D.load q0 q1 q2 q3
          go_simp
          try with_reducible rfl
        try simp only [Act.put, List.getElem_toArray, List.getElem_cons_succ, List.getElem_cons_zero, List.setIfInBounds_toArray, List.set_cons_zero, List.set_cons_succ]
        refine wpAnyH_take (i := 5) (v := ?_) rfl (by kernel_rfl) (by kernel_rfl) (by kernel_rfl) (fun _ _ _ h => h) (Or.inl ⟨by rfl, ?_⟩) hS ?_
        rotate_left
        · intro wi hw
          obtain ⟨k0, k1, k2, -, -, -⟩ := Lift.Box.facts3 (Lift.Box.below HKB.out (hbr.out.trans (hw.out.mono hbr.out.size)) HGL.out)
          have hkk := KD.load (p := ⟨w.heap.size, 0, none⟩) (d := ⟨Ak, ck, k⟩) k0 k1 k2
          go_simp
          try with_reducible rfl
        try simp only [Act.put, List.getElem_toArray, List.getElem_cons_succ, List.getElem_cons_zero, List.setIfInBounds_toArray, List.set_cons_zero, List.set_cons_succ]
        refine wpAnyH_ready (rs := [6]) (by kernel_rfl) (by simp) ?_
        refine AllReadyH.cons rfl (fun K hK => ?_) AllReadyH.nil
        go_simp
        have hb7 := hS.out
        have hb8 := hb.out.trans (hb7.mono hb.out.size)
        refine (tclo_any d Ak ck k _ (((HO.out.next HB0.out).next (hbr.out.trans (hb7.mono hbr.out.size))).mono fun k hk => hk) ((HKA.out.next HB0.out).next (hbr.out.trans (hb7.mono hbr.out.size)))).mono ?_
        rintro e W8 ⟨rfl, hb9⟩
        have HB8 := Lib.hid (hb7.trans (hb9.mono hb7.size))
        clear hb7 hb8 hb9
        go_wp2_with fail
        refine hK.out _ _ HB8 (fun _ => ?_)
        clear hK K hS
        refine wpAnyH_other (S' := fun w' => Hid (Below W8.heap.size W8 w')) (fun w hw => Lib.hid (HB8.out.trans (hw.out.mono HB8.out.size))) _ _ _ _ ?_
        have hS : Hid (Below W8.heap.size W8 W8) := Lib.hid (Below.refl _ _)
        try simp only [Act.put, List.getElem_toArray, List.getElem_cons_succ, List.getElem_cons_zero, List.setIfInBounds_toArray, List.set_cons_zero, List.set_cons_succ]
        refine wpAnyH_take (i := 7) (v := ?_) rfl (by kernel_rfl) (by kernel_rfl) (by kernel_rfl) (fun _ _ _ h => h) (Or.inl ⟨by rfl, ?_⟩) hS ?_
        rotate_left
        · intro wi hw
          have dc := HDC.out
          go_simp
          try with_reducible rfl
        try simp only [Act.put, List.getElem_toArray, List.getElem_cons_succ, List.getElem_cons_zero, List.setIfInBounds_toArray, List.set_cons_zero, List.set_cons_succ]
        refine wpAnyH_done (by kernel_rfl) ?_ _
        have dc := HDC.out
        have HW8 := Lib.hid (hbr.out.trans (HB8.out.mono hbr.out.size))
        go_wp2_with fail
        go_roundw
        case rel => exact ⟨m + 1, hi, by omega, hhi, by go_num, rfl, HR, g2, HW8⟩
        case measure => simp [intOf]; omega
      · have HR : Hid (∀ i e, m ≤ i → L[i]? = some e → 0 ≤ cmpK e.k k) := Lib.hid fun i e hi he => Int.not_lt.1 fun h => hc (le_lt (sorted_le HS.out HD.out he hi) h)
        have HDC := Lib.hid hdc
        clear hc hdc
        go_upto_region 5 with fail
        refine wp_region_held_drew (S := fun w' => Hid (Below wr.heap.size wr w')) (by kernel_rfl) (Lib.hid (Below.refl _ _).drew) (fun hS => ?_)
        refine wpAnyH_take (i := 0) (v := ?_) rfl (by kernel_rfl) (by kernel_rfl) (by kernel_rfl) (fun _ _ _ h => h) (Or.inl ⟨by rfl, ?_⟩) hS ?_
        rotate_left
        · intro wi hw
          go_simp
          try with_reducible rfl
        try simp only [Act.put, List.getElem_toArray, List.getElem_cons_succ, List.getElem_cons_zero, List.setIfInBounds_toArray, List.set_cons_zero, List.set_cons_succ]
        refine wpAnyH_take (i := 1) (v := ?_) rfl (by kernel_rfl) (by kernel_rfl) (by kernel_rfl) (fun _ _ _ h => h) (Or.inl ⟨by rfl, ?_⟩) hS ?_
        rotate_left
        · intro wi hw
          go_simp
          try with_reducible rfl
        try simp only [Act.put, List.getElem_toArray, List.getElem_cons_succ, List.getElem_cons_zero, List.setIfInBounds_toArray, List.set_cons_zero, List.set_cons_succ]
        refine wpAnyH_take (i := 2) (v := ?_) rfl (by kernel_rfl) (by kernel_rfl) (by kernel_rfl) (fun _ _ _ h => h) (Or.inl ⟨by rfl, ?_⟩) hS ?_
        rotate_left
        · intro wi hw
          go_simp
          try with_reducible rfl
        try simp only [Act.put, List.getElem_toArray, List.getElem_cons_succ, List.getElem_cons_zero, List.setIfInBounds_toArray, List.set_cons_zero, List.set_cons_succ]
        refine wpAnyH_take (i := 3) (v := ?_) rfl (by kernel_rfl) (by kernel_rfl) (by kernel_rfl) (fun _ _ _ h => h) (Or.inl ⟨by rfl, ?_⟩) hS ?_
        rotate_left
        · intro wi hw
          have hpp := HPP.out
          have hml := HML.out
          go_simp
          try with_reducible rfl
        try simp only [Act.put, List.getElem_toArray, List.getElem_cons_succ, List.getElem_cons_zero, List.setIfInBounds_toArray, List.set_cons_zero, List.set_cons_succ]
        refine wpAnyH_take (i := 4) (v := ?_) rfl (by kernel_rfl) (by kernel_rfl) (by kernel_rfl) (fun _ _ _ h => h) (Or.inl ⟨by rfl, ?_⟩) hS ?_
        rotate_left
        · intro wi hw
          obtain ⟨ad', pi, hA, -, hpi, q0, q1, q2, q3⟩ := (H1.out.below (hb.out.trans (hw.out.mono hb.out.size))).place HD.out
          injection hA with hA
          subst hA
          obtain rfl : pi = pp := hpi.symm.trans HPP.out
          have hld := D.load q0 q1 q2 q3
          go_simp
          try with_reducible rfl
        try simp only [Act.put, List.getElem_toArray, List.getElem_cons_succ, List.getElem_cons_zero, List.setIfInBounds_toArray, List.set_cons_zero, List.set_cons_succ]
        refine wpAnyH_take (i := 5) (v := ?_) rfl (by kernel_rfl) (by kernel_rfl) (by kernel_rfl) (fun _ _ _ h => h) (Or.inl ⟨by rfl, ?_⟩) hS ?_
        rotate_left
        · intro wi hw
          obtain ⟨k0, k1, k2, -, -, -⟩ := Lift.Box.facts3 (Lift.Box.below HKB.out (hbr.out.trans (hw.out.mono hbr.out.size)) HGL.out)
          have hkk := KD.load (p := ⟨w.heap.size, 0, none⟩) (d := ⟨Ak, ck, k⟩) k0 k1 k2
          go_simp
          try with_reducible rfl
        try simp only [Act.put, List.getElem_toArray, List.getElem_cons_succ, List.getElem_cons_zero, List.setIfInBounds_toArray, List.set_cons_zero, List.set_cons_succ]
        refine wpAnyH_ready (rs := [6]) (by kernel_rfl) (by simp) ?_
        refine AllReadyH.cons rfl (fun K hK => ?_) AllReadyH.nil
        go_simp
        have hb7 := hS.out
        have hb8 := hb.out.trans (hb7.mono hb.out.size)
        refine (tclo_any d Ak ck k _ (((HO.out.next HB0.out).next (hbr.out.trans (hb7.mono hbr.out.size))).mono fun k hk => hk) ((HKA.out.next HB0.out).next (hbr.out.trans (hb7.mono hbr.out.size)))).mono ?_
        rintro e W8 ⟨rfl, hb9⟩
        have HB8 := Lib.hid (hb7.trans (hb9.mono hb7.size))
        clear hb7 hb8 hb9
        go_wp2_with fail
        refine hK.out _ _ HB8 (fun _ => ?_)
        clear hK K hS
        refine wpAnyH_other (S' := fun w' => Hid (Below W8.heap.size W8 w')) (fun w hw => Lib.hid (HB8.out.trans (hw.out.mono HB8.out.size))) _ _ _ _ ?_
        have hS : Hid (Below W8.heap.size W8 W8) := Lib.hid (Below.refl _ _)
        try simp only [Act.put, List.getElem_toArray, List.getElem_cons_succ, List.getElem_cons_zero, List.setIfInBounds_toArray, List.set_cons_zero, List.set_cons_succ]
        refine wpAnyH_take (i := 7) (v := ?_) rfl (by kernel_rfl) (by kernel_rfl) (by kernel_rfl) (fun _ _ _ h => h) (Or.inl ⟨by rfl, ?_⟩) hS ?_
        rotate_left
        · intro wi hw
          have dc := HDC.out
          go_simp
          try with_reducible rfl
        try simp only [Act.put, List.getElem_toArray, List.getElem_cons_succ, List.getElem_cons_zero, List.setIfInBounds_toArray, List.set_cons_zero, List.set_cons_succ]
        refine wpAnyH_done (by kernel_rfl) ?_ _
        have dc := HDC.out
        have HW8 := Lib.hid (hbr.out.trans (HB8.out.mono hbr.out.size))
        go_wp2_with fail
        go_roundw
        case rel => exact ⟨lo, m, by omega, by omega, rfl, rfl, g1, HR, HW8⟩
        case measure => simp [intOf]; omega
    · obtain rfl : lo = hi := by omega
      have HC := Lib.hid (ahead_split hhi g1.out fun i d h1 h2 => Int.not_lt.2 (g2.out i d h1 h2))
      by_cases hle : lo < L.length
      · obtain ⟨d, hd⟩ : ∃ d, L[lo]? = some d := ⟨_, List.getElem?_eq_getElem hle⟩
        obtain ⟨ad, pp, hA, -, hpp, -⟩ := H1.out.place hd
        subst hA
        have HPP := Lib.hid hpp
        have HD := Lib.hid hd
        have HO := Lib.hid (H1.out.ok d (List.mem_of_getElem? hd))
        have hdl : decide ((lo : Int) < (L.length : Int)) = true := decide_eq_true (by omega)
        clear hd hpp
        go_upto_region 8 with fail
        refine wp_region_held_drew (S := fun w' => Hid (Below wr.heap.size wr w')) (by kernel_rfl) (Lib.hid (Below.refl _ _).drew) (fun hS => ?_)
        refine wpAnyH_take (i := 0) (v := ?_) rfl (by kernel_rfl) (by kernel_rfl) (by kernel_rfl) (fun _ _ _ h => h) (Or.inl ⟨by rfl, ?_⟩) hS ?_
        rotate_left
        · intro wi hw
          go_simp
          try with_reducible rfl
        try simp only [Act.put, List.getElem_toArray, List.getElem_cons_succ, List.getElem_cons_zero, List.setIfInBounds_toArray, List.set_cons_zero, List.set_cons_succ]
        refine wpAnyH_take (i := 1) (v := ?_) rfl (by kernel_rfl) (by kernel_rfl) (by kernel_rfl) (fun _ _ _ h => h) (Or.inl ⟨by rfl, ?_⟩) hS ?_
        rotate_left
        · intro wi hw
          go_simp
          try with_reducible rfl
        try simp only [Act.put, List.getElem_toArray, List.getElem_cons_succ, List.getElem_cons_zero, List.setIfInBounds_toArray, List.set_cons_zero, List.set_cons_succ]
        refine wpAnyH_take (i := 2) (v := ?_) rfl (by kernel_rfl) (by kernel_rfl) (by kernel_rfl) (fun _ _ _ h => h) (Or.inl ⟨by rfl, ?_⟩) hS ?_
        rotate_left
        · intro wi hw
          go_simp
          try with_reducible rfl
        try simp only [Act.put, List.getElem_toArray, List.getElem_cons_succ, List.getElem_cons_zero, List.setIfInBounds_toArray, List.set_cons_zero, List.set_cons_succ]
        refine wpAnyH_take (i := 3) (v := ?_) rfl (by kernel_rfl) (by kernel_rfl) (by kernel_rfl) (fun _ _ _ h => h) (Or.inl ⟨by rfl, ?_⟩) hS ?_
        rotate_left
        · intro wi hw
          go_simp
          try with_reducible rfl
        try simp only [Act.put, List.getElem_toArray, List.getElem_cons_succ, List.getElem_cons_zero, List.setIfInBounds_toArray, List.set_cons_zero, List.set_cons_succ]
        refine wpAnyH_take (i := 4) (v := ?_) rfl (by kernel_rfl) (by kernel_rfl) (by kernel_rfl) (fun _ _ _ h => h) (Or.inl ⟨by rfl, ?_⟩) hS ?_
        rotate_left
        · intro wi hw
          go_simp
          try with_reducible rfl
        try simp only [Act.put, List.getElem_toArray, List.getElem_cons_succ, List.getElem_cons_zero, List.setIfInBounds_toArray, List.set_cons_zero, List.set_cons_succ]
        refine wpAnyH_take (i := 5) (v := ?_) rfl (by kernel_rfl) (by kernel_rfl) (by kernel_rfl) (fun _ _ _ h => h) (Or.inl ⟨by rfl, ?_⟩) hS ?_
        rotate_left
        · intro wi hw
          go_simp
          try with_reducible rfl
        try simp only [Act.put, List.getElem_toArray, List.getElem_cons_succ, List.getElem_cons_zero, List.setIfInBounds_toArray, List.set_cons_zero, List.set_cons_succ]
        refine wpAnyH_take (i := 6) (v := ?_) rfl (by kernel_rfl) (by kernel_rfl) (by kernel_rfl) (fun _ _ _ h => h) (Or.inl ⟨by rfl, ?_⟩) hS ?_
        rotate_left
        · intro wi hw
          go_simp
          try with_reducible rfl
        try simp only [Act.put, List.getElem_toArray, List.getElem_cons_succ, List.getElem_cons_zero, List.setIfInBounds_toArray, List.set_cons_zero, List.set_cons_succ]
        refine wpAnyH_take (i := 7) (v := ?_) rfl (by kernel_rfl) (by kernel_rfl) (by kernel_rfl) (fun _ _ _ h => h) (Or.inl ⟨by rfl, ?_⟩) hS ?_
        rotate_left
        · intro wi hw
          go_simp
          try with_reducible rfl
        try simp only [Act.put, List.getElem_toArray, List.getElem_cons_succ, List.getElem_cons_zero, List.setIfInBounds_toArray, List.set_cons_zero, List.set_cons_succ]
        refine wpAnyH_take (i := 8) (v := ?_) rfl (by kernel_rfl) (by kernel_rfl) (by kernel_rfl) (fun _ _ _ h => h) (Or.inl ⟨by rfl, ?_⟩) hS ?_
        rotate_left
        · intro wi hw
          have hpp := HPP.out
          go_simp
          try with_reducible rfl
        try simp only [Act.put, List.getElem_toArray, List.getElem_cons_succ, List.getElem_cons_zero, List.setIfInBounds_toArray, List.set_cons_zero, List.set_cons_succ]
        refine wpAnyH_take (i := 9) (v := ?_) rfl (by kernel_rfl) (by kernel_rfl) (by kernel_rfl) (fun _ _ _ h => h) (Or.inl ⟨by rfl, ?_⟩) hS ?_
        rotate_left
        · intro wi hw
          obtain ⟨ad', pi, hA, -, hpi, q0, q1, q2, q3⟩ := (H1.out.below (hb.out.trans (hw.out.mono hb.out.size))).place HD.out
          injection hA with hA
          subst hA
          obtain rfl : pi = pp := hpi.symm.trans HPP.out
          have hld := D.load q0 q1 q2 q3
          go_simp
          try with_reducible rfl
        try simp only [Act.put, List.getElem_toArray, List.getElem_cons_succ, List.getElem_cons_zero, List.setIfInBounds_toArray, List.set_cons_zero, List.set_cons_succ]
        refine wpAnyH_take (i := 10) (v := ?_) rfl (by kernel_rfl) (by kernel_rfl) (by kernel_rfl) (fun _ _ _ h => h) (Or.inl ⟨by rfl, ?_⟩) hS ?_
        rotate_left
        · intro wi hw
          obtain ⟨k0, k1, k2, -, -, -⟩ := Lift.Box.facts3 (Lift.Box.below HKB.out (hbr.out.trans (hw.out.mono hbr.out.size)) HGL.out)
          have hkk := KD.load (p := ⟨w.heap.size, 0, none⟩) (d := ⟨Ak, ck, k⟩) k0 k1 k2
          go_simp
          try with_reducible rfl
        try simp only [Act.put, List.getElem_toArray, List.getElem_cons_succ, List.getElem_cons_zero, List.setIfInBounds_toArray, List.set_cons_zero, List.set_cons_succ]
        refine wpAnyH_ready (rs := [11]) (by kernel_rfl) (by simp) ?_
        refine AllReadyH.cons rfl (fun K hK => ?_) AllReadyH.nil
        go_simp
        have hb7 := hS.out
        have hb8 := hb.out.trans (hb7.mono hb.out.size)
        refine (tclo_any d Ak ck k _ (((HO.out.next HB0.out).next (hbr.out.trans (hb7.mono hbr.out.size))).mono fun k hk => hk) ((HKA.out.next HB0.out).next (hbr.out.trans (hb7.mono hbr.out.size)))).mono ?_
        rintro e W8 ⟨rfl, hb9⟩
        have HB8 := Lib.hid (hb7.trans (hb9.mono hb7.size))
        clear hb7 hb8 hb9
        go_wp2_with fail
        refine hK.out _ _ HB8 (fun _ => ?_)
        clear hK K hS
        refine wpAnyH_other (S' := fun w' => Hid (Below W8.heap.size W8 w')) (fun w hw => Lib.hid (HB8.out.trans (hw.out.mono HB8.out.size))) _ _ _ _ ?_
        have hS : Hid (Below W8.heap.size W8 W8) := Lib.hid (Below.refl _ _)
        try simp only [Act.put, List.getElem_toArray, List.getElem_cons_succ, List.getElem_cons_zero, List.setIfInBounds_toArray, List.set_cons_zero, List.set_cons_succ]
        generalize cmpK d.k k = cc
        refine wpAnyH_take (i := 12) (v := ?_) rfl (by kernel_rfl) (by kernel_rfl) (by kernel_rfl) (fun _ _ _ h => h) (Or.inl ⟨by rfl, ?_⟩) hS ?_
        rotate_left
        · intro wi hw
          go_simp
          try with_reducible rfl
        try simp only [Act.put, List.getElem_toArray, List.getElem_cons_succ, List.getElem_cons_zero, List.setIfInBounds_toArray, List.set_cons_zero, List.set_cons_succ]
        refine wpAnyH_take (i := 13) (v := ?_) rfl (by kernel_rfl) (by kernel_rfl) (by kernel_rfl) (fun _ _ _ h => h) (Or.inl ⟨by rfl, ?_⟩) hS ?_
        rotate_left
        · intro wi hw
          go_simp
          try with_reducible rfl
        try simp only [Act.put, List.getElem_toArray, List.getElem_cons_succ, List.getElem_cons_zero, List.setIfInBounds_toArray, List.set_cons_zero, List.set_cons_succ]
        refine wpAnyH_take (i := 14) (v := ?_) rfl (by kernel_rfl) (by kernel_rfl) (by kernel_rfl) (fun _ _ _ h => h) (Or.inl ⟨by rfl, ?_⟩) hS ?_
        rotate_left
        · intro wi hw
          go_simp
          try with_reducible rfl
        try simp only [Act.put, List.getElem_toArray, List.getElem_cons_succ, List.getElem_cons_zero, List.setIfInBounds_toArray, List.set_cons_zero, List.set_cons_succ]
        refine wpAnyH_take (i := 15) (v := ?_) rfl (by kernel_rfl) (by kernel_rfl) (by kernel_rfl) (fun _ _ _ h => h) (Or.inl ⟨by rfl, ?_⟩) hS ?_
        rotate_left
        · intro wi hw
          go_simp
          try with_reducible rfl
        try simp only [Act.put, List.getElem_toArray, List.getElem_cons_succ, List.getElem_cons_zero, List.setIfInBounds_toArray, List.set_cons_zero, List.set_cons_succ]
        refine wpAnyH_done (by kernel_rfl) ?_ _
        have HW8 := Lib.hid (hb.out.trans (HB8.out.mono hb.out.size))
        go_wp2_with fail
        go_returns
        exact ⟨⟨cc == 0, by rw [HC.out]; rfl⟩, HW8.out⟩
      · have hdl : decide ((lo : Int) < (L.length : Int)) = false := decide_eq_false (by omega)
        go_upto_region 8 with fail
        refine wp_region_held_drew (S := fun w' => Hid (Below wr.heap.size wr w')) (by kernel_rfl) (Lib.hid (Below.refl _ _).drew) (fun hS => ?_)
        refine wpAnyH_take (i := 0) (v := ?_) rfl (by kernel_rfl) (by kernel_rfl) (by kernel_rfl) (fun _ _ _ h => h) (Or.inl ⟨by rfl, ?_⟩) hS ?_
        rotate_left
        · intro wi hw
          go_simp
          try with_reducible rfl
        try simp only [Act.put, List.getElem_toArray, List.getElem_cons_succ, List.getElem_cons_zero, List.setIfInBounds_toArray, List.set_cons_zero, List.set_cons_succ]
        refine wpAnyH_take (i := 1) (v := ?_) rfl (by kernel_rfl) (by kernel_rfl) (by kernel_rfl) (fun _ _ _ h => h) (Or.inl ⟨by rfl, ?_⟩) hS ?_
        rotate_left
        · intro wi hw
          go_simp
          try with_reducible rfl
        try simp only [Act.put, List.getElem_toArray, List.getElem_cons_succ, List.getElem_cons_zero, List.setIfInBounds_toArray, List.set_cons_zero, List.set_cons_succ]
        refine wpAnyH_take (i := 2) (v := ?_) rfl (by kernel_rfl) (by kernel_rfl) (by kernel_rfl) (fun _ _ _ h => h) (Or.inl ⟨by rfl, ?_⟩) hS ?_
        rotate_left
        · intro wi hw
          go_simp
          try with_reducible rfl
        try simp only [Act.put, List.getElem_toArray, List.getElem_cons_succ, List.getElem_cons_zero, List.setIfInBounds_toArray, List.set_cons_zero, List.set_cons_succ]
        refine wpAnyH_take (i := 3) (v := ?_) rfl (by kernel_rfl) (by kernel_rfl) (by kernel_rfl) (fun _ _ _ h => h) (Or.inl ⟨by rfl, ?_⟩) hS ?_
        rotate_left
        · intro wi hw
          go_simp
          try with_reducible rfl
        try simp only [Act.put, List.getElem_toArray, List.getElem_cons_succ, List.getElem_cons_zero, List.setIfInBounds_toArray, List.set_cons_zero, List.set_cons_succ]
        refine wpAnyH_take (i := 4) (v := ?_) rfl (by kernel_rfl) (by kernel_rfl) (by kernel_rfl) (fun _ _ _ h => h) (Or.inl ⟨by rfl, ?_⟩) hS ?_
        rotate_left
        · intro wi hw
          go_simp
          try with_reducible rfl
        try simp only [Act.put, List.getElem_toArray, List.getElem_cons_succ, List.getElem_cons_zero, List.setIfInBounds_toArray, List.set_cons_zero, List.set_cons_succ]
        refine wpAnyH_take (i := 5) (v := undef) rfl (by kernel_rfl) (by kernel_rfl) (by kernel_rfl) (fun _ _ _ h => h) (Or.inr ⟨by rfl, rfl⟩) hS ?_
        try simp only [Act.put, List.getElem_toArray, List.getElem_cons_succ, List.getElem_cons_zero, List.setIfInBounds_toArray, List.set_cons_zero, List.set_cons_succ]
        refine wpAnyH_take (i := 6) (v := undef) rfl (by kernel_rfl) (by kernel_rfl) (by kernel_rfl) (fun _ _ _ h => h) (Or.inr ⟨by rfl, rfl⟩) hS ?_
        try simp only [Act.put, List.getElem_toArray, List.getElem_cons_succ, List.getElem_cons_zero, List.setIfInBounds_toArray, List.set_cons_zero, List.set_cons_succ]
        refine wpAnyH_take (i := 7) (v := undef) rfl (by kernel_rfl) (by kernel_rfl) (by kernel_rfl) (fun _ _ _ h => h) (Or.inr ⟨by rfl, rfl⟩) hS ?_
        try simp only [Act.put, List.getElem_toArray, List.getElem_cons_succ, List.getElem_cons_zero, List.setIfInBounds_toArray, List.set_cons_zero, List.set_cons_succ]
        refine wpAnyH_take (i := 8) (v := undef) rfl (by kernel_rfl) (by kernel_rfl) (by kernel_rfl) (fun _ _ _ h => h) (Or.inr ⟨by rfl, rfl⟩) hS ?_
        try simp only [Act.put, List.getElem_toArray, List.getElem_cons_succ, List.getElem_cons_zero, List.setIfInBounds_toArray, List.set_cons_zero, List.set_cons_succ]
        refine wpAnyH_take (i := 9) (v := undef) rfl (by kernel_rfl) (by kernel_rfl) (by kernel_rfl) (fun _ _ _ h => h) (Or.inr ⟨by rfl, rfl⟩) hS ?_
        try simp only [Act.put, List.getElem_toArray, List.getElem_cons_succ, List.getElem_cons_zero, List.setIfInBounds_toArray, List.set_cons_zero, List.set_cons_succ]
        refine wpAnyH_take (i := 10) (v := undef) rfl (by kernel_rfl) (by kernel_rfl) (by kernel_rfl) (fun _ _ _ h => h) (Or.inr ⟨by rfl, rfl⟩) hS ?_
        try simp only [Act.put, List.getElem_toArray, List.getElem_cons_succ, List.getElem_cons_zero, List.setIfInBounds_toArray, List.set_cons_zero, List.set_cons_succ]
        refine wpAnyH_take (i := 11) (v := undef) rfl (by kernel_rfl) (by kernel_rfl) (by kernel_rfl) (fun _ _ _ h => h) (Or.inr ⟨by rfl, rfl⟩) hS ?_
        try simp only [Act.put, List.getElem_toArray, List.getElem_cons_succ, List.getElem_cons_zero, List.setIfInBounds_toArray, List.set_cons_zero, List.set_cons_succ]
        refine wpAnyH_take (i := 12) (v := undef) rfl (by kernel_rfl) (by kernel_rfl) (by kernel_rfl) (fun _ _ _ h => h) (Or.inr ⟨by rfl, rfl⟩) hS ?_
        try simp only [Act.put, List.getElem_toArray, List.getElem_cons_succ, List.getElem_cons_zero, List.setIfInBounds_toArray, List.set_cons_zero, List.set_cons_succ]
        refine wpAnyH_take (i := 13) (v := ?_) rfl (by kernel_rfl) (by kernel_rfl) (by kernel_rfl) (fun _ _ _ h => h) (Or.inl ⟨by rfl, ?_⟩) hS ?_
        rotate_left
        · intro wi hw
          go_simp
          try with_reducible rfl
        try simp only [Act.put, List.getElem_toArray, List.getElem_cons_succ, List.getElem_cons_zero, List.setIfInBounds_toArray, List.set_cons_zero, List.set_cons_succ]
        refine wpAnyH_take (i := 14) (v := ?_) rfl (by kernel_rfl) (by kernel_rfl) (by kernel_rfl) (fun _ _ _ h => h) (Or.inl ⟨by rfl, ?_⟩) hS ?_
        rotate_left
        · intro wi hw
          go_simp
          try with_reducible rfl
        try simp only [Act.put, List.getElem_toArray, List.getElem_cons_succ, List.getElem_cons_zero, List.setIfInBounds_toArray, List.set_cons_zero, List.set_cons_succ]
        refine wpAnyH_take (i := 15) (v := ?_) rfl (by kernel_rfl) (by kernel_rfl) (by kernel_rfl) (fun _ _ _ h => h) (Or.inl ⟨by rfl, ?_⟩) hS ?_
        rotate_left
        · intro wi hw
          go_simp
          try with_reducible rfl
        try simp only [Act.put, List.getElem_toArray, List.getElem_cons_succ, List.getElem_cons_zero, List.setIfInBounds_toArray, List.set_cons_zero, List.set_cons_succ]
        refine wpAnyH_done (by kernel_rfl) ?_ _
        go_wp2_with fail
        go_returns
        exact ⟨⟨false, by rw [HC.out]; rfl⟩, hb.out.drew⟩
end Go.Proofs.Ytobjiamdljjkjaa.Bk
namespace Go.Proofs.Ytobjiamdljjkjaa.Tb
set_option linter.unusedVariables false
set_option linter.unusedSimpArgs false
open Go.RowKit Lift Ik Sk Vn Bk Bl Sq
/-- Entries and an error are told. -/
def Tells (w : World) (ts : List T) (n : Nat) (e : Ending) (w' : World) : Prop :=
  Below w.heap.size w w' ∧ ∃ (A : Option Addr) (c : Nat) (L : List D), e = .returned (.tuple #[.slice A L.length c, .int .i64 (n : Int)]) ∧ L.map D.t = ts ∧ Ents w' (fun k => w.heap.size ≤ k ∧ k < w'.heap.size) A c L
/-- An entry, whether there is one, and an error are told. -/
def Finds (w : World) (o : Option T) (n : Nat) (e : Ending) (w' : World) : Prop :=
  Below w.heap.size w w' ∧ match o with
    | some t => ∃ d : D, e = .returned (.tuple #[d.v, .bool true, .int .i64 (n : Int)]) ∧ d.t = t ∧ d.Ok w' (fun k => w.heap.size ≤ k ∧ k < w'.heap.size)
    | none => e = .returned (.tuple #[dz.v, .bool false, .int .i64 (n : Int)])
def getT (ts : List T) (key : List Nat) (seq : Nat) : Option T := ts.find? fun t => decide (t.k.key = key ∧ t.k.seq ≤ seq)
set_option maxRecDepth 100000 in
set_option maxHeartbeats 800000 in
theorem oallt_any (A : Option Addr) (c : Nat) (bs : List Nat) (w : World) (hl : Lies w w.heap.size A (bs.map vb)) (hc : bs.length ≤ c) (hm : c ≤ maxLen) (hs : bs.length ≤ 10000000) (h8 : ∀ x, x ∈ bs → x < 256) (hsame : tallO bs = tallB bs) :
    Calls Try.prog 50 #[.slice A bs.length c] w (Tells w (tallB bs).1 (tallB bs).2.2) := by
  have HO := Lib.hid (oopent_any A c bs w hl hc hm hs h8)
  have HSA := Lib.hid hsame
  clear hl h8 hsame
  go_enter Try.func50, Try.ntmps50
  go_wp2_with fail
  refine HO.out.mono ?_
  rintro e W ⟨hb, (⟨n, h1, h2, rfl⟩ | ⟨A1, c1, L1, A2, c2, L2, s, v, h1, rfl, hE1, hE2⟩)⟩
  · have H1 : Hid (tallB bs = ([], [], n)) := Lib.hid (HSA.out.symm.trans h1)
    have HB := Lib.hid hb
    obtain ⟨o, ho⟩ : ∃ o : Obj, o = .cells #[.slice none 0 0, .slice none 0 0, .int .i64 0, .int .i64 0] 89 := ⟨_, rfl⟩
    have hx : Lift.Box (W.alloc o) W.heap.size 89 [.slice none 0 0, .slice none 0 0, .int .i64 0, .int .i64 0] := by rw [ho]; exact Lift.Box.new W _ _
    have f0 : (W.alloc o).cell? ⟨W.heap.size, 0, none⟩ = some (.slice none 0 0) := hx.cell 0
    have f1 : (W.alloc o).cell? ⟨W.heap.size, 1, none⟩ = some (.slice none 0 0) := hx.cell 1
    have HBW := Lib.hid (HB.out.trans ((Joins.below_alloc1 W o).mono HB.out.size))
    clear hx h1 h2 hb HO
    go_upto_region 2 with fail
    rw [← ho]
    clear ho
    generalize W.alloc o = W2 at *
    go_wp2_with fail
    go_returns
    exact ⟨HBW.out, none, 0, [], by rw [H1.out]; rfl, by rw [H1.out]; rfl, Ents.zero _ _⟩
  · have H1 : Hid (tallB bs = (L1.map D.t, L2.map D.t, 0)) := Lib.hid (HSA.out.symm.trans h1)
    have HB := Lib.hid hb
    obtain ⟨o, ho⟩ : ∃ o : Obj, o = .cells #[.slice A1 L1.length c1, .slice A2 L2.length c2, .int .i64 s, .int .i64 v] 89 := ⟨_, rfl⟩
    have hx : Lift.Box (W.alloc o) W.heap.size 89 [.slice A1 L1.length c1, .slice A2 L2.length c2, .int .i64 s, .int .i64 v] := by rw [ho]; exact Lift.Box.new W _ _
    have f0 : (W.alloc o).cell? ⟨W.heap.size, 0, none⟩ = some (.slice A1 L1.length c1) := hx.cell 0
    have f1 : (W.alloc o).cell? ⟨W.heap.size, 1, none⟩ = some (.slice A2 L2.length c2) := hx.cell 1
    have hba := Joins.below_alloc1 W o
    have HBW := Lib.hid (HB.out.trans (hba.mono HB.out.size))
    have HE1 : Hid (Ents (W.alloc o) (fun k => w.heap.size ≤ k ∧ k < (W.alloc o).heap.size) A1 c1 L1) := Lib.hid (hE1.later (fun k hk => hba.block k hk.2) fun k hk => ⟨hk.1, Nat.lt_of_lt_of_le hk.2 hba.size⟩)
    have HE2 : Hid (Ents (W.alloc o) (fun k => w.heap.size ≤ k ∧ k < (W.alloc o).heap.size) A2 c2 L2) := Lib.hid (hE2.later (fun k hk => hba.block k hk.2) fun k hk => ⟨hk.1, Nat.lt_of_lt_of_le hk.2 hba.size⟩)
    clear hx h1 hb HO hE1 hE2 hba
    go_upto_region 2 with fail
    rw [← ho]
    clear ho
    generalize W.alloc o = W2 at *
    go_wp2_with fail
    go_returns
    exact ⟨HBW.out, A1, c1, L1, by rw [H1.out]; rfl, by rw [H1.out], HE1.out⟩
set_option maxRecDepth 100000 in
set_option maxHeartbeats 800000 in
theorem oindext_any (A : Option Addr) (c : Nat) (bs : List Nat) (w : World) (hl : Lies w w.heap.size A (bs.map vb)) (hc : bs.length ≤ c) (hm : c ≤ maxLen) (hs : bs.length ≤ 10000000) (h8 : ∀ x, x ∈ bs → x < 256) (hsame : tallO bs = tallB bs) :
    Calls Try.prog 29 #[.slice A bs.length c] w (Tells w (tallB bs).2.1 (tallB bs).2.2) := by
  have HO := Lib.hid (oopent_any A c bs w hl hc hm hs h8)
  have HSA := Lib.hid hsame
  clear hl h8 hsame
  go_enter Try.func29, Try.ntmps29
  go_wp2_with fail
  refine HO.out.mono ?_
  rintro e W ⟨hb, (⟨n, h1, h2, rfl⟩ | ⟨A1, c1, L1, A2, c2, L2, s, v, h1, rfl, hE1, hE2⟩)⟩
  · have H1 : Hid (tallB bs = ([], [], n)) := Lib.hid (HSA.out.symm.trans h1)
    have HB := Lib.hid hb
    obtain ⟨o, ho⟩ : ∃ o : Obj, o = .cells #[.slice none 0 0, .slice none 0 0, .int .i64 0, .int .i64 0] 89 := ⟨_, rfl⟩
    have hx : Lift.Box (W.alloc o) W.heap.size 89 [.slice none 0 0, .slice none 0 0, .int .i64 0, .int .i64 0] := by rw [ho]; exact Lift.Box.new W _ _
    have f0 : (W.alloc o).cell? ⟨W.heap.size, 0, none⟩ = some (.slice none 0 0) := hx.cell 0
    have f1 : (W.alloc o).cell? ⟨W.heap.size, 1, none⟩ = some (.slice none 0 0) := hx.cell 1
    have HBW := Lib.hid (HB.out.trans ((Joins.below_alloc1 W o).mono HB.out.size))
    clear hx h1 h2 hb HO
    go_upto_region 2 with fail
    rw [← ho]
    clear ho
    generalize W.alloc o = W2 at *
    go_wp2_with fail
    go_returns
    exact ⟨HBW.out, none, 0, [], by rw [H1.out]; rfl, by rw [H1.out]; rfl, Ents.zero _ _⟩
  · have H1 : Hid (tallB bs = (L1.map D.t, L2.map D.t, 0)) := Lib.hid (HSA.out.symm.trans h1)
    have HB := Lib.hid hb
    obtain ⟨o, ho⟩ : ∃ o : Obj, o = .cells #[.slice A1 L1.length c1, .slice A2 L2.length c2, .int .i64 s, .int .i64 v] 89 := ⟨_, rfl⟩
    have hx : Lift.Box (W.alloc o) W.heap.size 89 [.slice A1 L1.length c1, .slice A2 L2.length c2, .int .i64 s, .int .i64 v] := by rw [ho]; exact Lift.Box.new W _ _
    have f0 : (W.alloc o).cell? ⟨W.heap.size, 0, none⟩ = some (.slice A1 L1.length c1) := hx.cell 0
    have f1 : (W.alloc o).cell? ⟨W.heap.size, 1, none⟩ = some (.slice A2 L2.length c2) := hx.cell 1
    have hba := Joins.below_alloc1 W o
    have HBW := Lib.hid (HB.out.trans (hba.mono HB.out.size))
    have HE1 : Hid (Ents (W.alloc o) (fun k => w.heap.size ≤ k ∧ k < (W.alloc o).heap.size) A1 c1 L1) := Lib.hid (hE1.later (fun k hk => hba.block k hk.2) fun k hk => ⟨hk.1, Nat.lt_of_lt_of_le hk.2 hba.size⟩)
    have HE2 : Hid (Ents (W.alloc o) (fun k => w.heap.size ≤ k ∧ k < (W.alloc o).heap.size) A2 c2 L2) := Lib.hid (hE2.later (fun k hk => hba.block k hk.2) fun k hk => ⟨hk.1, Nat.lt_of_lt_of_le hk.2 hba.size⟩)
    clear hx h1 hb HO hE1 hE2 hba
    go_upto_region 2 with fail
    rw [← ho]
    clear ho
    generalize W.alloc o = W2 at *
    go_wp2_with fail
    go_returns
    exact ⟨HBW.out, A2, c2, L2, by rw [H1.out]; rfl, by rw [H1.out], HE2.out⟩
set_option maxRecDepth 100000 in
set_option maxHeartbeats 800000 in
theorem ocheckt_any (A : Option Addr) (c : Nat) (bs : List Nat) (w : World) (hl : Lies w w.heap.size A (bs.map vb)) (hc : bs.length ≤ c) (hm : c ≤ maxLen) (hs : bs.length ≤ 10000000) (h8 : ∀ x, x ∈ bs → x < 256) (hsame : tallO bs = tallB bs) :
    Calls Try.prog 45 #[.slice A bs.length c] w fun e w' => e = .returned (.int .i64 ((tallB bs).2.2 : Nat)) ∧ Below w.heap.size w w' := by
  have HO := Lib.hid (oopent_any A c bs w hl hc hm hs h8)
  have HSA := Lib.hid hsame
  clear hl h8 hsame
  go_enter Try.func45, Try.ntmps45
  go_wp2_with fail
  refine HO.out.mono ?_
  rintro e W ⟨hb, (⟨n, h1, h2, rfl⟩ | ⟨A1, c1, L1, A2, c2, L2, s, v, h1, rfl, hE1, hE2⟩)⟩
  · have H1 : Hid (tallB bs = ([], [], n)) := Lib.hid (HSA.out.symm.trans h1)
    have HB := Lib.hid hb
    obtain ⟨o, ho⟩ : ∃ o : Obj, o = .cells #[.slice none 0 0, .slice none 0 0, .int .i64 0, .int .i64 0] 89 := ⟨_, rfl⟩
    have hx : Lift.Box (W.alloc o) W.heap.size 89 [.slice none 0 0, .slice none 0 0, .int .i64 0, .int .i64 0] := by rw [ho]; exact Lift.Box.new W _ _
    have f0 : (W.alloc o).cell? ⟨W.heap.size, 0, none⟩ = some (.slice none 0 0) := hx.cell 0
    have f1 : (W.alloc o).cell? ⟨W.heap.size, 1, none⟩ = some (.slice none 0 0) := hx.cell 1
    have HBW := Lib.hid (HB.out.trans ((Joins.below_alloc1 W o).mono HB.out.size))
    clear hx h1 h2 hb HO
    go_upto_region 2 with fail
    rw [← ho]
    clear ho
    generalize W.alloc o = W2 at *
    go_wp2_with fail
    go_ret
    exact ⟨by rw [H1.out]; rfl, HBW.out⟩
  · have H1 : Hid (tallB bs = (L1.map D.t, L2.map D.t, 0)) := Lib.hid (HSA.out.symm.trans h1)
    have HB := Lib.hid hb
    obtain ⟨o, ho⟩ : ∃ o : Obj, o = .cells #[.slice A1 L1.length c1, .slice A2 L2.length c2, .int .i64 s, .int .i64 v] 89 := ⟨_, rfl⟩
    have hx : Lift.Box (W.alloc o) W.heap.size 89 [.slice A1 L1.length c1, .slice A2 L2.length c2, .int .i64 s, .int .i64 v] := by rw [ho]; exact Lift.Box.new W _ _
    have f0 : (W.alloc o).cell? ⟨W.heap.size, 0, none⟩ = some (.slice A1 L1.length c1) := hx.cell 0
    have f1 : (W.alloc o).cell? ⟨W.heap.size, 1, none⟩ = some (.slice A2 L2.length c2) := hx.cell 1
    have hba := Joins.below_alloc1 W o
    have HBW := Lib.hid (HB.out.trans (hba.mono HB.out.size))
    have HE1 : Hid (Ents (W.alloc o) (fun k => w.heap.size ≤ k ∧ k < (W.alloc o).heap.size) A1 c1 L1) := Lib.hid (hE1.later (fun k hk => hba.block k hk.2) fun k hk => ⟨hk.1, Nat.lt_of_lt_of_le hk.2 hba.size⟩)
    have HE2 : Hid (Ents (W.alloc o) (fun k => w.heap.size ≤ k ∧ k < (W.alloc o).heap.size) A2 c2 L2) := Lib.hid (hE2.later (fun k hk => hba.block k hk.2) fun k hk => ⟨hk.1, Nat.lt_of_lt_of_le hk.2 hba.size⟩)
    clear hx h1 hb HO hE1 hE2 hba
    go_upto_region 2 with fail
    rw [← ho]
    clear ho
    generalize W.alloc o = W2 at *
    go_wp2_with fail
    go_ret
    exact ⟨by rw [H1.out]; rfl, HBW.out⟩
theorem tallB_zero {bs : List Nat} (h : (tallB bs).2.2 = 0) : IsT bs (tallB bs).1 := by
  unfold tallB at h ⊢
  split at h
  · cases h
  · rename_i h1
    split at h
    · cases h
    · rename_i h2
      split at h
      · cases h
      · rename_i h3
        split at h
        · exfalso
          have h : inner (allB (ixb bs)).2 = 0 := h
          unfold inner at h
          split at h <;> cases h
        · rename_i h4
          split at h
          · cases h
          · rename_i h5
            rw [if_neg h1, if_neg h2, if_neg h3, if_neg h4, if_neg h5]
            cases hw : walk bs (ft bs 0) 0 (allB (ixb bs)).1 with
            | error e =>
              rw [hw] at h
              exact absurd h (walk_pos _ _ _ hw).1
            | ok ps =>
              rw [hw] at h
              dsimp only at h ⊢
              split at h
              · rename_i h6
                rw [if_pos h6]
                exact h6
              · cases h
theorem tallB_err {bs : List Nat} (h : (tallB bs).2.2 ≠ 0) : (tallB bs).1 = [] := by
  unfold tallB at h ⊢
  split
  · rfl
  · rename_i h1
    rw [if_neg h1] at h
    split
    · rfl
    · rename_i h2
      rw [if_neg h2] at h
      split
      · rfl
      · rename_i h3
        rw [if_neg h3] at h
        split
        · rfl
        · rename_i h4
          rw [if_neg h4] at h
          split
          · rfl
          · rename_i h5
            rw [if_neg h5] at h
            cases hw : walk bs (ft bs 0) 0 (allB (ixb bs)).1 with
            | error e => rfl
            | ok ps =>
              rw [hw] at h
              dsimp only at h ⊢
              split
              · rename_i h6
                rw [if_pos h6] at h
                exact absurd rfl h
              · rfl
/-- The first entry that is not ahead of a key is the one asked for, or there is none. -/
theorem get_ahead {L : List D} {ky : List Nat} {seq : Nat} (hok : ∀ t, t ∈ L.map D.t → okT t = true) (hs : Sorted D.k L) :
    getT (L.map D.t) ky seq = ((L[Bk.ahead L ⟨ky, seq, 1⟩]?).bind fun d => if d.k.key = ky then some d.t else none) := by
  have hc : ∀ d, d ∈ L → (cmpK d.k ⟨ky, seq, 1⟩ < 0 → ¬ (d.k.key = ky ∧ d.k.seq ≤ seq)) ∧ (¬ cmpK d.k ⟨ky, seq, 1⟩ < 0 → d.k.key = ky → d.k.seq ≤ seq) := by
    intro d hd
    have hk : d.k.kind = 0 ∨ d.k.kind = 1 := by
      have := okT_B (hok d.t (List.mem_map.2 ⟨d, hd, rfl⟩))
      have h2 : okB d.k.key.length d.k.seq d.k.kind = true := this
      simp [okB] at h2
      omega
    have hone := cmpK_one d.k ⟨ky, seq, 1⟩
    constructor
    · rintro h ⟨rfl, h2⟩
      have h3 : cmpK d.k ⟨d.k.key, seq, 1⟩ = -1 := by omega
      rw [cmpK_lt] at h3
      rcases h3 with h4 | ⟨-, h4 | ⟨h4, h5⟩⟩
      · have h6 : cmpB d.k.key d.k.key = -1 := h4
        have h7 := cmpK_self ⟨d.k.key, 0, 0⟩
        have h8 : cmpK ⟨d.k.key, 0, 0⟩ ⟨d.k.key, 0, 0⟩ = -1 := (cmpK_lt _ _).2 (.inl h6)
        omega
      · have h4 : seq < d.k.seq := h4
        omega
      · have h5 : (1 : Int) < d.k.kind := h5
        omega
    · intro h hkk
      refine Nat.le_of_not_lt fun h2 => h ?_
      have : cmpK d.k ⟨ky, seq, 1⟩ = -1 := (cmpK_lt _ _).2 (.inr ⟨hkk, .inl h2⟩)
      omega
  unfold getT
  obtain ⟨a, ha⟩ : ∃ a, a = Bk.ahead L ⟨ky, seq, 1⟩ := ⟨_, rfl⟩
  have hpre : ∀ d, d ∈ L.take a → cmpK d.k ⟨ky, seq, 1⟩ < 0 := fun d hd => by
    have hb := bef_aft (f := D.k) L ⟨ky, seq, 1⟩
    have hd2 : d ∈ bef D.k L ⟨ky, seq, 1⟩ := by
      rw [ha] at hd
      have e : L.take (Bk.ahead L ⟨ky, seq, 1⟩) = bef D.k L ⟨ky, seq, 1⟩ := by
        have h2 := congrArg (List.take (bef D.k L ⟨ky, seq, 1⟩).length) hb
        rw [List.take_left] at h2
        exact h2.symm
      rwa [e] at hd
    exact bef_lt d hd2
  have hnone : ((L.take a).map D.t).find? (fun t => decide (t.k.key = ky ∧ t.k.seq ≤ seq)) = none := by
    rw [List.find?_eq_none]
    intro t ht
    obtain ⟨d, hd, rfl⟩ := List.mem_map.1 ht
    have := (hc d (List.mem_of_mem_take hd)).1 (hpre d hd)
    exact fun hh => this (of_decide_eq_true hh)
  rw [← ha]
  have hsplit : L.map D.t = (L.take a).map D.t ++ (L.drop a).map D.t := by rw [← List.map_append, List.take_append_drop]
  rw [hsplit, List.find?_append, hnone, Option.none_or]
  cases hd : L[a]? with
  | none =>
    rw [List.getElem?_eq_none_iff] at hd
    rw [List.drop_eq_nil_of_le hd]
    rfl
  | some d =>
    have hdr : L.drop a = d :: L.drop (a + 1) := by
      obtain ⟨h, e⟩ := List.getElem?_eq_some_iff.1 hd
      rw [List.drop_eq_getElem_cons h, e]
    have hat : L[Bk.ahead L ⟨ky, seq, 1⟩]? = some d := by rw [← ha]; exact hd
    have hge : ¬ cmpK d.k ⟨ky, seq, 1⟩ < 0 := by
      rw [ahead_at] at hat
      exact aft_ge hs d (List.mem_of_head? hat)
    have hmem := List.mem_of_getElem? hd
    rw [hdr, List.map_cons, Option.bind_some]
    by_cases hk : d.k.key = ky
    · rw [if_pos hk, List.find?_cons_of_pos (by
        have := (hc d hmem).2 hge hk
        simp only [decide_eq_true_eq]
        exact ⟨hk, this⟩)]
    · rw [if_neg hk, List.find?_eq_none]
      intro t ht
      have ht2 : t ∈ (L.drop a).map D.t := by rw [hdr]; exact ht
      obtain ⟨e, he, rfl⟩ := List.mem_map.1 ht2
      simp only [decide_eq_true_eq]
      rintro ⟨h1, h2⟩
      rw [hdr] at he
      rcases List.mem_cons.1 he with rfl | he
      · exact hk h1
      · have h1' : e.k.key = ky := h1
        have hs2 := hs
        rw [← List.take_append_drop a L, hdr] at hs2
        have hlt : cmpK d.k e.k < 0 := (List.pairwise_cons.1 (List.pairwise_append.1 hs2).2.1).1 e he
        have hone := cmpK_one d.k e.k
        have h3 : cmpK d.k e.k = -1 := by omega
        rw [cmpK_lt] at h3
        rcases h3 with h4 | ⟨h4, -⟩
        · refine hge ?_
          have : cmpK d.k ⟨ky, seq, 1⟩ = -1 := (cmpK_lt _ _).2 (.inl (by rw [← h1']; exact h4))
          omega
        · exact hk (h4.trans h1')
theorem finds_no {w w' : World} {ts : List T} {ky : List Nat} {seq n : Nat} (h : getT ts ky seq = none) (hb : Below w.heap.size w w') : Finds w (getT ts ky seq) n (.returned (.tuple #[dz.v, .bool false, .int .i64 (n : Int)])) w' := ⟨hb, by rw [h]⟩
set_option maxRecDepth 1000000 in
set_option maxHeartbeats 3200000 in
theorem ogett_any (A A2 : Option Addr) (c c2 : Nat) (bs ky : List Nat) (seq : Nat) (w : World) (hl : Lies w w.heap.size A (bs.map vb)) (hc : bs.length ≤ c) (hm : c ≤ maxLen) (hs : bs.length ≤ 10000000) (h8 : ∀ x, x ∈ bs → x < 256)
    (h2 : Lies w w.heap.size A2 (ky.map vb)) (hc2 : ky.length ≤ c2) (hm2 : c2 ≤ maxLen) (k8 : ∀ x, x ∈ ky → x < 256) (hq : seq < 18446744073709551616) (hsame : tallO bs = tallB bs) :
    Calls Try.prog 28 #[.slice A bs.length c, .slice A2 ky.length c2, .int .u64 (seq : Int)] w (Finds w (getT (tallB bs).1 ky seq) (tallB bs).2.2) := by
  obtain ⟨W0, hW0⟩ : ∃ W0 : World, W0 = w.alloc (.cells #[.slice none 0 0, .int .u64 0, .int .i64 0, .slice none 0 0] 48) := ⟨_, rfl⟩
  have b0 : Below w.heap.size w W0 := by rw [hW0]; exact Joins.below_alloc1 w _
  have z0 : Bx W0 w.heap.size dz := by rw [hW0]; exact Bx.new w dz
  have HO := Lib.hid (oallt_any A c bs W0 ((hl.below b0).up b0.size) hc hm hs h8 hsame)
  have hkok : At w w.heap.size A2 c2 ⟨ky, seq, 1⟩ := ⟨h2, hc2, hm2, k8, hq, by show (-9223372036854775808 : Int) ≤ 1; decide, by show (1 : Int) ≤ 9223372036854775807; decide⟩
  have HK := Lib.hid hkok
  have Z0 := Lib.hid z0
  have B0 := Lib.hid b0
  have HL2 := Lib.hid h2
  have K8 := Lib.hid k8
  have hS0 : W0.heap.size = w.heap.size + 1 := by rw [hW0]; simp
  have S0 := Lib.hid hS0
  have hle := tallB_le bs
  have HF := Lib.hid (tallB_few bs)
  have HERR := Lib.hid (tallB_err (bs := bs))
  have HZR := Lib.hid (tallB_zero (bs := bs))
  unfold maxLen at hm2
  clear hl h8 h2 k8 hkok z0 b0 hsame hS0
  go_enter Try.func28, Try.ntmps28
  go_upto_region 1 with fail
  rw [← hW0]
  clear hW0
  go_wp2_with fail
  refine HO.out.mono ?_
  rintro e W1 ⟨hb1, A1, c1, L, rfl, hL, hents⟩
  have HLL := Lib.hid hL
  have HB1 := Lib.hid (B0.out.trans (hb1.mono B0.out.size))
  have Z1 : Hid (Bx W1 w.heap.size dz) := Lib.hid (Z0.out.below hb1 Z0.out.lt)
  have HEN : Hid (Ents W1 (fun k => w.heap.size < k ∧ k < W1.heap.size) A1 c1 L) := Lib.hid (hents.mono fun k hk => ⟨by have := hk.1; have := S0.out; omega, hk.2⟩)
  obtain ⟨n, hn⟩ : ∃ n, n = (tallB bs).2.2 := ⟨_, rfl⟩
  have HN := Lib.hid hn
  rw [← hn] at hle ⊢
  rw [← hn] at HERR HZR
  have hlL : L.length ≤ 10000 := by have := HF.out; rwa [← hL, List.length_map] at this
  have HG : Hid (getT (tallB bs).1 ky seq = getT (L.map D.t) ky seq) := Lib.hid (by rw [hL])
  clear hb1 hL hn HO
  by_cases hne : n = 0
  · subst hne
    have his := HZR.out rfl
    obtain ⟨hok, hris, -⟩ := may_zero (mayT_zero his.1).1
    rw [← HLL.out] at hok hris
    have hsort := rises_pair hris
    have HGA := Lib.hid (get_ahead (ky := ky) (seq := seq) hok hsort)
    obtain ⟨W2, hW2⟩ : ∃ W2 : World, W2 = W1.alloc (kbox A2 c2 ⟨ky, seq, 1⟩) := ⟨_, rfl⟩
    have hb2 : Below W1.heap.size W1 W2 := by rw [hW2]; exact Joins.below_alloc1 W1 _
    have hx2 : Lift.Box W2 W1.heap.size 38 [.slice A2 ky.length c2, .int .u64 (seq : Int), .int .i64 1] := by rw [hW2]; exact Lift.Box.new W1 _ [.slice A2 ky.length c2, .int .u64 (seq : Int), .int .i64 1]
    obtain ⟨k0, k1, k2, -, -, -⟩ := hx2.facts3
    have hkk := KD.load (p := ⟨W1.heap.size, 0, none⟩) (d := ⟨A2, c2, ⟨ky, seq, 1⟩⟩) k0 k1 k2
    have HB2 := Lib.hid (HB1.out.trans (hb2.mono HB1.out.size))
    have Z2 : Hid (Bx W2 w.heap.size dz) := Lib.hid (Z1.out.below hb2 Z1.out.lt)
    have HE2 : Hid (Ents W2 (fun k => w.heap.size < k ∧ k < W2.heap.size) A1 c1 L) := Lib.hid (HEN.out.later (fun k hk => hb2.block k hk.2) fun k hk => ⟨hk.1, Nat.lt_of_lt_of_le hk.2 hb2.size⟩)
    have HBS := Lib.hid (tbinf_any A1 c1 L A2 c2 ⟨ky, seq, 1⟩ W2 (HE2.out.mono fun k hk => hk.2) (HK.out.next HB2.out) hlL hsort)
    have hal := ahead_le L ⟨ky, seq, 1⟩
    clear hb2 hx2 hok hris hsort his
    generalize Bk.ahead L ⟨ky, seq, 1⟩ = a at HBS HGA hal
    go_upto_region 5 with fail
    rw [← hW2]
    clear hW2
    go_wp2_with fail
    refine HBS.out.mono ?_
    rintro e W3 ⟨⟨fd, rfl⟩, hb3⟩
    have z3 : Bx W3 w.heap.size dz := Z2.out.below hb3 Z2.out.lt
    have Z3 := Lib.hid z3
    obtain ⟨y0, y1, y2, y3, i0, i1, i2, i3⟩ := z3.facts
    have HB3 := Lib.hid (HB2.out.trans (hb3.mono HB2.out.size))
    have HE3 : Hid (Ents W3 (fun k => w.heap.size < k ∧ k < W3.heap.size) A1 c1 L) := Lib.hid (HE2.out.later (fun k hk => hb3.block k hk.2) fun k hk => ⟨hk.1, Nat.lt_of_lt_of_le hk.2 hb3.size⟩)
    clear hb3 HBS k0 k1 k2 hkk z3
    by_cases hend : a = L.length
    · have hbx : Bx (put W3 w.heap.size dz) w.heap.size dz := put_box _ Z3.out
      have HBX := Lib.hid hbx
      have HS : Hid (getT (L.map D.t) ky seq = none) := Lib.hid (by rw [HGA.out, List.getElem?_eq_none (by omega)]; rfl)
      have HPB := Lib.hid (put_below (B := w.heap.size) HB3.out (g := w.heap.size) (Nat.le_refl _) dz)
      have hq2 : ((a : Int) == (L.length : Int)) = true := by rw [beq_iff_eq]; omega
      subst hend
      clear hbx HGA
      go_wp2_with fail
      refine bodyPost_ret (results_box3 rfl Try.underlying48 (by kernel_rfl) _ rfl HBX.out) rfl ?_
      rw [HG.out, ← HN.out]
      exact finds_no HS.out HPB.out
    · have hlt : a < L.length := by omega
      have hq2 : ((a : Int) == (L.length : Int)) = false := by rw [beq_eq_false_iff_ne]; omega
      have hqn : ¬ (a : Int) = (L.length : Int) := by omega
      obtain ⟨d, hd⟩ : ∃ d, L[a]? = some d := ⟨_, List.getElem?_eq_getElem hlt⟩
      obtain ⟨ad, p, hA, hpb, hp, q0, q1, q2, q3⟩ := HE3.out.place hd
      subst hA
      have hld := D.load q0 q1 q2 q3
      have okd := HE3.out.ok d (List.mem_of_getElem? hd)
      have HD := Lib.hid okd
      have hc1 := HE3.out.len
      have hm1 := HE3.out.cap
      have HEQ := Lib.hid (equal_any d.ka A2 d.kc c2 d.k.key ky W3 (okd.kl.lies fun k hk => hk.2) ((HL2.out.below HB3.out).up HB3.out.size) okd.ok.1 K8.out)
      unfold maxLen at hm1
      by_cases hkey : d.k.key = ky
      · have hde : decide (d.k.key = ky) = true := decide_eq_true hkey
        rw [hde] at HEQ
        have HS : Hid (getT (L.map D.t) ky seq = some d.t) := Lib.hid (by rw [HGA.out, hd, Option.bind_some, if_pos hkey])
        have hbx : Bx (put W3 w.heap.size d) w.heap.size d := put_box _ Z3.out
        have HBX := Lib.hid hbx
        have HPB := Lib.hid (put_below (B := w.heap.size) HB3.out (g := w.heap.size) (Nat.le_refl _) d)
        have HDK := Lib.hid (hd)
        clear hbx hd hend hpb hde hkey okd HGA
        go_wp2_with fail
        refine HEQ.out.mono ?_
        rintro e w9 ⟨rfl, hw9⟩
        subst hw9
        go_wp2_with fail
        refine bodyPost_ret (results_box3 rfl Try.underlying48 (by kernel_rfl) _ rfl HBX.out) rfl ?_
        refine ⟨HPB.out, ?_⟩
        rw [HG.out, ← HN.out, HS.out]
        exact ⟨d, rfl, rfl, HD.out.later (fun k hk => put_off _ _ _ _ (by have := hk.1; omega)) fun k hk => ⟨Nat.le_of_lt hk.1, by rw [put_size]; exact hk.2⟩⟩
      · have hde : decide (d.k.key = ky) = false := decide_eq_false hkey
        rw [hde] at HEQ
        have HS : Hid (getT (L.map D.t) ky seq = none) := Lib.hid (by rw [HGA.out, hd, Option.bind_some, if_neg hkey])
        have hbx : Bx (put W3 w.heap.size dz) w.heap.size dz := put_box _ Z3.out
        have HBX := Lib.hid hbx
        have HPB := Lib.hid (put_below (B := w.heap.size) HB3.out (g := w.heap.size) (Nat.le_refl _) dz)
        clear hbx hd hend hpb hde hkey okd HGA
        go_wp2_with fail
        refine HEQ.out.mono ?_
        rintro e w9 ⟨rfl, hw9⟩
        subst hw9
        go_wp2_with fail
        refine bodyPost_ret (results_box3 rfl Try.underlying48 (by kernel_rfl) _ rfl HBX.out) rfl ?_
        rw [HG.out, ← HN.out]
        exact finds_no HS.out HPB.out
  · have hnil := HERR.out hne
    have hL0 : L.map D.t = [] := by rw [HLL.out]; exact hnil
    have HS : Hid (getT (L.map D.t) ky seq = none) := Lib.hid (by rw [hL0]; rfl)
    have d1 : ((n : Int) != 0) = true := by rw [bne_iff_ne]; omega
    have hbx : Bx (put W1 w.heap.size dz) w.heap.size dz := put_box _ Z1.out
    have HBX := Lib.hid hbx
    have HPB := Lib.hid (put_below (B := w.heap.size) HB1.out (g := w.heap.size) (Nat.le_refl _) dz)
    obtain ⟨y0, y1, y2, y3, i0, i1, i2, i3⟩ := Z1.out.facts
    clear hbx hnil hL0
    go_wp2_with fail
    refine bodyPost_ret (results_box3 rfl Try.underlying48 (by kernel_rfl) _ rfl HBX.out) rfl ?_
    rw [HG.out, ← HN.out]
    exact finds_no HS.out HPB.out
end Go.Proofs.Ytobjiamdljjkjaa.Tb

/- What the laws of tables share: the document's example. -/
namespace Go.Proofs.Ytobjiamdljjkjaa.Tb
set_option linter.unusedVariables false
set_option linter.unusedSimpArgs false
open Go.RowKit Lift Ik Sk Vn Bk Bl Sq
def Yes (w : World) (e : Ending) (w' : World) : Prop := e = .returned (.bool true) ∧ Below w.heap.size w w'
theorem num_any (n : Int) (w : World) : Calls Try.prog 27 #[.int .i64 n] w fun e w' => e = .returned (.int .i64 n) ∧ w = w' := by
  go_enter Try.func27, Try.ntmps27
  go_wp2_with fail
  go_ret
  exact ⟨rfl, rfl⟩
abbrev ta : T := ⟨⟨[97], 1, 1⟩, []⟩
theorem mayT_ta : mayT [ta] = 0 := by decide
abbrev da (b : Nat) : D := ⟨some ⟨b, 0, none⟩, 1, ta.k, none, 0, []⟩
set_option maxRecDepth 100000 in
set_option maxHeartbeats 1600000 in
theorem alive_any (w : World) : Calls Try.prog 25 #[] w (Yes w) := by
  have kc := fun (W : World) (C : Array Value) (n c : Nat) => Lib.run_convert_bytes_const (P := Try.prog) W 25 5 C n c Try.underlying25 Try.underlying5
  go_enter Try.func25, Try.ntmps25
  go_wp2_with fail
  have hd1 : (da w.heap.size).Ok (w.alloc (.cells #[.int .u8 97] 5 (1, 2))) (· < w.heap.size + 1) :=
    ⟨.inr ⟨_, rfl, Nat.lt_succ_self _, fun j u hj => by
      rcases j with _ | j
      · simp [ta] at hj
        subst hj
        exact World.cell?_alloc_mark w #[.int .u8 97] 5 (1, 2) 0
      · simp [ta] at hj⟩, Nat.le_refl _, (by show (1 : Nat) ≤ maxLen; decide), ⟨by simp [ta], (by show (1 : Nat) < 18446744073709551616; decide), (by show (-9223372036854775808 : Int) ≤ 1; decide), (by show (1 : Int) ≤ 9223372036854775807; decide)⟩, .inl rfl, Nat.le_refl _, (by show (0 : Nat) ≤ maxLen; decide), by simp⟩
  have hb1 := Joins.below_alloc1 w (.cells #[.int .u8 97] 5 (1, 2))
  have s1 : (w.alloc (.cells #[.int .u8 97] 5 (1, 2))).heap.size = w.heap.size + 1 := World.size_alloc ..
  have hb2 := below_box (w.alloc (.cells #[.int .u8 97] 5 (1, 2))) (da w.heap.size)
  have hl2 : Lies ((w.alloc (.cells #[.int .u8 97] 5 (1, 2))).alloc (ebox (da w.heap.size))) (w.heap.size + 1 + 1) (some ⟨w.heap.size + 1, 0, none⟩) (da w.heap.size).cells := by
    have := lies_block (cs := (da w.heap.size).cells.toArray) (heap_alloc_new (w.alloc (.cells #[.int .u8 97] 5 (1, 2))) (ebox (da w.heap.size))) (Nat.lt_succ_self _)
    rw [s1] at this
    exact this
  have hen : Ents ((w.alloc (.cells #[.int .u8 97] 5 (1, 2))).alloc (ebox (da w.heap.size))) (· < ((w.alloc (.cells #[.int .u8 97] 5 (1, 2))).alloc (ebox (da w.heap.size))).heap.size) (some ⟨w.heap.size + 1, 0, none⟩) 1 [da w.heap.size] := by
    refine ⟨?_, Nat.le_refl _, by decide, fun d hd => ?_⟩
    · have e : cellsL [da w.heap.size] = (da w.heap.size).cells := by simp [cellsL]
      rw [e]
      exact Lies.p hl2 fun k hk => by simp; omega
    · simp at hd
      subst hd
      rw [s1] at hb2
      exact hd1.later hb2.block (fun k hk => by simp; omega)
  have hb : Below w.heap.size w ((w.alloc (.cells #[.int .u8 97] 5 (1, 2))).alloc (ebox (da w.heap.size))) := hb1.trans (hb2.mono hb1.size)
  have HBU := Lib.hid (obuildt_any _ 1 [da w.heap.size] 100 4 10 _ hen (by simp))
  have HB := Lib.hid hb
  clear hd1 hb1 s1 hb2 hl2 hen hb kc
  refine HBU.out.mono ?_
  rintro e W3 ⟨v, rfl, hown, hb3⟩
  rw [show [da w.heap.size].map D.t = [ta] from rfl] at hown ⊢
  rw [mayT_ta]
  obtain ⟨l1, l2⟩ := tabB_len (size := 100) (every := 4) (bits := 10) mayT_ta (by simp)
  obtain ⟨ev, sz, htl⟩ := tabB_tall (size := 100) (every := 4) (bits := 10) mayT_ta
  have h8 : ∀ x, x ∈ tabB 100 4 10 [ta] → x < 256 := tabB_byte (fun t ht => by simp at ht; subst ht; exact ⟨⟨by simp, by decide, by decide, by decide⟩, by simp⟩)
  have HTL := Lib.hid (show (tallB (tabB 100 4 10 [ta])).2.2 = 0 by rw [htl])
  have HSM : Hid (tallO (tabB 100 4 10 [ta]) = tallB (tabB 100 4 10 [ta])) := Lib.hid same_tab
  generalize tabB 100 4 10 [ta] = b at *
  obtain ⟨A, c, rfl, hc, hm, hl⟩ := own_parts hown
  have HB3 := Lib.hid (HB.out.trans (hb3.mono HB.out.size))
  have HC0 := Lib.hid (ocheckt_any none 0 [] W3 (.inl rfl) (by simp) (by decide) (by simp) (fun x hx => by cases hx) (same_short (by simp)))
  rw [tallB_short (bs := []) (by simp)] at HC0
  have HC := Lib.hid (fun (W : World) (hW : Below W3.heap.size W3 W) => ocheckt_any A c b W ((hl.below hW).up hW.size) hc hm (by omega) h8 HSM.out)
  have dl : decide ((24 : Int) < (b.length : Int)) = true := decide_eq_true (by omega)
  have dl2 : decide (24 < b.length) = true := decide_eq_true l1
  clear hown hb3 hl h8 htl hc hm HBU HB
  go_wp2_with fail
  refine HC0.out.mono ?_
  rintro e W4 ⟨rfl, hb4⟩
  have HB4 := Lib.hid hb4
  clear hb4 HC0
  go_wp2_with fail
  refine (num_any _ W4).mono ?_
  rintro e w' ⟨rfl, rfl⟩
  go_wp2_with fail
  refine (num_any _ W4).mono ?_
  rintro e w' ⟨rfl, rfl⟩
  go_wp2_with fail
  refine (HC.out W4 HB4.out).mono ?_
  rintro e W5 ⟨rfl, hb5⟩
  rw [HTL.out]
  have HB5 := Lib.hid ((HB3.out.trans (HB4.out.mono HB3.out.size)).trans (hb5.mono (Nat.le_trans HB3.out.size HB4.out.size)))
  clear hb5
  go_wp2_with fail
  refine (num_any _ W5).mono ?_
  rintro e w' ⟨rfl, rfl⟩
  go_wp2_with fail
  go_ret
  exact ⟨rfl, HB5.out⟩
end Go.Proofs.Ytobjiamdljjkjaa.Tb
