/- Package block: a reader of packed entries: what next answers. -/
import Derived.Test.YtaopbgildkjpcaaOrdr
import Derived.Test.YtaopbgildkjpcaaBac
namespace Go.Proofs.Ytaopbgildkjpcaa.Bk
set_option linter.unusedVariables false
set_option linter.unusedSimpArgs false
open Go.RowKit Lift Ik Sk Vn
open Vt (res)
/-- The numbers got so far: j of them, from p on; q is the place behind them. -/
def Got (bs : List Nat) (p q a b c : Nat) : Nat → Prop
  | 0 => q = p
  | 1 => res bs (p : Nat) = (a, q, 0)
  | 2 => ∃ q1 : Nat, res bs (p : Nat) = (a, q1, 0) ∧ res bs (q1 : Nat) = (b, q, 0)
  | _ => ∃ q1 q2 : Nat, res bs (p : Nat) = (a, q1, 0) ∧ res bs (q1 : Nat) = (b, q2, 0) ∧ res bs (q2 : Nat) = (c, q, 0)
def upd (j n : Nat) (i x : Nat) : Nat := if j = i then n else x
theorem got_err {bs last : List Nat} {p q a b c j : Nat} (h : Got bs p q a b c j) (hj : j < 3) (he : (res bs (q : Nat)).2.2 ≠ 0) : step bs p last = none := by
  match j, hj with
  | 0, _ => obtain rfl : q = p := h; exact step_a (.inl he)
  | 1, _ =>
    have h : res bs (p : Nat) = (a, q, 0) := h
    by_cases hl : last.length < a
    · exact step_a (.inr (by rw [h]; exact hl))
    · exact step_b h hl he
  | 2, _ =>
    obtain ⟨q1, h1, h2⟩ := h
    by_cases hl : last.length < a
    · exact step_a (.inr (by rw [h1]; exact hl))
    · exact step_c h1 hl h2 (.inl he)
theorem got_next {bs : List Nat} {p q q' a b c j n : Nat} (h : Got bs p q a b c j) (hj : j < 3) (he : res bs (q : Nat) = (n, q', 0)) : Got bs p q' (upd j n 0 a) (upd j n 1 b) (upd j n 2 c) (j + 1) := by
  match j, hj with
  | 0, _ => obtain rfl : q = p := h; exact he
  | 1, _ => exact ⟨q, h, he⟩
  | 2, _ => obtain ⟨q1, h1, h2⟩ := h; exact ⟨q1, q, h1, h2, he⟩
theorem got_place {bs : List Nat} {p q a b c j : Nat} (h : Got bs p q a b c j) (hj : j ≤ 3) (hp : p ≤ bs.length) : p ≤ q ∧ q ≤ bs.length := by
  match j, hj with
  | 0, _ => obtain rfl : q = p := h; exact ⟨Nat.le_refl _, hp⟩
  | 1, _ =>
    have h : res bs (p : Nat) = (a, q, 0) := h
    have := res_ok h
    omega
  | 2, _ =>
    obtain ⟨q1, h1, h2⟩ := h
    have := res_ok h1
    have := res_ok h2
    omega
  | 3, _ =>
    obtain ⟨q1, q2, h1, h2, h3⟩ := h
    have := res_ok h1
    have := res_ok h2
    have := res_ok h3
    omega
theorem got_lt {bs : List Nat} {p q a b c : Nat} (h : Got bs p q a b c 3) : a < 18446744073709551616 ∧ b < 18446744073709551616 ∧ c < 18446744073709551616 ∧ p < q := by
  obtain ⟨q1, q2, h1, h2, h3⟩ := h
  have := res_ok h1
  have := res_ok h2
  have := res_ok h3
  omega
abbrev lcells (a b c : Nat) : List Value := [.int .u64 (a : Int), .int .u64 (b : Int), .int .u64 (c : Int)]
theorem lcells_set (a b c j n : Nat) (hj : j < 3) : (lcells a b c).set j (.int .u64 (n : Int)) = lcells (upd j n 0 a) (upd j n 1 b) (upd j n 2 c) := by
  match j, hj with
  | 0, _ => rfl
  | 1, _ => rfl
  | 2, _ => rfl
/-- A reader of the bytes bs at the place p. -/
structure Rdr (w : World) (g : Nat) (A : Option Addr) (c p : Nat) (bs : List Nat) (Ak : Option Addr) (ck : Nat) (last : List Nat) (base : Nat) : Prop where
  box : Lift.Box w g 106 (rcells A bs.length c p (.slice Ak last.length ck))
  log : Lies w base A (bs.map vb)
  bg : base ≤ g
  own : w.ownsRow base 5 1 (.slice Ak last.length ck) last.length (last.map vb)
  place : p ≤ bs.length
  l8 : ∀ x, x ∈ last → x < 256
/-- The blocks that next may write. -/
abbrev RS (g : Nat) (Ak : Option Addr) (n ck : Nat) (k : Nat) : Prop := k = g ∨ (Value.slice Ak n ck).ownBlock = some k
/-- New blocks of bytes, but for that of v. -/
def FK (B : Nat) (w : World) (v : Value) (k : Nat) : Prop := Fresh B w k ∧ ¬ v.ownBlock = some k
/-- What next answers. -/
def Nxt (w : World) (g : Nat) (A : Option Addr) (c p : Nat) (bs : List Nat) (Ak : Option Addr) (ck : Nat) (last : List Nat) (base : Nat) (e : Ending) (w' : World) : Prop :=
  Keep (RS g Ak last.length ck) w w' ∧ ((step bs p last = none ∧ e = .returned (.tuple #[.agg #[.slice none 0 0, .int .u64 0, .int .i64 0, .slice none 0 0], .bool false])) ∨
    ∃ (d : D) (kb : List Nat) (tn : Nat) (Ak' : Option Addr) (ck' : Nat), step bs p last = some (d.t, kb, tn) ∧ e = .returned (.tuple #[d.v, .bool true]) ∧ d.Ok w' (FK w.heap.size w' (.slice Ak' kb.length ck')) ∧ Rdr w' g A c tn bs Ak' ck' kb base ∧ p < tn ∧
      (∀ k, (Value.slice Ak' kb.length ck').ownBlock = some k → (Value.slice Ak last.length ck).ownBlock = some k ∨ w.heap.size ≤ k))
theorem own_front {w : World} {base : Nat} {A : Option Addr} {ck m : Nat} {xs : List Nat} (h : w.ownsRow base 5 1 (.slice A xs.length ck) xs.length (xs.map vb)) (hm : m ≤ xs.length) : w.ownsRow base 5 1 (.slice A m ck) (xs.take m).length ((xs.take m).map vb) := by
  have hl : (xs.take m).length = m := by rw [List.length_take]; omega
  obtain ⟨h1, h2⟩ := h
  rw [hl]
  refine ⟨by rw [List.length_map, hl, Nat.mul_one], ?_⟩
  rcases h2 with ⟨h2, h3⟩ | ⟨b, cap, cur, hv, hB, hh, r⟩
  · injection h2 with e1 e2 e3
    have : m = 0 := by omega
    subst this
    left
    subst e1
    subst e3
    exact ⟨rfl, rfl⟩
  · right
    injection hv with e1 e2 e3
    obtain ⟨r1, r2, r3, r4⟩ := r
    refine ⟨b, cap, cur, by rw [e1, e3], hB, hh, by omega, r2, r3, ?_⟩
    rw [Nat.mul_one] at r4 ⊢
    rw [List.map_take, ← r4, List.take_take, Nat.min_eq_left hm]
theorem keep_setRow {S : Nat → Prop} {a w : World} (h : Keep S a w) {g : Nat} (hg : a.heap.size ≤ g ∨ S g) (cells : Array Value) : Keep S a (w.setRow g cells) :=
  ⟨h.os, h.tape, h.output, by rw [size_setRow]; exact h.size, fun k hk hn => (setRow_other w g k _ (fun e => by subst e; rcases hg with h1 | h1; omega; exact hn h1)).trans (h.block k hk hn)⟩
theorem hold_store {P : Program} {w : World} {ops : Array Oper} {o : Oper} {a : Act} {K' : Act → World → Prop} {Q : Exit → Act → World → Prop} (hw : Region.wanted o (yielded ops a.tmps) = true) (ty : TypeId) (x y : Operand)
    (ho : o.op = .store ty x y) (g : Nat) (cells : Array Value) (hx : a.eval x = .pointer (some ⟨g, 0, none⟩)) (hy : a.eval y = .agg cells) (t : TypeId) (old : Array Value) (hg : w.heap[g]? = some (.cells old t (0, 0)))
    (hi : (P.info? ty).map (·.size) = some cells.size) (hold : old.size = cells.size) (h1 : cells.all (·.oneCell') = true) (h : K' (a.put o.dst undef) (w.setRow g cells)) :
    if Region.wanted o (yielded ops a.tmps) = true then Oper.wp P o a w K' Q else K' (a.put o.dst undef) w := by
  rw [if_pos hw]
  exact wp_store_row ty x y ho g cells hx hy t old hg hi hold h1 h
abbrev zrow : Array Value := #[.slice none 0 0, .int .u64 0, .int .i64 0, .slice none 0 0]
set_option maxRecDepth 1000000 in
set_option maxHeartbeats 3200000 in
theorem onext_any (g c p ck base : Nat) (A Ak : Option Addr) (bs last : List Nat) (w : World) (h : Rdr w g A c p bs Ak ck last base) (hp : p < bs.length) (hc : bs.length ≤ c) (hm : c ≤ maxLen) (hs : bs.length ≤ 50000000) (hls : last.length ≤ 100000000) (h8 : ∀ x, x ∈ bs → x < 256) :
    Calls Try.prog 71 #[.pointer (some ⟨g, 0, none⟩)] w (Nxt w g A c p bs Ak ck last base) := by
  have H := Lib.hid h
  have H8 := Lib.hid h8
  have HM := Lib.hid hm
  have hml := Nat.le_trans hc hm
  have HML := Lib.hid hml
  have hgl := h.box.lt
  clear h h8
  obtain ⟨W0, hW0⟩ : ∃ W0, W0 = (w.alloc (.cells #[.slice none 0 0, .int .u64 0, .int .i64 0, .slice none 0 0] 48)).alloc (.cells #[.int .u64 0, .int .u64 0, .int .u64 0] 114) := ⟨_, rfl⟩
  have hb0 : Below w.heap.size w W0 := by rw [hW0]; exact Joins.below_alloc2 _ _ _
  have hr0 : Lift.Box W0 w.heap.size 48 [.slice none 0 0, .int .u64 0, .int .i64 0, .slice none 0 0] := by rw [hW0]; exact (Lift.Box.new w _ [.slice none 0 0, .int .u64 0, .int .i64 0, .slice none 0 0]).alloc _
  have hz0 : W0.heap.size = w.heap.size + 1 + 1 := by rw [hW0]; simp
  have ha0 : Lift.Box W0 (w.heap.size + 1) 114 (lcells 0 0 0) := by
    rw [hW0]
    have := Lift.Box.new (w.alloc (.cells #[.slice none 0 0, .int .u64 0, .int .i64 0, .slice none 0 0] 48)) 114 (lcells 0 0 0)
    rwa [show (w.alloc (.cells #[.slice none 0 0, .int .u64 0, .int .i64 0, .slice none 0 0] 48)).heap.size = w.heap.size + 1 by simp] at this
  have HB0 := Lib.hid hb0
  have HR0 := Lib.hid hr0
  have HA0 := Lib.hid ha0
  have HZ0 := Lib.hid hz0
  have HX0 := Lib.hid (H.out.box.below hb0 hgl)
  go_enter Try.func71, Try.ntmps71
  go_upto_region 2 with fail
  rw [← hW0]
  clear hb0 hr0 ha0 hz0 hW0
  go_wp2_with fail
  go_loopw [15] (fun i wr => ∃ (j q a b v : Nat), j ≤ 3 ∧ i = .int .i64 (j : Int) ∧ Hid (Got bs p q a b v j) ∧ Hid (Keep (fun k => k = g ∨ k = w.heap.size + 1) W0 wr) ∧ Hid (Lift.Box wr (w.heap.size + 1) 114 (lcells a b v)) ∧ Hid (Lift.Box wr g 106 (rcells A bs.length c q (.slice Ak last.length ck)))) (fun i _ => 10 - (intOf i).toNat)
  case atStart => exact ⟨0, p, 0, 0, 0, by omega, rfl, Lib.hid rfl, Lib.hid (Keep.refl _ _), HA0, HX0⟩
  case round =>
    obtain ⟨j, q, a, b, v, hj, rfl, hgot, hkeep, hbox, hrd⟩ := hrel
    obtain ⟨hpq, hq⟩ := got_place hgot.out hj (Nat.le_of_lt hp)
    have hg1 : ¬ g = w.heap.size + 1 := by omega
    have hlog : Lies wr base A (bs.map vb) := (H.out.log.below (HB0.out.mono (by have := H.out.bg; omega))).later fun a ha => World.cell?_of_block (hkeep.out.block _ (by have := H.out.bg; have := HZ0.out; omega) (by have := H.out.bg; omega))
    obtain ⟨x0, x1, x2, f0, f1, f2⟩ := hrd.out.facts3
    obtain ⟨l0, l1, l2, m0, m1, m2⟩ := hbox.out.facts3
    by_cases hlt : j < 3
    · obtain ⟨⟨n, q', er⟩, hres⟩ : ∃ r, r = res bs (q : Nat) := ⟨_, rfl⟩
      have HG : Hid (∀ m, Calls Try.prog 78 #[.slice A bs.length c, .int .i64 (q : Int)] (wr.drewN m) fun e w' => e = .returned (.tuple #[.int .u64 (n : Int), .int .i64 (q' : Int), .int .i64 (er : Int)]) ∧ wr.drewN m = w') := Lib.hid fun m => by
        have h := Vt.get_calls A c base bs (q : Int) (wr.drewN m) (hlog.below (Joins.below_draws base wr m)) hc HML.out H8.out
        rw [← hres] at h
        exact h
      have HRES := Lib.hid hres.symm
      have hn64 : er = 0 → n < 18446744073709551616 := fun h => (res_ok (by rw [HRES.out, h])).1
      have HN64 := Lib.hid hn64
      clear hres hlog hn64
      go_wp2_with fail
      go_quiet (first | (go_at_call 78; refine Calls.quiet_of_same ((HG.out _).mono fun e w' hh => ⟨hh.1, hh.2.symm⟩)))
      have hbd := Joins.below_draws wr.heap.size wr nq
      have hkeep2 := Lib.hid (hkeep.out.trans (below_keep (S := fun _ => False) hbd) fun i _ h => h.elim)
      have hbox2 := Lib.hid (hbox.out.below hbd hbox.out.lt)
      have hrd2 := Lib.hid (hrd.out.below hbd hrd.out.lt)
      clear hbd HG hkeep hbox hrd x0 x1 x2 f0 f1 f2 l0 l1 l2 m0 m1 m2
      generalize wr.drewN nq = W2 at *
      obtain ⟨x0, x1, x2, f0, f1, f2⟩ := hrd2.out.facts3
      obtain ⟨l0, l1, l2, m0, m1, m2⟩ := hbox2.out.facts3
      by_cases he : er = 0
      · subst he
        have HGN := Lib.hid (got_next hgot.out hlt HRES.out)
        have hn := HN64.out rfl
        have hcell : ∃ u, W2.cell? ⟨w.heap.size + 1, j, none⟩ = some u := ⟨_, (hbox2.out.cell j).trans (List.getElem?_eq_getElem (by simpa using hlt))⟩
        obtain ⟨u, hcell⟩ := hcell
        have hfree := hbox2.out.free j
        have hb3 := hbox2.out.set j (.int .u64 (n : Int))
        rw [lcells_set a b v j n hlt] at hb3
        have hr3 : Lift.Box (W2.setCell ⟨w.heap.size + 1, j, none⟩ (.int .u64 (n : Int))) g 106 (rcells A bs.length c q (.slice Ak last.length ck)) := hrd2.out.setOther (p := ⟨w.heap.size + 1, j, none⟩) hg1 _
        have hk3 : Keep (fun k => k = g ∨ k = w.heap.size + 1) W0 (W2.setCell ⟨w.heap.size + 1, j, none⟩ (.int .u64 (n : Int))) := Keep.setCell hkeep2.out (.inr (.inr rfl)) _
        have hb4 : Lift.Box ((W2.setCell ⟨w.heap.size + 1, j, none⟩ (.int .u64 (n : Int))).setCell ⟨g, 1, none⟩ (.int .i64 (q' : Int))) (w.heap.size + 1) 114 (lcells (upd j n 0 a) (upd j n 1 b) (upd j n 2 v)) := hb3.setOther (p := ⟨g, 1, none⟩) (Ne.symm hg1) _
        have hr4 := hr3.set 1 (.int .i64 (q' : Int))
        have hk4 : Keep (fun k => k = g ∨ k = w.heap.size + 1) W0 ((W2.setCell ⟨w.heap.size + 1, j, none⟩ (.int .u64 (n : Int))).setCell ⟨g, 1, none⟩ (.int .i64 (q' : Int))) := Keep.setCell hk3 (.inr (.inl rfl)) _
        obtain ⟨y0, y1, y2, g0, g1, g2⟩ := hr3.facts3
        have HB4 := Lib.hid hb4
        have HR4 := Lib.hid hr4
        have HK4 := Lib.hid hk4
        clear hb3 hr3 hk3 hb4 hr4 hk4
        go_wp2_with fail
        go_roundw
        case rel => exact ⟨j + 1, q', _, _, _, by omega, by go_num, HGN, HK4, HB4, HR4⟩
        case measure => simp [intOf]; omega
      · have HST := Lib.hid (got_err (last := last) hgot.out hlt (by rw [HRES.out]; exact he))
        have hef : ((er : Int) != 0) = true := by rw [bne_iff_ne]; omega
        have hef2 : ((er : Int) == 0) = false := by rw [beq_eq_false_iff_ne]; omega
        have hrb := HR0.out.keep hkeep2.out (by omega)
        have hgb : ¬ w.heap.size = g := by omega
        clear he
        have HRB := Lib.hid hrb
        have HKE : Hid (Keep (RS g Ak last.length ck) w W2) := Lib.hid ((below_keep (S := RS g Ak last.length ck) HB0.out).trans hkeep2.out fun i hi hh => .inl (by rcases hh with h | h; exact h; omega))
        clear hrb
        go_wp2_with (refine wpList_store_row rfl _ _ _ rfl w.heap.size zrow rfl rfl _ zrow HRB.out (by kernel_rfl) (by kernel_rfl) (by kernel_rfl) ?_)
        refine bodyPost_ret (results_box (us := zrow.toList) rfl Try.underlying48 (by kernel_rfl) _ rfl (setRow_heap _ _ _ _ _ _ HRB.out)) rfl ?_
        exact ⟨keep_setRow HKE.out (.inl (Nat.le_refl _)) _, .inl ⟨HST.out, rfl⟩⟩
    · obtain rfl : j = 3 := by omega
      obtain ⟨q1, q2, R1, R2, R3⟩ := id hgot.out
      obtain ⟨ha64, hb64, hv64, hpq3⟩ := got_lt hgot.out
      have HR1 := Lib.hid R1
      have HR2 := Lib.hid R2
      have HR3 := Lib.hid R3
      have HKE : Hid (Keep (RS g Ak last.length ck) w wr) := Lib.hid ((below_keep (S := RS g Ak last.length ck) HB0.out).trans hkeep.out fun i hi hh => .inl (by rcases hh with h | h; exact h; omega))
      have HRB := Lib.hid (HR0.out.keep hkeep.out (by have := HZ0.out; omega))
      clear R1 R2 R3
      by_cases hla : last.length < a
      · have HST := Lib.hid (step_a (bs := bs) (p := p) (last := last) (.inr (by rw [HR1.out]; exact hla)))
        have d1 : decide (last.length < a) = true := decide_eq_true hla
        have d2 : (last.length : Int) < (a : Int) := by omega
        clear hlog
        go_wp2_with (refine wpList_store_row rfl _ _ _ rfl w.heap.size zrow rfl rfl _ zrow HRB.out (by kernel_rfl) (by kernel_rfl) (by kernel_rfl) ?_)
        refine bodyPost_ret (results_box (us := zrow.toList) rfl Try.underlying48 (by kernel_rfl) _ rfl (setRow_heap _ _ _ _ _ _ HRB.out)) rfl ?_
        exact ⟨keep_setRow HKE.out (.inl (Nat.le_refl _)) _, .inl ⟨HST.out, rfl⟩⟩
      · have d1 : decide (last.length < a) = false := decide_eq_false hla
        have d2 : decide ((last.length : Int) < (a : Int)) = false := decide_eq_false (by omega)
        have HLOG := Lib.hid hlog
        have HT1 := Lib.hid (otake_any g c q b A (.slice Ak last.length ck) bs wr hrd.out hq hc HM.out (by omega) hb64)
        clear hlog
        go_wp2_with fail
        refine HT1.out.mono ?_
        rintro e W2 (⟨hlt, rfl, m, rfl⟩ | ⟨hle, A1, hA1, hS1, rfl, hk1, hx1⟩)
        · have HST := Lib.hid (step_c (last := last) HR1.out hla HR2.out (.inr (.inl (by rw [HR3.out]; exact hlt))))
          have hbd := Joins.below_draws wr.heap.size wr m
          have HRB2 := HRB
          have HKE2 := HKE
          have HRB := Lib.hid (HRB2.out.below hbd HRB2.out.lt)
          have HKE := Lib.hid (HKE2.out.trans (below_keep (S := fun _ => False) hbd) fun i _ h => h.elim)
          clear hbd HRB2 HKE2 hlt x0 x1 x2 f0 f1 f2 l0 l1 l2 m0 m1 m2 HT1
          generalize wr.drewN m = W2 at *
          go_wp2_with (refine wpList_store_row rfl _ _ _ rfl w.heap.size zrow rfl rfl _ zrow HRB.out (by kernel_rfl) (by kernel_rfl) (by kernel_rfl) ?_)
          refine bodyPost_ret (results_box (us := zrow.toList) rfl Try.underlying48 (by kernel_rfl) _ rfl (setRow_heap _ _ _ _ _ _ HRB.out)) rfl ?_
          exact ⟨keep_setRow HKE.out (.inl (Nat.le_refl _)) _, .inl ⟨HST.out, rfl⟩⟩
        · have hbox2 := hbox.out.keep hk1 (by omega)
          have hle' : b ≤ bs.length - q := hle
          have HX1 := Lib.hid hx1
          have HK1 := Lib.hid hk1
          have HBX2 := Lib.hid hbox2
          have HRB2 := Lib.hid (HRB.out.keep hk1 (by omega))
          have HKE2 := Lib.hid (HKE.out.trans hk1 fun i hi hh => .inl hh)
          have HA1 := Lib.hid hA1
          have HS1 := Lib.hid hS1
          obtain ⟨l0, l1, l2, m0, m1, m2⟩ := hbox2.facts3
          have HT2 := Lib.hid (otake_any g c (q + b) v A (.slice Ak last.length ck) bs W2 hx1 (by omega) hc HM.out (by omega) hv64)
          clear HT1 x0 x1 x2 f0 f1 f2 hbox2 hx1 hk1 HRB HKE hA1 hS1
          go_wp2_with fail
          refine HT2.out.mono ?_
          rintro e W3 (⟨hlt, rfl, m, rfl⟩ | ⟨hle2, A2, hA2, hS2, rfl, hk2, hx2⟩)
          · have HST := Lib.hid (step_c (last := last) HR1.out hla HR2.out (.inr (.inr (by rw [HR3.out]; show bs.length - q - b < v; omega))))
            have hbd := Joins.below_draws W2.heap.size W2 m
            have HRB := Lib.hid (HRB2.out.below hbd HRB2.out.lt)
            have HKE := Lib.hid (HKE2.out.trans (below_keep (S := fun _ => False) hbd) fun i _ h => h.elim)
            clear hbd HRB2 HKE2 hlt l0 l1 l2 m0 m1 m2 HT2 HX1 HK1 HBX2
            generalize W2.drewN m = W3 at *
            go_wp2_with (refine wpList_store_row rfl _ _ _ rfl w.heap.size zrow rfl rfl _ zrow HRB.out (by kernel_rfl) (by kernel_rfl) (by kernel_rfl) ?_)
            refine bodyPost_ret (results_box (us := zrow.toList) rfl Try.underlying48 (by kernel_rfl) _ rfl (setRow_heap _ _ _ _ _ _ HRB.out)) rfl ?_
            exact ⟨keep_setRow HKE.out (.inl (Nat.le_refl _)) _, .inl ⟨HST.out, rfl⟩⟩
          · have HST := Lib.hid (step_d (last := last) HR1.out hla HR2.out HR3.out (show ¬ bs.length - q < b by omega) (show ¬ bs.length - q - b < v by omega))
            have HRB3 := Lib.hid (HRB2.out.keep hk2 (by omega))
            have HKE3 := Lib.hid (HKE2.out.trans hk2 fun i hi hh => .inl hh)
            obtain ⟨x0, x1, x2, f0, f1, f2⟩ := hx2.facts3
            have HX2 := Lib.hid hx2
            have hw3 : Keep (fun k => k = g ∨ k = w.heap.size + 1) W0 W3 := (hkeep.out.trans HK1.out fun i _ hh => .inl hh).trans hk2 fun i _ hh => .inl hh
            have hgo : ¬ (Value.slice Ak last.length ck).ownBlock = some g := own_apart H.out.own H.out.box (by decide)
            have hown3 := own_kept (own_later H.out.own HB0.out) hw3 (fun k hk hh => by
              have := (H.out.own.lt k hk).2
              rcases hh with h | h
              · subst h; exact hgo hk
              · omega)
            have hlog3 : Lies W3 base A (bs.map vb) := (HLOG.out.later fun a ha => World.cell?_of_block (HK1.out.block _ (by have := H.out.bg; have := hrd.out.lt; omega) (by have := H.out.bg; omega))).later fun a ha => World.cell?_of_block (hk2.block _ (by have := H.out.bg; have := HX1.out.lt; omega) (by have := H.out.bg; omega))
            have hbase3 : base ≤ W3.heap.size := by have := H.out.bg; have := hx2.lt; omega
            obtain ⟨rst, hrst⟩ : ∃ rst, rst = (bs.drop q).take b := ⟨_, rfl⟩
            have hrl : rst.length = b := by rw [hrst, List.length_take, List.length_drop]; omega
            have hrlies : Lies W3 base A1 (rst.map vb) := by
              refine Lies.cut hlog3 (fun h => HA1.out (by omega)) ?_
              rw [hrst]
              exact List.take_prefix _ _
            have hcut1 := cut_to64 Ak last.length ck a (by have := (own_parts H.out.own); obtain ⟨_, _, e, q1, q2, _⟩ := this; injection e with _ _ e; omega) (by have := (own_parts H.out.own); obtain ⟨_, _, e, q1, q2, _⟩ := this; injection e with _ _ e; omega) (by have := (own_parts H.out.own); obtain ⟨_, _, e, q1, q2, _⟩ := this; injection e with _ _ e; omega)
            have hof := own_front hown3 (show a ≤ last.length by omega)
            have htl : (last.take a).length = a := by rw [List.length_take]; omega
            obtain ⟨v9, W4, hr9, ho9, on9⟩ := append_bytes (c := c - q) hof hrlies (by rw [htl, hrl]; omega) hbase3
            rw [hrl] at hr9
            obtain ⟨kb, hkb⟩ : ∃ kb, kb = last.take a ++ rst := ⟨_, rfl⟩
            rw [← hkb] at ho9
            have hkl : kb.length = a + b := by rw [hkb, List.length_append, htl, hrl]
            obtain ⟨A9, c9, rfl, hc9, hm9, -⟩ := own_parts ho9
            have hob : ∀ k, (Value.slice Ak a ck).ownBlock = some k → (Value.slice Ak last.length ck).ownBlock = some k := fun k hk => by
              cases Ak with
              | none => simp [Value.ownBlock] at hk
              | some ad => simpa [Value.ownBlock] using hk
            have hx4 : Lift.Box W4 g 106 (rcells A bs.length c (q + b + v) (.slice Ak last.length ck)) := hx2.keep on9.keep (fun h => hgo (hob _ h))
            obtain ⟨y0, y1, y2, g0, g1, g2⟩ := hx4.facts3
            have hx5 : Lift.Box (W4.setCell ⟨g, 2, none⟩ (.slice A9 kb.length c9)) g 106 (rcells A bs.length c (q + b + v) (.slice A9 kb.length c9)) := hx4.set 2 (.slice A9 kb.length c9)
            have hk45 : Keep (· = g) W4 (W4.setCell ⟨g, 2, none⟩ (.slice A9 kb.length c9)) := Keep.setCell (S := (· = g)) (p := ⟨g, 2, none⟩) (Keep.refl _ _) (.inr rfl) _
            have ho5 : (W4.setCell ⟨g, 2, none⟩ (.slice A9 kb.length c9)).ownsRow base 5 1 (.slice A9 kb.length c9) kb.length (kb.map vb) := own_kept ho9 hk45 (fun k hk hh => own_apart ho9 hx4 (by decide) (by rw [← hh]; exact hk))
            have HKE5 : Hid (Keep (RS g Ak last.length ck) w (W4.setCell ⟨g, 2, none⟩ (.slice A9 kb.length c9))) := Lib.hid ((HKE3.out.trans on9.keep fun i _ hh => .inr (hob _ hh)).trans hk45 fun i _ hh => .inl hh)
            have hrn : ¬ w.heap.size = g := by omega
            have hrb4 := HRB3.out.keep on9.keep (fun h => own_apart hown3 HRB3.out (by decide) (hob _ h))
            have HRB5 : Hid (Lift.Box (W4.setCell ⟨g, 2, none⟩ (.slice A9 kb.length c9)) w.heap.size 48 [.slice none 0 0, .int .u64 0, .int .i64 0, .slice none 0 0]) := Lib.hid (hrb4.setOther (p := ⟨g, 2, none⟩) hrn _)
            have HLOG5 : Hid (Lies (W4.setCell ⟨g, 2, none⟩ (.slice A9 kb.length c9)) base A (bs.map vb)) := Lib.hid ((hlog3.below (on9.below hof hbase3)).later fun a ha => World.cell?_of_block (hk45.block _ (by have := H.out.bg; have := hx4.lt; omega) (by have := H.out.bg; omega)))
            have hk8 : ∀ x, x ∈ kb → x < 256 := fun x hx => by
              rw [hkb, hrst] at hx
              rcases List.mem_append.1 hx with h | h
              · exact H.out.l8 x (List.mem_of_mem_take h)
              · exact H8.out x (List.mem_of_mem_drop (List.mem_of_mem_take h))
            have HPL : Hid (∀ k, (Value.slice A9 kb.length c9).ownBlock = some k → (Value.slice Ak last.length ck).ownBlock = some k ∨ w.heap.size ≤ k) := Lib.hid fun k hk => by
              rcases on9.place k hk with h | h
              · exact .inl (hob _ h)
              · exact .inr (Nat.le_trans HKE3.out.size h)
            have HST9 : Hid (step bs p last = if resE kb ≠ 0 then none else some (⟨resK kb, (bs.drop (q + b)).take v⟩, kb, q + b + v)) := Lib.hid (by rw [HST.out, hkb, hrst])
            have HR9 := Lib.hid hr9
            have HO5 := Lib.hid ho5
            have HX5 := Lib.hid hx5
            have HK8 := Lib.hid hk8
            have HA2 := Lib.hid hA2
            have HS2 := Lib.hid hS2
            have HQ := Lib.hid (show q + b + v ≤ bs.length ∧ p < q from ⟨by omega, hpq3⟩)
            have HC9 := Lib.hid (show kb.length ≤ c9 ∧ c9 ≤ maxLen ∧ kb.length = a + b from ⟨hc9, hm9, hkl⟩)
            have ha6 : a ≤ 100000000 := by omega
            have hgR : g < W4.heap.size := hx4.lt
            have HGR := Lib.hid hgR
            clear HT2 hx2 hk2 hw3 hgo hown3 hlog3 hbase3 hrst hrl hrlies hof htl hr9 ho9 on9 hkb hkl hc9 hm9 hob hx4 hx5 hk45 ho5 hrb4 hk8 hA2 hS2 HRB2 HKE2 HRB3 HKE3 HST hgR
            go_upto_region 20 with (at_builtin; refine wpList_append_run rfl _ _ 25 rfl rfl rfl HR9.out ?_)
            generalize W4.setCell ⟨g, 2, none⟩ (.slice A9 kb.length c9) = W5 at HKE5 HRB5 HLOG5 HO5 HX5 ⊢
            clear g0 g1 g2 y0 y1 y2 HR9 HGR x0 x1 x2 f0 f1 f2 l0 l1 l2 m0 m1 m2 HX1 HK1 HBX2 HX2
            obtain ⟨z0, z1, z2, -, -, -⟩ := HX5.out.facts3
            have HRK := Lib.hid (read_allF A9 c9 kb W5 (Lies.of_own HO5.out) HC9.out.1 HC9.out.2.1 HK8.out (by have := HC9.out.2.2; omega))
            go_wp2_with fail
            refine HRK.out.mono ?_
            rintro e W6 ⟨Ax, cx, rfl, hax, hbx, hlx⟩
            have HAX := Lib.hid hax
            have HBX := Lib.hid hbx
            have HLX := Lib.hid hlx
            clear hax hbx hlx HRK z0 z1 z2
            go_upto_region 21 with fail
            have HW6 : Hid (Below W5.heap.size W5 (W6.alloc (kbox Ax cx (resK kb)))) := Lib.hid (HBX.out.trans ((Joins.below_alloc1 _ _).mono HBX.out.size))
            have HSZ : Hid (Below W6.heap.size W6 (W6.alloc (kbox Ax cx (resK kb)))) := Lib.hid (Joins.below_alloc1 _ _)
            have HLD : Hid (∀ W : World, W.heap[W6.heap.size]? = (W6.alloc (kbox Ax cx (resK kb))).heap[W6.heap.size]? → W.cell? ⟨W6.heap.size, 0, none⟩ = some (.slice Ax (resK kb).key.length cx) ∧ W.cell? ⟨W6.heap.size, 1, none⟩ = some (.int .u64 ((resK kb).seq : Int)) ∧ W.cell? ⟨W6.heap.size, 2, none⟩ = some (.int .i64 (resK kb).kind)) := Lib.hid fun W hW => load_kbox W6 W hW
            have HTY : Hid (W6.heap.size < (W6.alloc (kbox Ax cx (resK kb))).heap.size) := Lib.hid (by simp)
            generalize W6.alloc (kbox Ax cx (resK kb)) = WB at HW6 HSZ HLD HTY ⊢
            have HKE := Lib.hid (HKE5.out.trans (below_keep (S := fun _ => False) HW6.out) fun i _ h => h.elim)
            have HRB := Lib.hid (HRB5.out.below HW6.out HRB5.out.lt)
            have HLOGB : Hid (Lies WB base A (bs.map vb)) := Lib.hid (HLOG5.out.below (HW6.out.mono (by have := H.out.bg; have := HX5.out.lt; omega)))
            have HOB := Lib.hid (own_later HO5.out HW6.out)
            have HXB := Lib.hid (HX5.out.below HW6.out HX5.out.lt)
            have h56 : W5.heap.size ≤ W6.heap.size := HBX.out.size
            have hw5 : w.heap.size < W5.heap.size := HRB5.out.lt
            clear HKE5 HRB5 HLOG5
            by_cases hre : resE kb = 0
            · have d5 : (((resE kb : Nat) : Int) != 0) = false := by rw [hre]; rfl
              have d6 : (((resE kb : Nat) : Int) == 0) = true := by rw [hre]; rfl
              have HSTEP : Hid (step bs p last = some (⟨resK kb, (bs.drop (q + b)).take v⟩, kb, q + b + v)) := Lib.hid (by rw [HST9.out, if_neg (by rw [hre]; simp)])
              clear hre HST9
              obtain ⟨ad, hAd⟩ : ∃ ad, A = some ad := by
                rcases HLOGB.out with h | ⟨ad, h, _⟩
                · rw [List.map_eq_nil_iff] at h
                  rw [h] at hp
                  simp at hp
                · exact ⟨ad, h⟩
              obtain ⟨ad2, hAd2⟩ : ∃ ad2, A2 = some ad2 := by
                have := HS2.out
                rw [hAd] at this
                cases A2 with
                | none => simp at this
                | some ad2 => exact ⟨ad2, rfl⟩
              subst hAd2
              obtain ⟨val, hval⟩ : ∃ val, val = (bs.drop (q + b)).take v := ⟨_, rfl⟩
              have hvl : val.length = v := by rw [hval, List.length_take, List.length_drop]; have := HQ.out; omega
              have hlv : Lies WB base (some ad2) (val.map vb) := by
                refine Lies.cut HLOGB.out (fun h => HA2.out (by omega)) ?_
                rw [hval]
                exact List.take_prefix _ _
              have hv8 : ∀ x, x ∈ val → x < 256 := fun x hx => by
                rw [hval] at hx
                exact H8.out x (List.mem_of_mem_drop (List.mem_of_mem_take hx))
              have HLV := Lib.hid hlv
              have HV8 := Lib.hid hv8
              have HVL := Lib.hid hvl
              rw [← hval] at HSTEP
              rw [← hvl]
              clear hval hvl hlv hv8 hAd HA2 HS2
              go_upto_region 23 with fail
              refine wp_region_held_drew (S := fun w' => Hid (Keep (fun k => k = w.heap.size) WB w')) (by kernel_rfl) (Lib.hid (Keep.refl _ _).drew) (fun hS => ?_)
              refine wpAnyH_take (i := 0) (v := ?_) rfl (by kernel_rfl) (by kernel_rfl) (by kernel_rfl) (fun _ _ _ h => h) (Or.inl ⟨by rfl, ?_⟩) hS ?_
              rotate_left
              · intro w hw
                obtain ⟨p0, p1, p2⟩ := HLD.out _ (hw.out.block _ HTY.out (by omega))
                go_simp
                try with_reducible rfl
              try simp only [Act.put, List.getElem_toArray, List.getElem_cons_succ, List.getElem_cons_zero, List.setIfInBounds_toArray, List.set_cons_zero, List.set_cons_succ]
              refine wpAnyH_take (i := 1) (v := ?_) rfl (by kernel_rfl) (by kernel_rfl) (by kernel_rfl) (fun _ _ _ h => h) (Or.inl ⟨by rfl, ?_⟩) hS ?_
              rotate_left
              · intro w hw
                go_simp
                try with_reducible rfl
              try simp only [Act.put, List.getElem_toArray, List.getElem_cons_succ, List.getElem_cons_zero, List.setIfInBounds_toArray, List.set_cons_zero, List.set_cons_succ]
              have HBV : Hid (Below WB.heap.size WB WB.drew) := Lib.hid (Below.refl _ _).drew
              generalize WB.drew = V at hS HBV ⊢
              have HCL := Lib.hid (clone_any ad2 (c - (q + b)) val V ((HLV.out.below (HBV.out.mono (by have := H.out.bg; have := HXB.out.lt; omega))).up (by have := H.out.bg; have := HXB.out.lt; have := HBV.out.size; omega)) (by have := HVL.out; omega))
              refine wpAnyH_ready (rs := [2]) (by kernel_rfl) (by simp) ?_
              refine (AllReadyH.cons rfl (fun K hK => ?_) AllReadyH.nil)
              go_simp
              refine HCL.out.mono ?_
              intro e W8 hmade
              obtain ⟨Av, cv, rfl, hcv1, hcv2, hlv, hbv⟩ := Made.parts hmade
              have hown : W8.ownsRow V.heap.size 5 1 (.slice Av val.length cv) val.length (val.map vb) := by
                obtain ⟨v', e', ho, _⟩ := hmade
                injection e' with e'
                rw [e']
                exact ho
              obtain ⟨d0, hd0⟩ : ∃ d0 : D, d0 = ⟨Ax, cx, resK kb, Av, cv, val⟩ := ⟨_, rfl⟩
              have hb8 : Below WB.heap.size WB W8 := HBV.out.trans (hbv.mono HBV.out.size)
              have HK8' : Hid (Keep (fun k => k = w.heap.size) WB W8) := Lib.hid (below_keep hb8)
              have hrb8 := HRB.out.below hb8 HRB.out.lt
              have HRB8 := Lib.hid hrb8
              have hres9 : Lift.Box (W8.setRow w.heap.size d0.cells.toArray) w.heap.size 48 d0.cells := setRow_heap _ _ _ _ _ _ hrb8
              have hk89 : Keep (fun k => k = w.heap.size) W8 (W8.setRow w.heap.size d0.cells.toArray) := keep_setRow (S := fun k => k = w.heap.size) (Keep.refl _ _) (.inr rfl) _
              have hk9 : Keep (fun k => k = w.heap.size) WB (W8.setRow w.heap.size d0.cells.toArray) := hk89 |> fun h => HK8'.out.trans h fun i _ hh => hh
              have HKE9 : Hid (Keep (RS g Ak last.length ck) w (W8.setRow w.heap.size d0.cells.toArray)) := Lib.hid ((HKE.out.trans (below_keep (S := fun _ => False) hb8) fun i _ h => h.elim).trans hk89 fun i hi hh => by omega)
              have hr9 : Lift.Box (W8.setRow w.heap.size d0.cells.toArray) g 106 (rcells A bs.length c (q + b + v) (.slice A9 kb.length c9)) := HXB.out.keep hk9 (by omega)
              have ho9 := own_kept HOB.out hk9 (fun k hk hh => own_apart HOB.out HRB.out (by decide) (by rw [← hh]; exact hk))
              have hl9 : Lies (W8.setRow w.heap.size d0.cells.toArray) base A (bs.map vb) := HLOGB.out.later fun a ha => World.cell?_of_block (hk9.block _ (by have := H.out.bg; have := HXB.out.lt; omega) (by have := H.out.bg; omega))
              have hok9 : d0.Ok (W8.setRow w.heap.size d0.cells.toArray) (FK w.heap.size (W8.setRow w.heap.size d0.cells.toArray) (.slice A9 kb.length c9)) := by
                have h68 : Below W6.heap.size W6 W8 := HSZ.out.trans (hb8.mono HSZ.out.size)
                have hlt9 : ∀ k, (Value.slice A9 kb.length c9).ownBlock = some k → k < W5.heap.size := fun k hk => (HO5.out.lt k hk).2
                rw [hd0]
                refine ⟨HLX.out.later (fun k hk => ?_) (fun k hk => ?_), HAX.out.2.1, HAX.out.2.2.1, HAX.out.2.2.2, (LiesP.of_own hown).later (fun k hk => ?_) (fun k hk => ?_), hcv1, hcv2, HV8.out⟩
                · have := hk.1
                  exact (setRow_other W8 w.heap.size k _ (by omega)).trans (h68.block k hk.2.1)
                · obtain ⟨k1, k2, cs, fr, k3⟩ := hk
                  exact ⟨⟨by omega, by rw [size_setRow]; exact Nat.lt_of_lt_of_le k2 h68.size, cs, fr, (setRow_other W8 w.heap.size k _ (by omega)).trans ((h68.block k k2).trans k3)⟩, fun h => by have := hlt9 k h; omega⟩
                · have := hk.1
                  have := HBV.out.size
                  have := HTY.out
                  exact setRow_other W8 w.heap.size k _ (by omega)
                · obtain ⟨k1, k2, cs, fr, k3⟩ := hk
                  have := HBV.out.size
                  have := HTY.out
                  exact ⟨⟨by omega, by rw [size_setRow]; exact k2, cs, fr, (setRow_other W8 w.heap.size k _ (by omega)).trans k3⟩, fun h => by have := hlt9 k h; omega⟩
              have HRES9 := Lib.hid hres9
              have HOK9 := Lib.hid hok9
              have HD0 := Lib.hid hd0
              have HRD9 : Hid (Rdr (W8.setRow w.heap.size d0.cells.toArray) g A c (q + b + v) bs A9 c9 kb base) := Lib.hid ⟨hr9, hl9, H.out.bg, ho9, HQ.out.1, HK8.out⟩
              have HK9 := Lib.hid hk9
              have HCE : Hid (d0.cells.toArray = #[.slice Ax (resK kb).key.length cx, .int .u64 ((resK kb).seq : Int), .int .i64 (resK kb).kind, .slice Av val.length cv]) := Lib.hid (by rw [hd0]; rfl)
              clear hmade hcv1 hcv2 hlv hbv hown hd0 hb8 hrb8 hres9 hk89 hk9 hr9 ho9 hl9 hok9
              go_wp2_with fail
              refine hK.out _ _ HK8' (fun hS => ?_)
              clear hK K
              try simp only [Act.put, List.getElem_toArray, List.getElem_cons_succ, List.getElem_cons_zero, List.setIfInBounds_toArray, List.set_cons_zero, List.set_cons_succ]
              refine wpAnyH_take (i := 3) (v := ?_) rfl (by kernel_rfl) (by kernel_rfl) (by kernel_rfl) (fun _ _ _ h => h) (Or.inl ⟨by rfl, ?_⟩) hS ?_
              rotate_left
              · intro w hw
                go_simp
                try with_reducible rfl
              try simp only [Act.put, List.getElem_toArray, List.getElem_cons_succ, List.getElem_cons_zero, List.setIfInBounds_toArray, List.set_cons_zero, List.set_cons_succ]
              refine wpAnyH_ready (rs := [4]) (by kernel_rfl) (by simp) ?_
              refine (AllReadyH.cons rfl (fun K hK => ?_) AllReadyH.nil)
              refine hold_store rfl _ _ _ rfl w.heap.size d0.cells.toArray rfl (by rw [HCE.out]; rfl) _ zrow HRB8.out (by kernel_rfl) rfl (by kernel_rfl) ?_
              refine hK.out _ _ HK9 (fun hS => ?_)
              clear hK K
              try simp only [Act.put, List.getElem_toArray, List.getElem_cons_succ, List.getElem_cons_zero, List.setIfInBounds_toArray, List.set_cons_zero, List.set_cons_succ]
              refine wpAnyH_take (i := 5) (v := ?_) rfl (by kernel_rfl) (by kernel_rfl) (by kernel_rfl) (fun _ _ _ h => h) (Or.inl ⟨by rfl, ?_⟩) hS ?_
              rotate_left
              · intro w hw
                go_simp
                try with_reducible rfl
              try simp only [Act.put, List.getElem_toArray, List.getElem_cons_succ, List.getElem_cons_zero, List.setIfInBounds_toArray, List.set_cons_zero, List.set_cons_succ]
              refine wpAnyH_done (by kernel_rfl) ?_ _
              go_wp2_with fail
              refine bodyPost_ret (results_box (us := d0.cells) rfl Try.underlying48 (by kernel_rfl) _ rfl HRES9.out) rfl ?_
              exact ⟨HKE9.out, .inr ⟨d0, kb, q + b + v, A9, c9, by rw [HSTEP.out, HD0.out]; rfl, rfl, HOK9.out, HRD9.out, by have := HQ.out; omega, HPL.out⟩⟩
            · have d5 : (((resE kb : Nat) : Int) != 0) = true := by rw [bne_iff_ne]; omega
              have d6 : (((resE kb : Nat) : Int) == 0) = false := by rw [beq_eq_false_iff_ne]; omega
              have HST : Hid (step bs p last = none) := Lib.hid (by rw [HST9.out, if_pos hre])
              clear hre
              go_wp2_with (refine wpList_store_row rfl _ _ _ rfl w.heap.size zrow rfl rfl _ zrow HRB.out (by kernel_rfl) (by kernel_rfl) (by kernel_rfl) ?_)
              refine bodyPost_ret (results_box (us := zrow.toList) rfl Try.underlying48 (by kernel_rfl) _ rfl (setRow_heap _ _ _ _ _ _ HRB.out)) rfl ?_
              exact ⟨keep_setRow HKE.out (.inl (Nat.le_refl _)) _, .inl ⟨HST.out, rfl⟩⟩
end Go.Proofs.Ytaopbgildkjpcaa.Bk
