/- What the functions of package budget answer on charges, and what butteryref1.Of does. -/
import Derived.Test.YtafcepjkjcnmfaaBud
import Derived.Test.YtafcepjkjcnmfaaMade
namespace Go.Proofs.Ytafcepjkjcnmfaa.Bg
set_option linter.unusedVariables false
set_option linter.unusedSimpArgs false
open Go.RowKit Go.Maps Lift Fl
section
variable {B g n : Nat} {w w' : World} {l u : Int × Int} {f : Int → Int × Int}
theorem Bud.more (h : Bud B w g l u f n) (hn : n + 1 ≤ 1000) : Bud B w g l u f (n + 1) := by
  obtain ⟨⟨m, D, h1, h2, h3, h5, h6⟩, h7, h8⟩ := h
  exact ⟨⟨m, D, h1, h2, h3.mono (Nat.le_succ n), h5, h6⟩, h7, hn⟩
def PP (x : Int × Int) : Prop := Part x.1 ∧ Part x.2
theorem run_store_cx (W : World) (p : Addr) (x y : Nat) (m : Mode) : Sem.run Try.prog (store p (.complex .f64 x y) m) W = stored Try.prog W p (.complex .f64 x y) m := run_store Try.prog W p _ m rfl
theorem most_up {n : Int} (h : Part n) : most (up n) = n := by unfold most up; unfold Part at h; omega
theorem new_any (a b : Int) (ha : Part a) (hb : Part b) (w : World) :
    Calls Try.prog 6 #[cx a b] w fun e w' => e = .returned (pt (w.heap.size + 2)) ∧ Bud w.heap.size w' (w.heap.size + 2) (a, b) (0, 0) (fun _ => (0, 0)) 0 ∧ Below w.heap.size w w' := by
  have hsum := Lib.hid (Ch.sum_any (fun _ => a) (fun _ => b) 1 w.heap.size 0 1 (w.alloc (.cells #[cx a b] 23)) (by omega) (fun _ _ => ha) (fun _ _ => hb) (fun j hj => by
    obtain rfl : j = 0 := by omega
    exact (Lift.Box.new w 23 [cx a b]).cell 0))
  rw [show Ch.tot (fun _ => a) 1 = a from (congrArg (fun z => most (up z)) (Int.zero_add a)).trans (most_up ha), show Ch.tot (fun _ => b) 1 = b from (congrArg (fun z => most (up z)) (Int.zero_add b)).trans (most_up hb)] at hsum
  go_enter Try.func6, Try.ntmps6
  go_wp2_with fail
  refine hsum.out.mono ?_
  rintro e w' ⟨rfl, rfl⟩
  have hmm := @run_makeMap Try.prog
  go_wp2_with fail
  clear hmm hsum
  go_ret
  refine ⟨rfl, ⟨⟨w.heap.size + 1, .map [], ?_, by omega, ?_, tidy_empty.isMap, fun k hk => rfl⟩, by omega, by omega⟩, Joins.below_alloc3 _ _ _ _⟩
  · have hb := Lift.Box.new ((w.alloc (.cells #[cx a b] 23)).alloc (.map #[] 0)) 38 [cx a b, cx 0 0, .map (some (w.heap.size + 1))]
    have e : ((w.alloc (.cells #[cx a b] 23)).alloc (.map #[] 0)).heap.size = w.heap.size + 2 := by simp
    rw [e] at hb
    exact hb
  · exact ownsMap_at (X := w.alloc (.cells #[cx a b] 23)) (by simp) _
theorem used_any (h : Bud B w g l u f n) : Calls Try.prog (8) #[pt g] w fun e w' => e = .returned (cx u.1 u.2) ∧ w = w' := by
  obtain ⟨m, c0, c1, c2, z1, hlook, hput, hdel⟩ := h.look
  have hx : u.1 = u.1 := rfl
  clear hlook hput hdel h
  go_enter (Try.func8), (Try.ntmps8)
  go_wp2_with fail
  go_ret
  exact ⟨rfl, rfl⟩
theorem of_any (h : Bud B w g l u f n) (k : Int) (hk : wf64 k) : Calls Try.prog (11) #[pt g, vi k] w fun e w' => e = .returned (cx (f k).1 (f k).2) ∧ w = w' := by
  obtain ⟨m, c0, c1, c2, z1, hlook, hput, hdel⟩ := h.look
  have hl := hlook k hk
  generalize f k = x at *
  clear hlook hput hdel h
  go_enter (Try.func11), (Try.ntmps11)
  go_wp2_with fail
  go_ret
  exact ⟨rfl, rfl⟩
theorem left_any (h : Bud B w g l u f n) (hl : PP l) (hu : PP u) : Calls Try.prog (9) #[pt g] w fun e w' => e = .returned (cx (most (up (l.1 - u.1))) (most (up (l.2 - u.2)))) ∧ Below w.heap.size w w' := by
  obtain ⟨m, c0, c1, c2, z1, hlook, hput, hdel⟩ := h.look
  have HL : ∀ W, Calls Try.prog 17 #[cx l.1 l.2, cx u.1 u.2] W fun e w' => e = .returned (cx (most (up (l.1 - u.1))) (most (up (l.2 - u.2)))) ∧ W = w' := fun W => Ch.less_any l.1 l.2 u.1 u.2 W hl.1 hl.2 hu.1 hu.2
  have HH := Lib.hid HL
  generalize most (up (l.1 - u.1)) = x at *
  generalize most (up (l.2 - u.2)) = y at *
  clear hlook hput hdel h HL hl hu
  go_enter (Try.func9), (Try.ntmps9)
  go_wp2_with fail
  go_quiet (first | (go_at_call 17; refine Calls.quiet_of_same ((HH.out _).mono fun e w' hh => ⟨hh.1, hh.2.symm⟩)))
  have hd := (Joins.below_draws _ _ nq : Below w.heap.size w (w.drewN nq))
  go_wp2_with fail
  go_ret
  exact ⟨rfl, hd⟩
/-- The charge of an owner is set. -/
theorem set_any (h : Bud B w g l u f n) (k : Int) (hk : wf64 k) (x : Int × Int) (hx : PP x) (hn : n < 1000) :
    Calls Try.prog (16) #[pt g, vi k, cx x.1 x.2] w fun e w' => e = .returned (.tuple #[]) ∧ Bud B w' g l u (upd f k x) (n + 1) ∧ Below B w w' := by
  obtain ⟨m, c0, c1, c2, z1, hlook, hput, hdel⟩ := h.look
  by_cases h0 : x.1 = 0 ∧ x.2 = 0
  · obtain ⟨x1, x2⟩ := x
    obtain ⟨h1, h2⟩ := h0
    simp only at h1 h2
    subst h1; subst h2
    have hdl := Lib.hid fun ty => hdel k ty hk
    obtain ⟨w2, hr, hb, hbl⟩ := hdel k 0 hk
    have o1 : FloatKind.f64.format.order (F 0) 0 = some .eq := by decide +kernel
    have HB := Lib.hid hb
    have HL := Lib.hid hbl
    clear hlook hput hdel h hx hb hbl hdl
    go_enter (Try.func16), (Try.ntmps16)
    go_wp2_with fail
    go_returns
    exact ⟨rfl, HB.out.more (by omega), HL.out⟩
  · obtain ⟨w2, hr, hb, hbl⟩ := hput k x hk hn
    have HB := Lib.hid hb
    have HL := Lib.hid hbl
    have oz : ∀ a : Int, Part a → a ≠ 0 → FloatKind.f64.format.order (F a) 0 = some .gt := fun a ha h => Ch.order_gt a 0 ha ⟨by decide, by decide⟩ (by unfold Part at ha; omega)
    have o0 : FloatKind.f64.format.order (F 0) 0 = some .eq := by decide +kernel
    have hor : (FloatKind.f64.format.order (F x.1) 0 = some .gt) ∨ (FloatKind.f64.format.order (F x.1) 0 = some .eq ∧ FloatKind.f64.format.order (F x.2) 0 = some .gt) := by
      by_cases h1 : x.1 = 0
      · right
        rw [h1]
        exact ⟨o0, oz _ hx.2 fun h2 => h0 ⟨h1, h2⟩⟩
      · left; exact oz _ hx.1 h1
    clear hlook hput hdel h hx hb hbl oz o0 h0
    rcases hor with o1 | ⟨o1, o2⟩
    all_goals
      go_enter (Try.func16), (Try.ntmps16)
      go_wp2_with fail
      go_end0
      exact ⟨rfl, HB.out, HL.out⟩
/-- What is left. -/
def lft (l u : Int × Int) : Int × Int := (l.1 - u.1, l.2 - u.2)
/-- Two charges added. -/
def plus (x y : Int × Int) : Int × Int := (x.1 + y.1, x.2 + y.2)
theorem below_sub {a c : Int} (ha : Part a) (hc : Part c) (h : c ≤ a) : most (up (a - c)) = a - c := most_up (by unfold Part at *; omega)
theorem take_no (h : Bud B w g l u f n) (hl : PP l) (hu : PP u) (h1 : u.1 ≤ l.1) (h2 : u.2 ≤ l.2) (k : Int) (x : Int × Int) (hx : PP x) (hno : l.1 - u.1 < x.1 ∨ l.2 - u.2 < x.2) :
    Calls Try.prog (7) #[pt g, vi k, cx x.1 x.2] w fun e w' => e = .returned (.bool false) ∧ Below w.heap.size w w' := by
  have hL := left_any h hl hu
  rw [below_sub hl.1 hu.1 h1, below_sub hl.2 hu.2 h2] at hL
  have p1 : Part (l.1 - u.1) := by have := hl.1; have := hu.1; unfold Part at *; omega
  have p2 : Part (l.2 - u.2) := by have := hl.2; have := hu.2; unfold Part at *; omega
  have HF := Lib.hid fun W => Ch.fits_no x.1 x.2 (l.1 - u.1) (l.2 - u.2) W hx.1 hx.2 p1 p2 hno
  have HL := Lib.hid hL
  generalize l.1 - u.1 = y1 at *
  generalize l.2 - u.2 = y2 at *
  clear h hl hu hx hno p1 p2 hL
  go_enter (Try.func7), (Try.ntmps7)
  go_wp2_with fail
  refine HL.out.mono ?_
  rintro e w1 ⟨rfl, hb⟩
  go_wp2_with fail
  refine (HF.out _).mono ?_
  rintro e w' ⟨rfl, rfl⟩
  go_wp2_with fail
  go_ret
  exact ⟨rfl, hb⟩
theorem take_yes (h : Bud B w g l u f n) (hl : PP l) (hu : PP u) (h1 : u.1 ≤ l.1) (h2 : u.2 ≤ l.2) (k : Int) (hk : wf64 k) (x : Int × Int) (hx : PP x) (hyes : x.1 ≤ l.1 - u.1 ∧ x.2 ≤ l.2 - u.2) (hf : PP (f k)) (hfx : PP (plus (f k) x)) (hn : n < 1000) :
    Calls Try.prog (7) #[pt g, vi k, cx x.1 x.2] w fun e w' => e = .returned (.bool true) ∧ Bud B w' g l (plus u x) (upd f k (plus (f k) x)) (n + 1) ∧ (B ≤ w.heap.size → Below B w w') := by
  have hL := left_any h hl hu
  rw [below_sub hl.1 hu.1 h1, below_sub hl.2 hu.2 h2] at hL
  have p1 : Part (l.1 - u.1) := by have := hl.1; have := hu.1; unfold Part at *; omega
  have p2 : Part (l.2 - u.2) := by have := hl.2; have := hu.2; unfold Part at *; omega
  have HF := Lib.hid fun W => Ch.fits_yes x.1 x.2 (l.1 - u.1) (l.2 - u.2) W hx.1 hx.2 p1 p2 hyes.1 hyes.2
  have HL := Lib.hid hL
  have HB := Lib.hid h
  have HS := Lib.hid fun (W : World) (hW : Bud B W g l u f n) => set_any hW k hk (plus (f k) x) hfx hn
  have hs1 : ∀ W t, Sem.run Try.prog (binOp .add t (cx (f k).1 (f k).2) (cx x.1 x.2)) W = .ok (cx (plus (f k) x).1 (plus (f k) x).2) W := fun W t => run_complex_sum W .add (.inl rfl) t _ _ _ _ _ _ _ (sum_bits hf.1 hf.2 hx.1 hx.2)
  have hs2 : ∀ W t, Sem.run Try.prog (binOp .add t (cx u.1 u.2) (cx x.1 x.2)) W = .ok (cx (plus u x).1 (plus u x).2) W := fun W t => run_complex_sum W .add (.inl rfl) t _ _ _ _ _ _ _ (sum_bits hu.1 hu.2 hx.1 hx.2)
  have HP := Lib.hid (rfl : plus u x = plus u x)
  generalize l.1 - u.1 = y1 at *
  generalize l.2 - u.2 = y2 at *
  generalize hz : plus (f k) x = z at *
  clear h hl hu hx hyes p1 p2 hL hf hfx hz
  go_enter (Try.func7), (Try.ntmps7)
  go_wp2_with fail
  refine HL.out.mono ?_
  rintro e w1 ⟨rfl, hb⟩
  have HB1 := Lib.hid (HB.out.below hb (Nat.le_refl _))
  have HB0 := Lib.hid hb
  clear hb
  go_wp2_with fail
  refine (HF.out _).mono ?_
  rintro e w' ⟨rfl, rfl⟩
  obtain ⟨m, c0, c1, c2, z1, hlook, _, _⟩ := HB1.out.look
  have hlk := hlook k hk
  clear hlook c0 c1 z1
  go_wp2_with fail
  refine (HS.out _ HB1.out).mono ?_
  rintro e w2 ⟨rfl, hb2, hk2⟩
  clear c2 hlk
  obtain ⟨m2, c0, c1, c2, z1, _, _, _⟩ := hb2.look
  have HB2 := Lib.hid hb2
  have HK2 := Lib.hid hk2
  clear c0 c2 hb2 hk2
  have hst := @run_store_cx
  go_wp2_with fail
  go_ret
  obtain ⟨q1, q2⟩ := HB2.out.used (plus u x)
  exact ⟨rfl, q1, fun hB => ((HB0.out.mono hB).trans HK2.out).trans q2⟩
/-- One charge less another. -/
def minus (x y : Int × Int) : Int × Int := (x.1 - y.1, x.2 - y.2)
theorem give_no (h : Bud B w g l u f n) (k : Int) (hk : wf64 k) (x : Int × Int) (hx : PP x) (hf : PP (f k)) (hno : (f k).1 < x.1 ∨ (f k).2 < x.2) :
    Calls Try.prog (10) #[pt g, vi k, cx x.1 x.2] w fun e w' => e = .returned (.bool false) ∧ w = w' := by
  have HF := Lib.hid fun W => Ch.fits_no x.1 x.2 (f k).1 (f k).2 W hx.1 hx.2 hf.1 hf.2 hno
  obtain ⟨m, c0, c1, c2, z1, hlook, _, _⟩ := h.look
  have hlk := hlook k hk
  clear hlook c0 c1 z1 h hx hf hno
  generalize f k = y at *
  go_enter (Try.func10), (Try.ntmps10)
  go_wp2_with fail
  refine (HF.out _).mono ?_
  rintro e w' ⟨rfl, rfl⟩
  go_wp2_with fail
  go_ret
  exact ⟨rfl, rfl⟩
theorem give_yes (h : Bud B w g l u f n) (hu : PP u) (k : Int) (hk : wf64 k) (x : Int × Int) (hx : PP x) (hf : PP (f k)) (hyes : x.1 ≤ (f k).1 ∧ x.2 ≤ (f k).2) (hn : n < 1000) :
    Calls Try.prog (10) #[pt g, vi k, cx x.1 x.2] w fun e w' => e = .returned (.bool true) ∧ Bud B w' g l (minus u x) (upd f k (minus (f k) x)) (n + 1) ∧ Below B w w' := by
  have HF := Lib.hid fun W => Ch.fits_yes x.1 x.2 (f k).1 (f k).2 W hx.1 hx.2 hf.1 hf.2 hyes.1 hyes.2
  have hfx : PP (minus (f k) x) := by
    obtain ⟨a1, a2⟩ := hx
    obtain ⟨b1, b2⟩ := hf
    unfold PP minus Part at *
    simp only
    omega
  have HB := Lib.hid h
  have HS := Lib.hid fun (W : World) (hW : Bud B W g l u f n) => set_any hW k hk (minus (f k) x) hfx hn
  have hs1 : ∀ W t, Sem.run Try.prog (binOp .sub t (cx (f k).1 (f k).2) (cx x.1 x.2)) W = .ok (cx (minus (f k) x).1 (minus (f k) x).2) W := fun W t => run_complex_sum W .sub (.inr rfl) t _ _ _ _ _ _ _ (sub_bits hf.1 hf.2 hx.1 hx.2)
  have hs2 : ∀ W t, Sem.run Try.prog (binOp .sub t (cx u.1 u.2) (cx x.1 x.2)) W = .ok (cx (minus u x).1 (minus u x).2) W := fun W t => run_complex_sum W .sub (.inr rfl) t _ _ _ _ _ _ _ (sub_bits hu.1 hu.2 hx.1 hx.2)
  obtain ⟨m, c0, c1, c2, z1, hlook, _, _⟩ := h.look
  have hlk := hlook k hk
  generalize hz : minus (f k) x = z at *
  clear h hu hx hyes hf hfx hz hlook c0 c1 z1
  go_enter (Try.func10), (Try.ntmps10)
  go_wp2_with fail
  refine (HF.out _).mono ?_
  rintro e w' ⟨rfl, rfl⟩
  go_wp2_with fail
  refine (HS.out _ HB.out).mono ?_
  rintro e w2 ⟨rfl, hb2, hk2⟩
  clear c2 hlk
  obtain ⟨m2, c0, c1, c2, z1, _, _, _⟩ := hb2.look
  have HB2 := Lib.hid hb2
  have HK2 := Lib.hid hk2
  clear c0 c2 hb2 hk2
  have hst := @run_store_cx
  go_wp2_with fail
  go_ret
  obtain ⟨q1, q2⟩ := HB2.out.used (minus u x)
  exact ⟨rfl, q1, HK2.out.trans q2⟩
end
theorem capped_any (n : Int) (w : World) : Calls Try.prog 12 #[vi n] w fun e w' => e = .returned (vi (most (up n))) ∧ w = w' := by
  by_cases h1 : n < 0
  · have e : most (up n) = 0 := by unfold most up; omega
    rw [e]
    clear e
    go_enter Try.func12, Try.ntmps12
    go_wp2_with fail
    go_ret
    exact ⟨rfl, rfl⟩
  · have d1 : decide (n < 0) = false := decide_eq_false h1
    by_cases h2 : 1099511627776 < n
    · have e : most (up n) = 1099511627776 := by unfold most up; omega
      rw [e]
      clear e h1
      go_enter Try.func12, Try.ntmps12
      go_wp2_with fail
      go_ret
      exact ⟨rfl, rfl⟩
    · have e : most (up n) = n := by unfold most up; omega
      have d2 : decide (1099511627776 < n) = false := decide_eq_false h2
      rw [e]
      clear e h1 h2
      go_enter Try.func12, Try.ntmps12
      go_wp2_with fail
      go_ret
      exact ⟨rfl, rfl⟩
theorem made_any (a b : Int) (ha : Part a) (hb : Part b) (w : World) : Calls Try.prog 13 #[vi a, vi b] w fun e w' => e = .returned (cx a b) ∧ w = w' := by
  have HA := Lib.hid fun W => capped_any a W
  have HB := Lib.hid fun W => capped_any b W
  rw [most_up ha] at HA
  rw [most_up hb] at HB
  have ca : ∀ W, Sem.run Try.prog (convert 3 42 (vi a)) W = .ok (.float .f64 (F a)) W := fun W => run_convert_int_float W _ _ _ _ _ (by kernel_rfl) (by kernel_rfl)
  have cb : ∀ W, Sem.run Try.prog (convert 3 42 (vi b)) W = .ok (.float .f64 (F b)) W := fun W => run_convert_int_float W _ _ _ _ _ (by kernel_rfl) (by kernel_rfl)
  clear ha hb
  go_enter Try.func13, Try.ntmps13
  go_wp2_with fail
  refine (HA.out _).mono ?_
  rintro e w' ⟨rfl, rfl⟩
  go_wp2_with fail
  refine (HB.out _).mono ?_
  rintro e w' ⟨rfl, rfl⟩
  go_wp2_with fail
  go_ret
  exact ⟨rfl, rfl⟩
theorem rof_yes (a b : Int) (ha : Part a) (hb : Part b) (w : World) : Calls Try.prog 5 #[vi a, vi b] w fun e w' => e = .returned (.tuple #[cx a b, .bool true]) ∧ w = w' := by
  have HA := Lib.hid fun W => capped_any a W
  have HB := Lib.hid fun W => capped_any b W
  rw [most_up ha] at HA
  rw [most_up hb] at HB
  have HM := Lib.hid (made_any a b ha hb)
  clear ha hb
  go_enter Try.func5, Try.ntmps5
  go_wp2_with fail
  refine (HA.out _).mono ?_
  rintro e w' ⟨rfl, rfl⟩
  go_wp2_with fail
  refine (HB.out _).mono ?_
  rintro e w' ⟨rfl, rfl⟩
  go_wp2_with fail
  refine (HM.out _).mono ?_
  rintro e w' ⟨rfl, rfl⟩
  go_wp2_with fail
  go_returns
  exact ⟨rfl, rfl⟩
theorem rof_no (a b : Int) (h : ¬ (Part a ∧ Part b)) (w : World) : Calls Try.prog 5 #[vi a, vi b] w fun e w' => e = .returned (.tuple #[cx 0 0, .bool false]) ∧ w = w' := by
  have HA := Lib.hid fun W => capped_any a W
  have HB := Lib.hid fun W => capped_any b W
  have hne : ∀ z : Int, ¬ Part z → (most (up z) != z) = true := fun z hz => bne_iff_ne.2 (by unfold Part at hz; unfold most up; omega)
  by_cases ha : Part a
  · have hb : ¬ Part b := fun hb => h ⟨ha, hb⟩
    rw [most_up ha] at HA
    have d := hne b hb
    generalize most (up b) = y at *
    clear hne ha hb h
    go_enter Try.func5, Try.ntmps5
    go_wp2_with fail
    refine (HA.out _).mono ?_
    rintro e w' ⟨rfl, rfl⟩
    go_wp2_with fail
    refine (HB.out _).mono ?_
    rintro e w' ⟨rfl, rfl⟩
    go_wp2_with fail
    go_returns
    exact ⟨rfl, rfl⟩
  · have d := hne a ha
    generalize most (up a) = y at *
    clear hne ha h
    go_enter Try.func5, Try.ntmps5
    go_wp2_with fail
    refine (HA.out _).mono ?_
    rintro e w' ⟨rfl, rfl⟩
    go_wp2_with fail
    go_returns
    exact ⟨rfl, rfl⟩
end Go.Proofs.Ytafcepjkjcnmfaa.Bg
