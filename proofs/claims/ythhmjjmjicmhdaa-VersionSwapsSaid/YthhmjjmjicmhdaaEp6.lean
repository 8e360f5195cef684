/- Package edit's reader: number, integer, length, text. -/
import Derived.Test.YthhmjjmjicmhdaaEp5
import Derived.Test.YthhmjjmjicmhdaaErd
import Derived.Test.YthhmjjmjicmhdaaGet
import Derived.Deep.DeepCutAuto
import Derived.Deep.Cut
namespace Go.Proofs.Ythhmjjmjicmhdaa.Ed
set_option linter.unusedVariables false
set_option linter.unusedSimpArgs false
open Go.RowKit Lift Ik Vn
/-- The reader in block g, over the bytes bs below it: at the place p, with the error er. -/
structure Oa (w : World) (g : Nat) (A : Option Addr) (c : Nat) (bs : List Nat) (p er : Nat) : Prop where
  box : Box w g 67 [.slice A bs.length c, .int .i64 (p : Int), .int .i64 (er : Int)]
  lies : Lies w g A (bs.map vb)
  len : bs.length ≤ c
  cap : c ≤ maxLen
  few : bs.length ≤ 20000000
  byt : Byt bs
  le : p ≤ bs.length
  low : er ≤ 100
section
variable {w w' : World} {g : Nat} {A : Option Addr} {c : Nat} {bs : List Nat} {p q er er' : Nat}
theorem Oa.same (h : Oa w g A c bs p er) (hk : ∀ k, k ≤ g → w'.heap[k]? = w.heap[k]?) : Oa w' g A c bs p er :=
  ⟨h.box.at_block (hk g (Nat.le_refl _)), h.lies.later fun p hp => World.cell?_of_block (w := w) (hk p.block (Nat.le_of_lt hp)), h.len, h.cap, h.few, h.byt, h.le, h.low⟩
theorem Oa.below (h : Oa w g A c bs p er) (hb : Below w.heap.size w w') : Oa w' g A c bs p er := h.same fun k hk => hb.block k (Nat.lt_of_le_of_lt hk h.box.lt)
theorem Oa.put (h : Oa w g A c bs p er) (hp : q ≤ bs.length) (he : er' ≤ 100) (hk : Keep (· = g) w w') (hb : Box w' g 67 [.slice A bs.length c, .int .i64 (q : Int), .int .i64 (er' : Int)]) : Oa w' g A c bs q er' :=
  ⟨hb, h.lies.later fun p hp => World.cell?_of_block (w := w) (hk.block p.block (Nat.lt_trans hp h.box.lt) (Nat.ne_of_lt hp)), h.len, h.cap, h.few, h.byt, hp, he⟩
/-- What a call that reads a by f leaves. -/
def Ow {α : Type} (w : World) (g : Nat) (A : Option Addr) (c : Nat) (bs : List Nat) (p er : Nat) (f : List Nat → P α) (a : α) (w' : World) : Prop :=
  ∃ q er', Oa w' g A c bs q er' ∧ Keep (· = g) w w' ∧ Rel f bs p er a q er'
set_option maxRecDepth 100000 in
set_option maxHeartbeats 400000 in
theorem onumber_any (h : Oa w g A c bs p er) : Calls Try.prog (77) #[.pointer (some ⟨g, 0, none⟩)] w fun e w' => ∃ (x q er' : Nat), e = .returned (.int .u64 (x : Int)) ∧ x < 18446744073709551616 ∧ (er' ≠ 0 → x = 0) ∧ Oa w' g A c bs q er' ∧ Keep (· = g) w w' ∧ Rel rnum bs p er x q er' := by
  by_cases h0 : er = 0
  · subst h0
    obtain ⟨x, k, e1, hd⟩ : ∃ x k e1, dec (bs.drop p) 0 0 = (x, k, e1) := ⟨_, _, _, rfl⟩
    have hget := fun m => Vt.get_calls A c g bs (p : Int) (w.drewN m) (h.lies.later fun _ _ => rfl) h.len (Nat.le_trans h.len h.cap) h.byt
    rw [res_at bs p h.le hd] at hget
    have h3 := dec_three (bs.drop p) 0 0
    have hlen := dec_len (bs.drop p) 0 0
    rw [hd] at h3 hlen
    simp only at h3 hlen
    have hlp : (bs.drop p).length = bs.length - p := List.length_drop
    have hnum : rnum (bs.drop p) = if e1 ≠ 0 then .error e1 else .ok (x, (bs.drop p).drop k) := by unfold rnum; rw [hd]
    obtain ⟨f0, f1, f2, z0, z1, z2⟩ := h.box.facts3
    have H := Lib.hid h
    by_cases he : e1 = 0
    · subst he
      rw [if_pos rfl] at hget
      have hx : x < 18446744073709551616 := (back_num (fun c hc => h.byt c (List.mem_of_mem_drop hc)) (by rw [hnum, if_neg (by simp)])).2.2
      have HG := Lib.hid hget
      have HN : Hid (rnum (bs.drop p) = .ok (x, bs.drop (p + k))) := Lib.hid (by rw [hnum, if_neg (by simp), List.drop_drop])
      have HLE : Hid (p + k ≤ bs.length) := Lib.hid (by have := hlen rfl; have := h.le; omega)
      have HX := Lib.hid hx
      clear h hget hd h3 hlen hnum hlp hx
      go_enter (Try.func77), (Try.ntmps77)
      go_wp2_with fail
      go_quiet (first | (go_at_call 93; refine Calls.quiet_of_same ((HG.out _).mono fun e w' hh => ⟨hh.1, hh.2.symm⟩)))
      have hd := (Joins.below_draws _ _ nq : Below w.heap.size w (w.drewN nq))
      have H1 := Lib.hid (H.out.below hd)
      have z1 : (w.drewN nq).frozen? ⟨g, 1, none⟩ = false := H1.out.box.free 1
      have f1 : (w.drewN nq).cell? ⟨g, 1, none⟩ = some (.int .i64 (p : Int)) := H1.out.box.cell 1
      have HK := Lib.hid (below_keep (S := (· = g)) hd)
      clear hd
      generalize w.drewN nq = w1 at *
      go_wp2_with fail
      go_ret
      refine ⟨x, p + k, 0, rfl, HX.out, fun h => absurd rfl h, H1.out.put HLE.out (by decide) ((Keep.refl (· = g) w1).setCell (p := ⟨g, 1, none⟩) (.inr rfl) _) (H1.out.box.set 1 _), HK.out.trans ((Keep.refl (· = g) w1).setCell (p := ⟨g, 1, none⟩) (.inr rfl) _) fun _ _ => id, .inr ⟨rfl, .inl ⟨rfl, HN.out⟩⟩⟩
    · rw [if_neg he] at hget
      have HG := Lib.hid hget
      have HN : Hid (rnum (bs.drop p) = .error e1) := Lib.hid (by rw [hnum, if_pos he])
      have HE : Hid (e1 ≠ 0 ∧ e1 ≤ 100) := Lib.hid ⟨he, by omega⟩
      have t1 : ((e1 : Int) != 0) = true := by rw [bne_iff_ne]; omega
      clear h hget hd h3 hlen hnum hlp he
      go_enter (Try.func77), (Try.ntmps77)
      go_wp2_with fail
      go_quiet (first | (go_at_call 93; refine Calls.quiet_of_same ((HG.out _).mono fun e w' hh => ⟨hh.1, hh.2.symm⟩)))
      have hd := (Joins.below_draws _ _ nq : Below w.heap.size w (w.drewN nq))
      have H1 := Lib.hid (H.out.below hd)
      have z1 : (w.drewN nq).frozen? ⟨g, 2, none⟩ = false := H1.out.box.free 2
      have f1 : (w.drewN nq).cell? ⟨g, 2, none⟩ = some (.int .i64 (0 : Int)) := H1.out.box.cell 2
      have HK := Lib.hid (below_keep (S := (· = g)) hd)
      clear hd
      generalize w.drewN nq = w1 at *
      go_wp2_with fail
      go_ret
      exact ⟨0, p, e1, rfl, by decide, fun _ => rfl, H1.out.put H1.out.le HE.out.2 ((Keep.refl (· = g) w1).setCell (p := ⟨g, 2, none⟩) (.inr rfl) _) (H1.out.box.set 2 _), HK.out.trans ((Keep.refl (· = g) w1).setCell (p := ⟨g, 2, none⟩) (.inr rfl) _) fun _ _ => id, .inr ⟨rfl, .inr ⟨HE.out.1, HN.out⟩⟩⟩
  · obtain ⟨f0, f1, f2, z0, z1, z2⟩ := h.box.facts3
    have H := Lib.hid h
    have t1 : ((er : Int) != 0) = true := by rw [bne_iff_ne]; omega
    have HE := Lib.hid h0
    clear h h0
    go_enter (Try.func77), (Try.ntmps77)
    go_wp2_with fail
    go_ret
    exact ⟨0, p, er, rfl, by decide, fun _ => rfl, H.out, Keep.refl _ _, .inl ⟨HE.out, rfl⟩⟩
theorem ointeger_any (h : Oa w g A c bs p er) : Calls Try.prog (76) #[.pointer (some ⟨g, 0, none⟩)] w fun e w' => ∃ z : Int, e = .returned (.int .i64 z) ∧ (Lit.int .i64 z).wf = true ∧ Ow w g A c bs p er qint z w' := by
  have HN := Lib.hid (onumber_any h)
  clear h
  go_enter (Try.func76), (Try.ntmps76)
  go_wp2_with fail
  refine HN.out.mono ?_
  rintro e w1 ⟨x, q, er1, rfl, hx, hz, h1, hk, hr⟩
  have H : Hid (Ow w g A c bs p er qint (asI x) w1) := Lib.hid ⟨q, er1, h1, hk, hr.bd (rel_ret _)⟩
  have HC : Hid (asI x = wrap64 (x : Int)) := Lib.hid (by unfold asI; rw [if_neg (by omega)]; simp only [wrap64, IntKind.wrap_i64])
  clear hz h1 hk hr HN
  go_wp2_with fail
  go_ret
  refine ⟨_, by rw [HC.out]; rfl, ?_, H.out⟩
  rw [HC.out]
  exact WalkArith.wf_i64 (by simp only [wrap64, IntKind.wrap_i64]; omega)
theorem olength_any (h : Oa w g A c bs p er) (n : Nat) (hn : n < 1000000) : Calls Try.prog (91) #[.pointer (some ⟨g, 0, none⟩), .int .u64 (n : Int)] w fun e w' => ∃ m q er' : Nat, e = .returned (.int .i64 (m : Int)) ∧ m ≤ n ∧ (er' ≠ 0 → m = 0) ∧ Oa w' g A c bs q er' ∧ Keep (· = g) w w' ∧ Rel (rmost n) bs p er m q er' := by
  have HN := Lib.hid (onumber_any h)
  clear h
  go_enter (Try.func91), (Try.ntmps91)
  go_wp2_with fail
  refine HN.out.mono ?_
  rintro e w1 ⟨x, q, er1, rfl, hx, hz, h1, hk, hr⟩
  obtain ⟨f0, f1, f2, z0, z1, z2⟩ := h1.box.facts3
  have H1 := Lib.hid h1
  have HK := Lib.hid hk
  have HR := Lib.hid hr
  clear h1 hk hr HN f0 f1 z0 z1
  have HZ := Lib.hid hz
  clear hz
  by_cases hb : n < x
  · have d1 : decide ((n : Int) < (x : Int)) = true := decide_eq_true (by omega)
    have d2 : decide (n < x) = true := decide_eq_true hb
    have HB := Lib.hid hb
    have HE : Hid (er1 = 0) := Lib.hid (Classical.byContradiction fun h => by have := HZ.out h; omega)
    clear hb
    go_wp2_with fail
    go_ret
    refine ⟨0, q, 2, rfl, Nat.zero_le _, fun _ => rfl, H1.out.put H1.out.le (by decide) ((Keep.refl (· = g) w1).setCell (p := ⟨g, 2, none⟩) (.inr rfl) _) (H1.out.box.set 2 _), HK.out.trans ((Keep.refl (· = g) w1).setCell (p := ⟨g, 2, none⟩) (.inr rfl) _) fun _ _ => id, ?_⟩
    have hr := HR.out
    rw [HE.out] at hr
    exact hr.bd (.inr ⟨rfl, .inr ⟨by decide, if_pos HB.out⟩⟩)
  · have d1 : decide ((n : Int) < (x : Int)) = false := decide_eq_false (by omega)
    have d2 : decide (n < x) = false := decide_eq_false hb
    have HB := Lib.hid hb
    have wr : IntKind.i64.wrap (x : Int) = (x : Int) := IntWalk.i64_in _ (by omega)
    clear hb
    go_wp2_with fail
    go_ret
    refine ⟨x, q, er1, rfl, by have := HB.out; omega, HZ.out, H1.out, HK.out, HR.out.bd ?_⟩
    by_cases h0 : er1 = 0
    · exact .inr ⟨h0, .inl ⟨h0, if_neg HB.out⟩⟩
    · exact .inl ⟨h0, rfl⟩
theorem new_of_own {w w0 w' : World} {v : Value} {b : List Nat} (h : w'.ownsRow w0.heap.size 5 1 v b.length (b.map vb)) (hw : w.heap.size ≤ w0.heap.size) (h8 : ∀ x, x ∈ b → x < 256) : ∃ A1 c1, v = .slice A1 b.length c1 ∧ New w w' A1 c1 b := by
  obtain ⟨A1, c1, rfl, hc, hm, -⟩ := own_parts h
  exact ⟨A1, c1, rfl, (LiesP.of_own h).later (fun _ _ => rfl) fun k hk => ⟨Nat.le_trans hw hk.1, hk.2⟩, hc, hm, h8⟩
set_option maxRecDepth 100000 in
set_option maxHeartbeats 400000 in
theorem bclone_any (A : Option Addr) (c : Nat) (xs : List Nat) (w : World) (hl : Lies w w.heap.size A (xs.map vb)) (hm : xs.length ≤ 1000000) :
    Calls Try.prog 81 #[.slice A xs.length c] w (Lift.Made w.heap.size w xs) := by
  rcases A with _ | ad
  · have h0 : xs = [] := by
      rcases hl with h | ⟨_, h, _⟩
      · simpa using h
      · cases h
    subst h0
    clear hl hm
    have q22 : ∀ W : World, Sem.run Try.prog (binOp .eql 29 (.slice none 0 c) (.slice none 0 0)) W = .ok (.bool true) W := fun W => Lib.run_eql_slice_nil W _ _ none 0 c 0 0 Try.underlying29
    show Calls Try.prog 81 #[.slice none 0 c] w _
    go_enter Try.func81, Try.ntmps81
    go_wp2_with fail
    go_ret
    exact ⟨_, rfl, World.ownsRow_nil _ _ _ _, Below.refl _ _⟩
  · exact clone_any ad c xs w hl (by omega)
set_option maxRecDepth 100000 in
set_option maxHeartbeats 800000 in
theorem otext_rd (h : Oa w g A c bs p er) : Calls Try.prog (108) #[.pointer (some ⟨g, 0, none⟩)] w fun e w' => ∃ A1 c1 b, e = .returned (.slice A1 b.length c1) ∧ New w w' A1 c1 b ∧ Ow w g A c bs p er rbytes b w' := by
  have HN := Lib.hid (olength_any h 256 (by decide))
  clear h
  go_enter (Try.func108), (Try.ntmps108)
  go_wp2_with fail
  refine HN.out.mono ?_
  rintro e w1 ⟨m, q, er1, rfl, hm, hz, h1, hk, hr⟩
  obtain ⟨f0, f1, f2, z0, z1, z2⟩ := h1.box.facts3
  have hlow : q ≤ bs.length := h1.le
  have hfew := h1.few
  have H1 := Lib.hid h1
  have HK := Lib.hid hk
  have HR := Lib.hid hr
  have HZ := Lib.hid hz
  clear h1 hk hr HN hz
  have wr : IntKind.i64.wrap ((bs.length : Int) - (q : Int)) = (bs.length : Int) - (q : Int) := IntWalk.i64_in _ (by omega)
  by_cases hb : bs.length - q < m
  · have d1 : decide ((bs.length : Int) - (q : Int) < (m : Int)) = true := decide_eq_true (by omega)
    have HB := Lib.hid hb
    have HE : Hid (er1 = 0) := Lib.hid (Classical.byContradiction fun h => by have := HZ.out h; omega)
    clear hb
    go_wp2_with fail
    go_quiet (fail)
    have hd := (Joins.below_draws _ _ nq : Below w1.heap.size w1 (w1.drewN nq))
    have H2 := Lib.hid (H1.out.below hd)
    have HK2 := Lib.hid (HK.out.trans (below_keep (S := (· = g)) hd) fun _ _ => id)
    have z2 : (w1.drewN nq).frozen? ⟨g, 2, none⟩ = false := H2.out.box.free 2
    have f2 : (w1.drewN nq).cell? ⟨g, 2, none⟩ = some (.int .i64 (er1 : Int)) := H2.out.box.cell 2
    clear hd f0 f1 z0 z1 H1 HK
    generalize w1.drewN nq = w2 at *
    go_wp2_with fail
    go_ret
    refine ⟨none, 0, [], rfl, new_nil _ _, q, 4, H2.out.put H2.out.le (by decide) ((Keep.refl (· = g) w2).setCell (p := ⟨g, 2, none⟩) (.inr rfl) _) (H2.out.box.set 2 _), HK2.out.trans ((Keep.refl (· = g) w2).setCell (p := ⟨g, 2, none⟩) (.inr rfl) _) fun _ _ => id, ?_⟩
    have hr := HR.out
    rw [HE.out] at hr
    exact hr.bd (.inr ⟨rfl, .inr ⟨by decide, if_pos (by rw [List.length_drop]; exact HB.out)⟩⟩)
  · have d1 : decide ((bs.length : Int) - (q : Int) < (m : Int)) = false := decide_eq_false (by omega)
    have HB : Hid (q + m ≤ bs.length) := Lib.hid (by omega)
    clear hb
    go_wp2_with fail
    go_quiet (fail)
    have hd := (Joins.below_draws _ _ nq : Below w1.heap.size w1 (w1.drewN nq))
    have H2 := Lib.hid (H1.out.below hd)
    have HK2 := Lib.hid (HK.out.trans (below_keep (S := (· = g)) hd) fun _ _ => id)
    have z1 : (w1.drewN nq).frozen? ⟨g, 1, none⟩ = false := H2.out.box.free 1
    have f1 : (w1.drewN nq).cell? ⟨g, 1, none⟩ = some (.int .i64 (q : Int)) := H2.out.box.cell 1
    clear hd f0 f2 z0 z2 H1 HK
    generalize w1.drewN nq = w2 at *
    go_upto_region 7 with fail
    have hk3 := (Keep.refl (· = g) w2).setCell (p := ⟨g, 1, none⟩) (.inr rfl) (.int .i64 ((q : Int) + (m : Int)))
    have H3 : Hid (Oa (w2.setCell ⟨g, 1, none⟩ (.int .i64 ((q : Int) + (m : Int)))) g A c bs (q + m) er1) := Lib.hid (H2.out.put HB.out H2.out.low hk3 (by have := H2.out.box.set 1 (.int .i64 ((q : Int) + (m : Int))); exact this))
    have HK3 := Lib.hid (HK2.out.trans hk3 fun _ _ => id)
    clear hk3 f1 z1 H2 HK2
    generalize w2.setCell ⟨g, 1, none⟩ (.int .i64 ((q : Int) + (m : Int))) = w3 at *
    have f0 : w3.cell? ⟨g, 0, none⟩ = some (.slice A bs.length c) := H3.out.box.cell 0
    have f1 : w3.cell? ⟨g, 1, none⟩ = some (.int .i64 ((q : Int) + (m : Int))) := by have := H3.out.box.cell 1; simpa using this
    obtain ⟨A', hA', -, hsl⟩ := slice_at A bs.length c q m HB.out H3.out.len H3.out.cap
    have HLS := Lib.hid (sub_lies H3.out.lies HB.out hA')
    have hml : ((bs.drop q).take m).length = m := by rw [List.length_take, List.length_drop]; have := HB.out; omega
    obtain ⟨F, hF⟩ : ∃ F, F = (bs.drop q).take m := ⟨_, rfl⟩
    rw [← hF] at HLS hml
    have HF := Lib.hid hF
    have HFL := Lib.hid hml
    have HC : Hid (Calls Try.prog 81 #[.slice A' m (c - q)] w3.drew (Lift.Made w3.drew.heap.size w3.drew F)) := Lib.hid (by
      have h := bclone_any A' (c - q) F w3.drew ((HLS.out.up (Nat.le_of_lt H3.out.box.lt)).later fun _ _ => rfl) (by omega)
      rw [hml] at h
      exact h)
    clear hml hF hA' wr
    go_still_tail 10, (by kernel_rfl)
    change wpList _ _ _ _ _ w3.drew
    go_wp2_with fail
    refine HC.out.mono ?_
    rintro e w4 ⟨v, rfl, ho, hb⟩
    have hsz : w.heap.size ≤ w3.heap.size := HK3.out.size
    obtain ⟨A4, c4, rfl, hnew⟩ := new_of_own (w := w) ho hsz (fun x hx => H3.out.byt x (by rw [HF.out] at hx; exact List.mem_of_mem_drop (List.mem_of_mem_take hx)))
    have HNEW := Lib.hid hnew
    have HB4 := Lib.hid hb
    clear ho hb hnew HC
    go_wp2_with fail
    go_ret
    refine ⟨A4, c4, F, rfl, HNEW.out, q + m, er1, (H3.out.below (Below.refl _ _).drew).below HB4.out, HK3.out.trans (below_keep (((Below.refl _ _).drew).trans HB4.out)) fun _ _ => id, HR.out.bd ?_⟩
    by_cases h0 : er1 = 0
    · refine .inr ⟨h0, .inl ⟨h0, ?_⟩⟩
      unfold rtake
      rw [if_neg (by rw [List.length_drop]; have := HB.out; omega), HF.out, List.drop_drop]
    · exact .inl ⟨h0, rfl⟩
end
end Go.Proofs.Ythhmjjmjicmhdaa.Ed
