/- The project's cache: Put. -/
import Derived.Test.YtbeohfmikpbkhaaCo8
namespace Go.Proofs.Ytbeohfmikpbkhaa.Ck
set_option linter.unusedVariables false
set_option linter.unusedSimpArgs false
open Go.RowKit Go.Maps Lift Ik
theorem clone_b (A : Option Addr) (c : Nat) (xs : List Nat) (w : World) (hl : Lies w w.heap.size A (xs.map vb)) (hm : xs.length ≤ 140737488354000) (h0 : A = none → xs.length = 0 ∧ c = 0) :
    Calls Try.prog 23 #[.slice A xs.length c] w (Made w.heap.size w xs) := by
  rcases A with _ | ad
  · obtain ⟨h1, rfl⟩ := h0 rfl
    rw [List.eq_nil_of_length_eq_zero h1]
    refine (clone_nil w).mono ?_
    rintro e w' ⟨rfl, rfl⟩
    exact ⟨_, rfl, World.ownsRow_nil _ _ _ _, Below.refl _ _⟩
  · exact clone_any ad c xs w hl hm
theorem inv_like {room h : Nat} {l : List S} {s t : S} (hi : Inv room (l ++ [s], h)) (h1 : t.file = s.file) (h2 : t.off = s.off) (h3 : t.b = s.b) : Inv room (l ++ [t], h) := by
  refine ⟨?_, ?_, ?_⟩
  · rcases hi.fine with hf | ⟨hf, _⟩
    · exact .inl (by simpa using hf)
    · simp at hf
  · have := hi.room
    simp only [used, List.map_append, List.map_cons, List.map_nil] at this ⊢
    rw [h3]; exact this
  · have := hi.once
    simp only [ids, List.map_append, List.map_cons, List.map_nil] at this ⊢
    rw [h1, h2]; exact this
section
variable {w w' : World} {g room hand : Nat} {Z : Nat → Prop}
set_option maxRecDepth 100000 in
set_option maxHeartbeats 1600000 in
theorem put_any {r : R} (f a : Int) (A : Option Addr) (c : Nat) (bs : List Nat) (hf : wf64 f) (ha : wf64 a) (h : OC w g Z room r) (hb : LiesP w (fun k => k < w.heap.size ∧ ¬ Z k) A (bs.map vb)) (h0 : A = none → bs.length = 0 ∧ c = 0) (hfew : bs.length ≤ 100) (h8 : ∀ x, x ∈ bs → x < 256) (hp : pinned r.1 + 1 ≤ 1000) (hn : r.1.length + 1 ≤ 1000) :
    Calls Try.prog (10) #[pt g, .int .i64 f, .int .i64 a, .slice A bs.length c] w fun e w' => e = .returned (.bool (putC room r f a bs).2) ∧ OWent w g Z room (putC room r f a bs).1 w' := by
  have HR := Lib.hid h
  have HIV := Lib.hid (inv_put h.inv f a bs)
  obtain ⟨M, L, pv, nx, hl, he⟩ := h
  obtain ⟨f0, f1, f2, f3, f4⟩ := hl.facts
  have hlk := look_run hl.map hf ha
  have HE := Lib.hid he
  have HL := Lib.hid hl
  have HBL := Lib.hid hb
  have H0 := Lib.hid h0
  have H8 := Lib.hid h8
  clear hl f3 f4 f0 f1 hb h0 h8
  cases hq : find r.1 f a with
  | some i =>
    have hq' := hq
    rw [← he] at hq'
    obtain ⟨e, hei, h1, h2⟩ := find_map hq'
    have hs : r.1[i]? = some e.s := by rw [← he, List.getElem?_map, hei]; rfl
    have hpi := pins_le (List.mem_of_getElem? hs)
    have HN := Lib.hid (show putC room r f a bs = ((r.1.modify i pin, r.2), true) by unfold putC; rw [hq])
    have HM := Lib.hid (set_map (f := pin) hei)
    rw [hq'] at hlk
    change Sem.run _ _ _ = .ok (ptO ((L[i]?).map E.blk)) w at hlk
    rw [hei] at hlk
    change Sem.run _ _ _ = .ok (pt e.blk) w at hlk
    have hem := List.mem_of_getElem? hei
    have HP := Lib.hid (pin_any (HL.out.mem.node e hem) (by omega))
    obtain ⟨w2, hw2, hl2, hk2⟩ := HL.out.pinned hei (by omega)
    have HL2 := Lib.hid hl2
    have HK2 := Lib.hid hk2
    rw [← hw2] at HP
    clear hq hq' hs hei hem hl2 hk2 hw2 he h1 h2
    generalize e.blk = b at *
    go_enter (Try.func10), (Try.ntmps10)
    go_wp2_with (first | (go_at_call 25; refine HP.out.mono ?_; rintro v W ⟨rfl, rfl⟩))
    go_ret
    exact ⟨by rw [HN.out]; rfl, by rw [HN.out]; exact ⟨Z, ⟨M, _, pv, nx, HL2.out, by rw [HM.out, HE.out]⟩, HK2.out, fun k hk => .inl hk⟩⟩
  | none =>
    rw [he, hq] at hlk
    change Sem.run _ _ _ = .ok (Value.pointer none) w at hlk
    have hless := make_less room bs.length r.1.length r
    have HLS := Lib.hid hless
    have HRM := Lib.hid (room_any bs.length hfew HR.out)
    have HNO := Lib.hid (find_none hq)
    obtain ⟨t, ht⟩ : ∃ t, t = (make room bs.length r.1.length r).2 := ⟨_, rfl⟩
    obtain ⟨q, hqq⟩ : ∃ q, q = (make room bs.length r.1.length r).1 := ⟨_, rfl⟩
    have HPUT : Hid (putC room r f a bs = if t then ((q.1 ++ [⟨f, a, bs, 1, true⟩], q.2), true) else (q, false)) := Lib.hid (by unfold putC; rw [hq, ht, hqq])
    rw [← ht, ← hqq] at HRM
    rw [← hqq] at HLS
    clear hq he hless ht hqq
    cases t with
    | false =>
      have HPF : Hid (putC room r f a bs = (q, false)) := HPUT
      go_enter (Try.func10), (Try.ntmps10)
      go_wp2_with (first | (go_at_call 22; refine HRM.out.mono ?_; rintro v W1 ⟨rfl, hw1⟩))
      go_ret
      exact ⟨by rw [HPF.out]; rfl, by rw [HPF.out]; exact hw1⟩
    | true =>
      have HPF : Hid (putC room r f a bs = ((q.1 ++ [⟨f, a, bs, 1, true⟩], q.2), true)) := HPUT
      rw [HPF.out] at HIV
      go_enter (Try.func10), (Try.ntmps10)
      go_wp2_with (first | (go_at_call 22; refine HRM.out.mono ?_; rintro v W1 ⟨rfl, hw1⟩))
      obtain ⟨Y, hc1, hk1, hy⟩ := hw1
      have hll : Lies W1 W1.heap.size A (bs.map vb) := (HBL.out.later (R' := fun k => k < W1.heap.size) (fun k hk => hk1.block k hk.1 hk.2) fun k hk => Nat.lt_of_lt_of_le hk.1 hk1.size).lies fun k hk => hk
      refine (clone_b A c bs W1 hll (by omega) H0.out).mono ?_
      rintro v W2 ⟨v3, rfl, ho3, hb3⟩
      obtain ⟨A3, c3, rfl, -, -, -⟩ := own_parts ho3
      obtain ⟨M1, L1, pv1, nx1, hl1, he1⟩ := OC.below hc1 hb3
      have hZB : ∀ k, Y k → k < W1.heap.size := fun k hk => hc1.lt k hk
      have hba := Joins.below_alloc1 W2 (.cells #[.int .i64 f, .int .i64 a, .slice A3 bs.length c3, .int .i64 0, .bool false, .pointer none, .pointer none] Ty.node)
      have hl3 := hl1.same (fun k hk => hba.block k (hl1.lt k hk)) hba.size
      have hn3 : Lift.Box (W2.alloc (.cells #[.int .i64 f, .int .i64 a, .slice A3 bs.length c3, .int .i64 0, .bool false, .pointer none, .pointer none] Ty.node)) W2.heap.size Ty.node [.int .i64 f, .int .i64 a, .slice A3 bs.length c3, .int .i64 ((0 : Nat) : Int), .bool false, .pointer none, .pointer none] :=
        Lift.Box.new W2 Ty.node [.int .i64 f, .int .i64 a, .slice A3 bs.length c3, .int .i64 0, .bool false, .pointer none, .pointer none]
      have ho4 := own_later ho3 hba
      have hiv : Inv room (L1.map E.s ++ [⟨f, a, bs, 0, false⟩], q.2) := by
        rw [he1]
        exact inv_like (s := ⟨f, a, bs, 1, true⟩) HIV.out rfl rfl rfl
      have hno : ∀ d, d ∈ L1 → ¬ (d.s.file = f ∧ d.s.off = a) := fun d hd e1 => by
        have hm : d.s ∈ q.1 := by rw [← he1]; exact List.mem_map_of_mem hd
        obtain ⟨s, hs, e2⟩ := List.mem_map.mp (HLS.out.ids.subset (List.mem_map_of_mem (f := fun s : S => (s.file, s.off)) hm))
        exact HNO.out s hs ⟨(congrArg Prod.fst e2).trans e1.1, (congrArg Prod.snd e2).trans e1.2⟩
      have hlen1 : L1.length + 1 ≤ 1000 := by
        have := HLS.out.length
        rw [← he1, List.length_map] at this
        omega
      have HAD := Lib.hid (add_any (e := ⟨W2.heap.size, A3, c3, ⟨f, a, bs, 0, false⟩⟩) (B := W1.heap.size) hl3 hn3 ho4 hZB hb3.size H8.out hfew (Nat.zero_le _) hf ha hno hlen1 hiv)
      have HK1 := Lib.hid hk1
      have HB3 := Lib.hid (hb3.trans (hba.mono hb3.size))
      have HY := Lib.hid hy
      have HZB := Lib.hid hZB
      have HE1 := Lib.hid he1
      clear hc1 hk1 hy hll ho3 hb3 hl1 he1 hZB hba hl3 hn3 ho4 hiv hno hlen1 HBL
      go_wp2_with (first | (go_at_call 24; refine HAD.out.mono ?_; rintro v W4 ⟨rfl, hw4⟩))
      obtain ⟨M4, pv4, nx4, hl4, hk4⟩ := hw4
      have hx4 : (L1 ++ [⟨W2.heap.size, A3, c3, ⟨f, a, bs, 0, false⟩⟩])[L1.length]? = some (⟨W2.heap.size, A3, c3, ⟨f, a, bs, 0, false⟩⟩ : E) := by simp
      have HP := Lib.hid (pin_any (hl4.mem.node _ (List.mem_of_getElem? hx4)) (Nat.zero_le _))
      obtain ⟨w5, hw5, hl5, hk5⟩ := hl4.pinned hx4 (by show 0 + 1 ≤ 1000; omega)
      have HL5 := Lib.hid hl5
      have HK45 := Lib.hid (hk4.trans hk5 fun k _ hk => hk.elim (fun h1 => .inl h1) fun h1 => .inr h1.1)
      have HM5 := Lib.hid (set_map (f := pin) hx4)
      rw [← hw5] at HP
      have hsz := hl4.lt
      have HS4 := Lib.hid hk5.size
      clear hl4 hk4 hx4 hw5 hl5 hk5 hsz
      go_wp2_with (first | (go_at_call 25; refine HP.out.mono ?_; rintro v W ⟨rfl, rfl⟩))
      go_ret
      refine ⟨by rw [HPF.out]; rfl, ?_⟩
      rw [HPF.out]
      refine ⟨More Y W1.heap.size W4, ⟨M4, _, pv4, nx4, HL5.out, ?_⟩, (HK1.out.trans (T := fun k => W1.heap.size ≤ k) (Keep.of_below HB3.out fun k _ hk => hk) fun k hk h1 => ?_).trans HK45.out fun k hk h1 => ?_, fun k hk => ?_⟩
      · rw [HM5.out, List.map_append, HE1.out]
        have : q.1.length = L1.length := by rw [← HE1.out, List.length_map]
        show (q.1 ++ [(⟨f, a, bs, 0, false⟩ : S)]).modify L1.length pin = _
        rw [← this]
        generalize q.1 = l
        induction l with
        | nil => rfl
        | cons x l ih => rw [List.cons_append, List.length_cons, List.modify_succ_cons, ih, List.cons_append]
      · have := HK1.out.size; omega
      · rcases h1 with h1 | h1
        · exact (HY.out k h1).elim id fun h5 => absurd hk (Nat.not_lt_of_le h5)
        · have := HK1.out.size; omega
      · rcases hk with hk | hk
        · exact HY.out k hk
        · exact .inr (by have := HK1.out.size; omega)
end
end Go.Proofs.Ytbeohfmikpbkhaa.Ck
