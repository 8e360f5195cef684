/- For every row of calls the program's buffers and the document's own answer the same and have the same sizes, and other buffers change nothing: the law answers true for all arguments. -/
import Derived.Test.YtmnhklfljfglhaaBact
import Derived.Test.YtmnhklfljfglhaaRbuf3
import Derived.Test.YtmnhklfljfglhaaRbuf4
import Derived.Test.YtmnhklfljfglhaaRows
import Derived.Deep.DeepCutAuto
import Derived.Deep.CutBlock
namespace Go.Proofs.Ytmnhklfljfglhaa.buffersPlays
set_option linter.unusedVariables false
set_option linter.unusedSimpArgs false
open Go.ChangeShapes Go.WideShapes Go.ChangeAt Go.RowKit Lift Bu

theorem own : ownKnob Try.prog.godebug = none := by kernel_rfl

/-- Three objects beside each other: the program's buffers, other ones, and the document's. -/
def Tri (W : World) (g go gr bu mo : Nat) (f1 : List Nat) (a1 : Nat) (f2 : List Nat) (a2 : Nat) (w : World) : Prop :=
  ∃ (S So Sr : Nat → Prop) (fo : List Nat) (ao : Nat), BU w g S bu mo f1 a1 ∧ BU w go So 9 9 fo ao ∧ RB w gr Sr bu mo f2 a2 ∧ (∀ k, S k ∨ So k ∨ Sr k → W.heap.size ≤ k) ∧ (∀ k, S k → ¬ So k) ∧ (∀ k, S k → ¬ Sr k) ∧ (∀ k, So k → ¬ Sr k) ∧ Below W.heap.size W w
section
variable {W w w' : World} {g go gr bu mo a1 a2 : Nat} {f1 f2 : List Nat}
theorem Tri.bel (h : Tri W g go gr bu mo f1 a1 f2 a2 w) : Below W.heap.size W w := by
  obtain ⟨_, _, _, _, _, _, _, _, _, _, _, _, h⟩ := h
  exact h
theorem Tri.below (h : Tri W g go gr bu mo f1 a1 f2 a2 w) (hb : Below w.heap.size w w') : Tri W g go gr bu mo f1 a1 f2 a2 w' := by
  obtain ⟨S, So, Sr, fo, ao, h1, h2, h3, h4, h5, h6, h7, h8⟩ := h
  exact ⟨S, So, Sr, fo, ao, h1.below hb, h2.below hb, h3.below hb, h4, h5, h6, h7, h8.trans (hb.mono h8.size)⟩
theorem Tri.b (h : Tri W g go gr bu mo f1 a1 f2 a2 w) : ∃ S, BU w g S bu mo f1 a1 ∧ ∀ w' f a, Went w g S bu mo f a w' → Tri W g go gr bu mo f a f2 a2 w' := by
  obtain ⟨S, So, Sr, fo, ao, h1, h2, h3, h4, h5, h6, h7, h8⟩ := h
  refine ⟨S, h1, fun w' f a hw => ?_⟩
  obtain ⟨S', t1, t2, t3⟩ := hw
  refine ⟨S', So, Sr, fo, ao, t1, h2.keep t2 (fun k hk hs => h5 k hs hk), h3.keep t2 (fun k hk hs => h6 k hs hk), fun k hk => ?_, fun k hk ho => ?_, fun k hk ho => ?_, h7, h8.trans (t2.below h8.size fun k hk => h4 k (.inl hk))⟩
  · rcases hk with hk | hk
    · rcases t3 k hk with h | h
      · exact h4 k (.inl h)
      · exact Nat.le_trans h8.size h
    · exact h4 k (.inr hk)
  · rcases t3 k hk with h | h
    · exact h5 k h ho
    · have := h2.lt k ho; omega
  · rcases t3 k hk with h | h
    · exact h6 k h ho
    · have := h3.lt k ho; omega
theorem Tri.o (h : Tri W g go gr bu mo f1 a1 f2 a2 w) : ∃ So fo ao, BU w go So 9 9 fo ao ∧ ∀ w' f a, Went w go So 9 9 f a w' → Tri W g go gr bu mo f1 a1 f2 a2 w' := by
  obtain ⟨S, So, Sr, fo, ao, h1, h2, h3, h4, h5, h6, h7, h8⟩ := h
  refine ⟨So, fo, ao, h2, fun w' f a hw => ?_⟩
  obtain ⟨S', t1, t2, t3⟩ := hw
  refine ⟨S, S', Sr, f, a, h1.keep t2 (fun k hk hs => h5 k hk hs), t1, h3.keep t2 (fun k hk hs => h7 k hs hk), fun k hk => ?_, fun k hk ho => ?_, h6, fun k hk ho => ?_, h8.trans (t2.below h8.size fun k hk => h4 k (.inr (.inl hk)))⟩
  · rcases hk with hk | hk | hk
    · exact h4 k (.inl hk)
    · rcases t3 k hk with h | h
      · exact h4 k (.inr (.inl h))
      · exact Nat.le_trans h8.size h
    · exact h4 k (.inr (.inr hk))
  · rcases t3 k ho with h | h
    · exact h5 k hk h
    · have := h1.lt k hk; omega
  · rcases t3 k hk with h | h
    · exact h7 k h ho
    · have := h3.lt k ho; omega
theorem Tri.r (h : Tri W g go gr bu mo f1 a1 f2 a2 w) : ∃ Sr, RB w gr Sr bu mo f2 a2 ∧ ∀ w' f a, RWent w gr Sr bu mo f a w' → Tri W g go gr bu mo f1 a1 f a w' := by
  obtain ⟨S, So, Sr, fo, ao, h1, h2, h3, h4, h5, h6, h7, h8⟩ := h
  refine ⟨Sr, h3, fun w' f a hw => ?_⟩
  obtain ⟨S', t1, t2, t3⟩ := hw
  refine ⟨S, So, S', fo, ao, h1.keep t2 (fun k hk hs => h6 k hk hs), h2.keep t2 (fun k hk hs => h7 k hk hs), t1, fun k hk => ?_, h5, fun k hk ho => ?_, fun k hk ho => ?_, h8.trans (t2.below h8.size fun k hk => h4 k (.inr (.inr hk)))⟩
  · rcases hk with hk | hk | hk
    · exact h4 k (.inl hk)
    · exact h4 k (.inr (.inl hk))
    · rcases t3 k hk with h | h
      · exact h4 k (.inr (.inr h))
      · exact Nat.le_trans h8.size h
  · rcases t3 k ho with h | h
    · exact h6 k hk h
    · have := h1.lt k hk; omega
  · rcases t3 k ho with h | h
    · exact h7 k hk h
    · have := h2.lt k hk; omega
end
section
variable {W w w' : World} {g go gr bu mo a1 a2 : Nat} {f1 f2 : List Nat}
theorem tri_add (h : Tri W g go gr bu mo f1 a1 f2 a2 w) (n : Int) (hn : -9223372036854775808 ≤ n ∧ n ≤ 9223372036854775807) :
    Calls Try.prog (24) #[.pointer (some ⟨g, 0, none⟩), .int .i64 n] w fun e w' => e = .returned (vi (Bu.ask bu mo f1.length a1 n.toNat)) ∧ Tri W g go gr bu mo (addF bu mo f1 a1 n.toNat) (addA bu mo f1 a1 n.toNat) f2 a2 w' := by
  obtain ⟨S, h1, h2⟩ := h.b
  refine (add_any n hn h1).mono ?_
  rintro e w' ⟨rfl, hw⟩
  exact ⟨rfl, h2 _ _ _ hw⟩
theorem tri_radd (h : Tri W g go gr bu mo f1 a1 f2 a2 w) (n : Int) (hn : -9223372036854775808 ≤ n ∧ n ≤ 9223372036854775807) :
    Calls Try.prog (27) #[.pointer (some ⟨gr, 0, none⟩), .int .i64 n] w fun e w' => e = .returned (vi (Bu.ask bu mo f2.length a2 n.toNat)) ∧ Tri W g go gr bu mo f1 a1 (addF bu mo f2 a2 n.toNat) (addA bu mo f2 a2 n.toNat) w' := by
  obtain ⟨S, h1, h2⟩ := h.r
  refine (radd_any n hn h1).mono ?_
  rintro e w' ⟨rfl, hw⟩
  exact ⟨rfl, h2 _ _ _ hw⟩
theorem tri_oadd (h : Tri W g go gr bu mo f1 a1 f2 a2 w) (n : Int) (hn : -9223372036854775808 ≤ n ∧ n ≤ 9223372036854775807) :
    Calls Try.prog (24) #[.pointer (some ⟨go, 0, none⟩), .int .i64 n] w fun e w' => (∃ v : Nat, e = .returned (vi v)) ∧ Tri W g go gr bu mo f1 a1 f2 a2 w' := by
  obtain ⟨S, fo, ao, h1, h2⟩ := h.o
  refine (add_any n hn h1).mono ?_
  rintro e w' ⟨rfl, hw⟩
  exact ⟨⟨_, rfl⟩, h2 _ _ _ hw⟩
theorem tri_ask (h : Tri W g go gr bu mo f1 a1 f2 a2 w) (n : Int) (hn : -9223372036854775808 ≤ n ∧ n ≤ 9223372036854775807) (m : Nat) :
    Calls Try.prog (25) #[.pointer (some ⟨g, 0, none⟩), .int .i64 n] (w.drewN m) fun e w' => e = .returned (vi (Bu.ask bu mo f1.length a1 n.toNat)) ∧ ∃ m', w' = (w.drewN m).drewN m' := by
  obtain ⟨S, h1, h2⟩ := (h.below (Joins.below_draws _ w m)).b
  exact ask_any n hn h1
theorem tri_rask (h : Tri W g go gr bu mo f1 a1 f2 a2 w) (n : Int) (hn : -9223372036854775808 ≤ n ∧ n ≤ 9223372036854775807) (m : Nat) :
    Calls Try.prog (26) #[.pointer (some ⟨gr, 0, none⟩), .int .i64 n] (w.drewN m) fun e w' => e = .returned (vi (Bu.ask bu mo f2.length a2 n.toNat)) ∧ ∃ m', w' = (w.drewN m).drewN m' := by
  obtain ⟨S, h1, h2⟩ := (h.below (Joins.below_draws _ w m)).r
  exact rask_any n hn h1
theorem tri_seal (h : Tri W g go gr bu mo f1 a1 f2 a2 w) :
    Calls Try.prog (28) #[.pointer (some ⟨g, 0, none⟩)] w fun e w' => e = .returned (.bool (sealB mo f1 a1)) ∧ Tri W g go gr bu mo (if sealB mo f1 a1 = true then f1 ++ [a1] else f1) (if sealB mo f1 a1 = true then 0 else a1) f2 a2 w' := by
  obtain ⟨S, h1, h2⟩ := h.b
  refine (seal_any h1).mono ?_
  rintro e w' ⟨rfl, hw⟩
  exact ⟨rfl, h2 _ _ _ hw⟩
theorem tri_rseal (h : Tri W g go gr bu mo f1 a1 f2 a2 w) :
    Calls Try.prog (29) #[.pointer (some ⟨gr, 0, none⟩)] w fun e w' => e = .returned (.bool (sealB mo f2 a2)) ∧ Tri W g go gr bu mo f1 a1 (if sealB mo f2 a2 = true then f2 ++ [a2] else f2) (if sealB mo f2 a2 = true then 0 else a2) w' := by
  obtain ⟨S, h1, h2⟩ := h.r
  refine (rseal_any h1).mono ?_
  rintro e w' ⟨rfl, hw⟩
  exact ⟨rfl, h2 _ _ _ hw⟩
theorem tri_done (h : Tri W g go gr bu mo f1 a1 f2 a2 w) :
    Calls Try.prog (30) #[.pointer (some ⟨g, 0, none⟩)] w fun e w' => e = .returned (.bool (decide (0 < f1.length))) ∧ Tri W g go gr bu mo f1.tail a1 f2 a2 w' := by
  obtain ⟨S, h1, h2⟩ := h.b
  refine (done_any h1).mono ?_
  rintro e w' ⟨rfl, hw⟩
  exact ⟨rfl, h2 _ _ _ hw⟩
theorem tri_rdone (h : Tri W g go gr bu mo f1 a1 f2 a2 w) :
    Calls Try.prog (31) #[.pointer (some ⟨gr, 0, none⟩)] w fun e w' => e = .returned (.bool (decide (0 < f2.length))) ∧ Tri W g go gr bu mo f1 a1 f2.tail a2 w' := by
  obtain ⟨S, h1, h2⟩ := h.r
  refine (rdone_any h1).mono ?_
  rintro e w' ⟨rfl, hw⟩
  exact ⟨rfl, h2 _ _ _ hw⟩
/-- A slice of whole numbers in new memory. -/
def Nums (w : World) (n : Nat) (K : List Nat) (e : Ending) (w' : World) : Prop := ∃ A c, e = .returned (.slice A n c) ∧ Lies w' w'.heap.size A (K.map vi) ∧ Below w.heap.size w w'
theorem tri_sizes (h : Tri W g go gr bu mo f1 a1 f2 a2 w) (n : Nat) (hn : n = (f1 ++ [a1]).length) : Calls Try.prog (33) #[.pointer (some ⟨g, 0, none⟩)] w (Nums w n (f1 ++ [a1])) := by
  subst hn
  obtain ⟨S, h1, h2⟩ := h.b
  refine (sizes_any h1).mono ?_
  rintro e w' ⟨v, rfl, ho, hb⟩
  obtain ⟨A, c, rfl, -, -, hl⟩ := own_parts ho
  exact ⟨A, c, rfl, hl, hb⟩
theorem tri_rsizes (h : Tri W g go gr bu mo f1 a1 f2 a2 w) (n : Nat) (hn : n = (f2 ++ [a2]).length) : Calls Try.prog (34) #[.pointer (some ⟨gr, 0, none⟩)] w (Nums w n (f2 ++ [a2])) := by
  subst hn
  obtain ⟨S, h1, h2⟩ := h.r
  refine (rsizes_any h1).mono ?_
  rintro e w' ⟨v, rfl, ho, hb⟩
  obtain ⟨A, c, rfl, -, -, hl⟩ := own_parts ho
  exact ⟨A, c, rfl, hl, hb⟩
theorem tri_bytes (h : Tri W g go gr bu mo f1 a1 f2 a2 w) : Calls Try.prog (35) #[.pointer (some ⟨g, 0, none⟩)] w fun e w' => e = .returned (vi (f1 ++ [a1]).sum) ∧ w = w' := by
  obtain ⟨S, h1, h2⟩ := h.b
  exact bytes_any h1
theorem tri_rbytes (h : Tri W g go gr bu mo f1 a1 f2 a2 w) : Calls Try.prog (36) #[.pointer (some ⟨gr, 0, none⟩)] w fun e w' => e = .returned (vi (f2 ++ [a2]).sum) ∧ w = w' := by
  obtain ⟨S, h1, h2⟩ := h.r
  exact rbytes_any h1
theorem same_at {w : World} {B B' c c' n : Nat} {A A' : Option Addr} {xs : List Nat} (h1 : Lies w B A (xs.map vi)) (h2 : Lies w B' A' (xs.map vi)) (hx : n = xs.length) (hn : n ≤ 1000) :
    Calls Try.prog 32 #[.slice A n c, .slice A' n c'] w fun e w' => e = .returned (.bool true) ∧ ∃ m, w' = w.drewN m := by
  subst hx
  exact same_ints h1 h2 hn
end
set_option maxRecDepth 100000 in
set_option maxHeartbeats 3200000 in
theorem walk (a b : Int) (A : Option Addr) (c : Nat) (L : List Ac) (W : World) (ha : -9223372036854775808 ≤ a ∧ a ≤ 9223372036854775807) (hb : -9223372036854775808 ≤ b ∧ b ≤ 9223372036854775807) (hL : Acts W W.heap.size A c L) (hn : L.length ≤ 100) :
    Calls Try.prog 4 #[.int .i64 a, .int .i64 b, .slice A L.length c] W (Yes W) := by
  have HL := Lib.hid hL
  have hlc := hL.len
  have hcm := hL.cap
  unfold maxLen at hcm
  clear hL
  go_enter Try.func4, Try.ntmps4
  go_wp2_with fail
  refine (alive_any _).mono ?_
  rintro e W1 ⟨rfl, hb1'⟩
  have HB1 := Lib.hid hb1'
  clear hb1'
  go_wp2_with fail
  refine (new_any a b ha hb W1).mono ?_
  rintro e W2 ⟨rfl, hbu2, hb2⟩
  have HBU2 := Lib.hid hbu2
  have HB2 := Lib.hid hb2
  clear hbu2 hb2
  go_wp2_with fail
  refine (show Calls Try.prog 22 #[.int .i64 9, .int .i64 9] W2 _ from new_any 9 9 (by decide) (by decide) W2).mono ?_
  rintro e W3 ⟨rfl, hbu3, hb3⟩
  rw [show lim 9 1073741824 = 9 from by decide, show lim 9 100 = 9 from by decide] at hbu3
  have HBU3 := Lib.hid hbu3
  have HB3 := Lib.hid hb3
  clear hbu3 hb3
  go_wp2_with fail
  refine (rnew_any a b W3).mono ?_
  rintro e W4 ⟨gr, rfl, hrb, hb4⟩
  have HT : Hid (Tri W W1.heap.size W2.heap.size gr (lim a 1073741824) (lim b 100) [] 0 [] 0 W4) := Lib.hid (by
    have l2 := HBU2.out.lt _ rfl
    have l3 := HBU3.out.lt _ rfl
    have s1 := HB1.out.size
    have s2 := HB2.out.size
    have s3 := HB3.out.size
    have b23 : Below W2.heap.size W2 W4 := HB3.out.trans (hb4.mono s3)
    refine ⟨(· = W1.heap.size), (· = W2.heap.size), _, [], 0, HBU2.out.below b23, HBU3.out.below hb4, hrb, fun k hk => ?_, fun k hk ho => ?_, fun k hk ho => ?_, fun k hk ho => ?_, HB1.out.trans ((HB2.out.trans (b23.mono s2)).mono s1)⟩
    · rcases hk with hk | hk | hk <;> omega
    · omega
    · have := ho.1; omega
    · have := ho.1; omega)
  clear hrb hb4 HBU2 HBU3 HB2 HB3 HB1 ha hb
  generalize W1.heap.size = g at HT ⊢
  generalize W2.heap.size = go at HT ⊢
  generalize lim a 1073741824 = bu at HT ⊢
  generalize lim b 100 = mo at HT ⊢
  clear W1 W2 W3
  go_wp2_with fail
  go_loopw [11] (fun i wr => ∃ (j ac : Nat) (fs : List Nat), j ≤ L.length ∧ i = .int .i64 (j : Int) ∧ Hid (Tri W g go gr bu mo fs ac fs ac wr)) (fun i _ => L.length + 1 - (intOf i).toNat)
  case atStart => exact ⟨0, 0, [], Nat.zero_le _, rfl, HT⟩
  case round =>
    obtain ⟨j, ac, fs, hj, rfl, ht⟩ := hrel
    clear HT
    by_cases hlt : j < L.length
    · obtain ⟨d, hd⟩ : ∃ d, L[j]? = some d := ⟨_, List.getElem?_eq_getElem hlt⟩
      obtain ⟨ad, p, rfl, hp, hcells⟩ := HL.out.place hd
      have hok := HL.out.ok d (List.mem_of_getElem? hd)
      have hdn := i64_of hok.w1
      have hdw := i64_of hok.w0
      have HC := Lib.hid hcells
      have HO := Lib.hid (tri_oadd ht.out 3 (by decide))
      clear hd hok hcells
      go_wp2_with fail
      refine HO.out.mono ?_
      rintro e W5 ⟨⟨vo, rfl⟩, ht5⟩
      obtain ⟨q0, q1⟩ := HC.out W5 ht5.bel
      have HT5 := Lib.hid ht5
      clear ht5 HO
      go_upto_block 2 with fail
      go_cut [] (fun wx => ∃ (ac' : Nat) (fs' : List Nat), Tri W g go gr bu mo fs' ac' fs' ac' wx)
      case first =>
        by_cases hw0 : d.way = 0
        · have e0 : (d.way == 0) = true := by rw [beq_iff_eq]; exact hw0
          have HQ1 : Hid (∀ m, Calls Try.prog (25) #[.pointer (some ⟨g, 0, none⟩), .int .i64 d.n] (W5.drewN m) fun e w' => e = .returned (.int .i64 ((Bu.ask bu mo fs.length ac d.n.toNat : Nat) : Int)) ∧ ∃ m', w' = (W5.drewN m).drewN m') := Lib.hid (tri_ask HT5.out d.n hdn)
          have HQ2 : Hid (∀ m, Calls Try.prog (26) #[.pointer (some ⟨gr, 0, none⟩), .int .i64 d.n] (W5.drewN m) fun e w' => e = .returned (.int .i64 ((Bu.ask bu mo fs.length ac d.n.toNat : Nat) : Int)) ∧ ∃ m', w' = (W5.drewN m).drewN m') := Lib.hid (tri_rask HT5.out d.n hdn)
          generalize Bu.ask bu mo fs.length ac d.n.toNat = v at HQ1 HQ2
          clear hw0
          go_wp2_with fail
          go_quiet (first | (go_at_call 25; refine Calls.quiet_of (HQ1.out _)) | (go_at_call 26; refine Calls.quiet_of (HQ2.out _)))
          go_wp2_with fail
          go_meet
          exact ⟨_, _, HT5.out.below (Joins.below_draws _ _ _)⟩
        · have e0 : (d.way == 0) = false := by rw [beq_eq_false_iff_ne]; exact hw0
          by_cases hw1 : d.way = 1
          · have e1 : (d.way == 1) = true := by rw [beq_iff_eq]; exact hw1
            clear hw0 hw1
            go_upto_region 16 with fail
            refine wp_region_held_drew (S := fun w' => Hid (Below W.heap.size W w')) (by kernel_rfl) (Lib.hid HT5.out.bel.drew) (fun hS => ?_)
            refine wpAnyH_take (i := 0) (v := ?_) rfl (by kernel_rfl) (by kernel_rfl) (by kernel_rfl) (fun _ _ _ h => h) (Or.inl ⟨by rfl, ?_⟩) hS ?_
            rotate_left
            · intro w hw
              go_simp
              try with_reducible rfl
            try simp only [Act.put, List.getElem_toArray, List.getElem_cons_succ, List.getElem_cons_zero, List.setIfInBounds_toArray, List.set_cons_zero, List.set_cons_succ]
            refine wpAnyH_take (i := 1) (v := ?_) rfl (by kernel_rfl) (by kernel_rfl) (by kernel_rfl) (fun _ _ _ h => h) (Or.inl ⟨by rfl, ?_⟩) hS ?_
            rotate_left
            · intro w hw
              go_simp
              try with_reducible rfl
            try simp only [Act.put, List.getElem_toArray, List.getElem_cons_succ, List.getElem_cons_zero, List.setIfInBounds_toArray, List.set_cons_zero, List.set_cons_succ]
            refine wpAnyH_take (i := 2) (v := ?_) rfl (by kernel_rfl) (by kernel_rfl) (by kernel_rfl) (fun _ _ _ h => h) (Or.inl ⟨by rfl, ?_⟩) hS ?_
            rotate_left
            · intro w hw
              go_simp
              try with_reducible rfl
            try simp only [Act.put, List.getElem_toArray, List.getElem_cons_succ, List.getElem_cons_zero, List.setIfInBounds_toArray, List.set_cons_zero, List.set_cons_succ]
            refine wpAnyH_take (i := 3) (v := ?_) rfl (by kernel_rfl) (by kernel_rfl) (by kernel_rfl) (fun _ _ _ h => h) (Or.inl ⟨by rfl, ?_⟩) hS ?_
            rotate_left
            · intro w hw
              go_simp
              try with_reducible rfl
            try simp only [Act.put, List.getElem_toArray, List.getElem_cons_succ, List.getElem_cons_zero, List.setIfInBounds_toArray, List.set_cons_zero, List.set_cons_succ]
            refine wpAnyH_take (i := 4) (v := ?_) rfl (by kernel_rfl) (by kernel_rfl) (by kernel_rfl) (fun _ _ _ h => h) (Or.inl ⟨by rfl, ?_⟩) hS ?_
            rotate_left
            · intro w hw
              go_simp
              try with_reducible rfl
            try simp only [Act.put, List.getElem_toArray, List.getElem_cons_succ, List.getElem_cons_zero, List.setIfInBounds_toArray, List.set_cons_zero, List.set_cons_succ]
            refine wpAnyH_take (i := 5) (v := ?_) rfl (by kernel_rfl) (by kernel_rfl) (by kernel_rfl) (fun _ _ _ h => h) (Or.inl ⟨by rfl, ?_⟩) hS ?_
            rotate_left
            · intro w hw
              obtain ⟨q0, q1⟩ := HC.out w hw.out
              go_simp
              try with_reducible rfl
            try simp only [Act.put, List.getElem_toArray, List.getElem_cons_succ, List.getElem_cons_zero, List.setIfInBounds_toArray, List.set_cons_zero, List.set_cons_succ]
            refine wpAnyH_take (i := 7) (v := ?_) rfl (by kernel_rfl) (by kernel_rfl) (by kernel_rfl) (fun _ _ _ h => h) (Or.inl ⟨by rfl, ?_⟩) hS ?_
            rotate_left
            · intro w hw
              go_simp
              try with_reducible rfl
            try simp only [Act.put, List.getElem_toArray, List.getElem_cons_succ, List.getElem_cons_zero, List.setIfInBounds_toArray, List.set_cons_zero, List.set_cons_succ]
            refine wpAnyH_take (i := 8) (v := ?_) rfl (by kernel_rfl) (by kernel_rfl) (by kernel_rfl) (fun _ _ _ h => h) (Or.inl ⟨by rfl, ?_⟩) hS ?_
            rotate_left
            · intro w hw
              go_simp
              try with_reducible rfl
            try simp only [Act.put, List.getElem_toArray, List.getElem_cons_succ, List.getElem_cons_zero, List.setIfInBounds_toArray, List.set_cons_zero, List.set_cons_succ]
            refine wpAnyH_take (i := 9) (v := ?_) rfl (by kernel_rfl) (by kernel_rfl) (by kernel_rfl) (fun _ _ _ h => h) (Or.inl ⟨by rfl, ?_⟩) hS ?_
            rotate_left
            · intro w hw
              go_simp
              try with_reducible rfl
            try simp only [Act.put, List.getElem_toArray, List.getElem_cons_succ, List.getElem_cons_zero, List.setIfInBounds_toArray, List.set_cons_zero, List.set_cons_succ]
            refine wpAnyH_take (i := 10) (v := ?_) rfl (by kernel_rfl) (by kernel_rfl) (by kernel_rfl) (fun _ _ _ h => h) (Or.inl ⟨by rfl, ?_⟩) hS ?_
            rotate_left
            · intro w hw
              go_simp
              try with_reducible rfl
            try simp only [Act.put, List.getElem_toArray, List.getElem_cons_succ, List.getElem_cons_zero, List.setIfInBounds_toArray, List.set_cons_zero, List.set_cons_succ]
            refine wpAnyH_take (i := 11) (v := ?_) rfl (by kernel_rfl) (by kernel_rfl) (by kernel_rfl) (fun _ _ _ h => h) (Or.inl ⟨by rfl, ?_⟩) hS ?_
            rotate_left
            · intro w hw
              go_simp
              try with_reducible rfl
            try simp only [Act.put, List.getElem_toArray, List.getElem_cons_succ, List.getElem_cons_zero, List.setIfInBounds_toArray, List.set_cons_zero, List.set_cons_succ]
            refine wpAnyH_take (i := 12) (v := ?_) rfl (by kernel_rfl) (by kernel_rfl) (by kernel_rfl) (fun _ _ _ h => h) (Or.inl ⟨by rfl, ?_⟩) hS ?_
            rotate_left
            · intro w hw
              obtain ⟨q0, q1⟩ := HC.out w hw.out
              go_simp
              try with_reducible rfl
            try simp only [Act.put, List.getElem_toArray, List.getElem_cons_succ, List.getElem_cons_zero, List.setIfInBounds_toArray, List.set_cons_zero, List.set_cons_succ]
            have HT6 : Hid (Tri W g go gr bu mo fs ac fs ac W5.drew) := Lib.hid (HT5.out.below (Below.refl _ _).drew)
            generalize W5.drew = w6 at hS HT6 ⊢
            refine wpAnyH_ready (rs := [6]) (by kernel_rfl) (by simp) ?_
            refine (AllReadyH.cons rfl (fun K hK => ?_) AllReadyH.nil)
            go_simp
            refine (tri_add HT6.out d.n hdn).mono ?_
            rintro e WA ⟨rfl, ht'⟩
            have HWA := Lib.hid ht'
            clear ht'
            refine hK.out _ _ (Lib.hid HWA.out.bel) (fun hS => ?_)
            clear hK K
            try simp only [Act.put, List.getElem_toArray, List.getElem_cons_succ, List.getElem_cons_zero, List.setIfInBounds_toArray, List.set_cons_zero, List.set_cons_succ]
            refine wpAnyH_ready (rs := [13]) (by kernel_rfl) (by simp) ?_
            refine (AllReadyH.cons rfl (fun K hK => ?_) AllReadyH.nil)
            go_simp
            refine (tri_radd HWA.out d.n hdn).mono ?_
            rintro e WB ⟨rfl, ht'⟩
            have HWB := Lib.hid ht'
            clear ht'
            refine hK.out _ _ (Lib.hid HWB.out.bel) (fun hS => ?_)
            clear hK K
            try simp only [Act.put, List.getElem_toArray, List.getElem_cons_succ, List.getElem_cons_zero, List.setIfInBounds_toArray, List.set_cons_zero, List.set_cons_succ]
            refine wpAnyH_take (i := 14) (v := ?_) rfl (by kernel_rfl) (by kernel_rfl) (by kernel_rfl) (fun _ _ _ h => h) (Or.inl ⟨by rfl, ?_⟩) hS ?_
            rotate_left
            · intro w hw
              go_simp
              try with_reducible rfl
            try simp only [Act.put, List.getElem_toArray, List.getElem_cons_succ, List.getElem_cons_zero, List.setIfInBounds_toArray, List.set_cons_zero, List.set_cons_succ]
            refine wpAnyH_done (by kernel_rfl) ?_ _
            go_wp2_with fail
            go_meet
            exact ⟨_, _, HWB.out⟩
          · have e1 : (d.way == 1) = false := by rw [beq_eq_false_iff_ne]; exact hw1
            by_cases hw2 : d.way = 2
            · have e2 : (d.way == 2) = true := by rw [beq_iff_eq]; exact hw2
              have HQ1 := Lib.hid (tri_seal HT5.out)
              clear hw0 hw1 hw2
              go_wp2_with fail
              refine HQ1.out.mono ?_
              rintro e W6 ⟨rfl, ht6⟩
              have HQ2 := Lib.hid (tri_rseal ht6)
              generalize sealB mo fs ac = s at HQ2 ⊢
              clear ht6
              go_wp2_with fail
              refine HQ2.out.mono ?_
              rintro e W7 ⟨rfl, ht7⟩
              have HT7 := Lib.hid ht7
              clear ht7
              rcases s
              · go_wp2_with fail
                go_meet
                exact ⟨_, _, HT7.out⟩
              · go_wp2_with fail
                go_meet
                exact ⟨_, _, HT7.out⟩
            · have e2 : (d.way == 2) = false := by rw [beq_eq_false_iff_ne]; exact hw2
              by_cases hw3 : d.way = 3
              · have e3 : (d.way == 3) = true := by rw [beq_iff_eq]; exact hw3
                have HQ1 := Lib.hid (tri_done HT5.out)
                clear hw0 hw1 hw2 hw3
                go_wp2_with fail
                refine HQ1.out.mono ?_
                rintro e W6 ⟨rfl, ht6⟩
                have HQ2 := Lib.hid (tri_rdone ht6)
                generalize decide (0 < fs.length) = s at HQ2 ⊢
                clear ht6
                go_wp2_with fail
                refine HQ2.out.mono ?_
                rintro e W7 ⟨rfl, ht7⟩
                have HT7 := Lib.hid ht7
                clear ht7
                rcases s
                · go_wp2_with fail
                  go_meet
                  exact ⟨_, _, HT7.out⟩
                · go_wp2_with fail
                  go_meet
                  exact ⟨_, _, HT7.out⟩
              · have e3 : (d.way == 3) = false := by rw [beq_eq_false_iff_ne]; exact hw3
                clear hw0 hw1 hw2 hw3
                go_wp2_with fail
                go_meet
                exact ⟨_, _, HT5.out⟩
      case rest =>
      obtain ⟨ac1, fs1, ht1⟩ := hcut
      obtain ⟨n, hnn⟩ : ∃ n, n = (fs1 ++ [ac1]).length := ⟨_, rfl⟩
      have hn1 : n ≤ 1000 := by
        obtain ⟨S, h1, h2⟩ := ht1.b
        have := h1.ok.len
        have := h1.ok.m2
        rw [hnn, List.length_append]
        simp
        omega
      have HQ1 := Lib.hid (tri_sizes ht1 n hnn)
      have HT1 := Lib.hid ht1
      have HNN := Lib.hid hnn
      have HN1 := Lib.hid hn1
      clear ht1 hnn hn1 HT5 q0 q1
      go_wp2_with fail
      refine HQ1.out.mono ?_
      rintro e W6 ⟨A6, c6, rfl, hl6, hb6⟩
      have HL6 := Lib.hid hl6
      have HT6 := Lib.hid (HT1.out.below hb6)
      clear hl6 hb6 HQ1 HT1
      go_wp2_with fail
      refine (tri_rsizes HT6.out n HNN.out).mono ?_
      rintro e W7 ⟨A7, c7, rfl, hl7, hb7⟩
      have HT7 := Lib.hid (HT6.out.below hb7)
      have HSM := Lib.hid (same_at (w := W7) (c := c6) (c' := c7) (HL6.out.below hb7) hl7 HNN.out HN1.out)
      clear hl7 hb7 HT6 HL6
      go_wp2_with fail
      refine HSM.out.mono ?_
      rintro e W8 ⟨rfl, m, rfl⟩
      have HT8 := Lib.hid (HT7.out.below (Joins.below_draws _ W7 m))
      clear HT7 HSM
      go_wp2_with fail
      refine (tri_bytes HT8.out).mono ?_
      rintro e w' ⟨rfl, rfl⟩
      have HQ9 : Hid (Calls Try.prog (36) #[.pointer (some ⟨gr, 0, none⟩)] (W7.drewN m) fun e w' => e = .returned (.int .i64 (((fs1 ++ [ac1]).sum : Nat) : Int)) ∧ W7.drewN m = w') := Lib.hid (tri_rbytes HT8.out)
      unfold vi
      generalize (fs1 ++ [ac1]).sum = sm at HQ9 ⊢
      go_wp2_with fail
      refine HQ9.out.mono ?_
      rintro e w' ⟨rfl, rfl⟩
      go_wp2_with fail
      go_roundw
      case rel => exact ⟨j + 1, _, _, by omega, by go_num, HT8⟩
      case measure => simp [intOf]; omega
    · obtain rfl : j = L.length := by omega
      have HB := Lib.hid ht.out.bel
      go_wp2_with fail
      go_ret
      exact ⟨rfl, HB.out⟩
set_option maxRecDepth 100000 in
set_option maxHeartbeats 800000 in
theorem walk_no (a b : Int) (A : Option Addr) (n c : Nat) (W : World) (h : ¬ n ≤ 100) (hn : n ≤ c) (hm : c ≤ maxLen) :
    Calls Try.prog 4 #[.int .i64 a, .int .i64 b, .slice A n c] W (Yes W) := by
  unfold maxLen at hm
  go_enter Try.func4, Try.ntmps4
  go_wp2_with fail
  refine (alive_any _).mono ?_
  rintro e W1 ⟨rfl, hb1'⟩
  have HB1 := Lib.hid hb1'
  have e0 : decide (100 < n) = true := decide_eq_true (by omega)
  have e0' : (100 : Int) < (n : Int) := by omega
  clear hb1' h
  go_wp2_with fail
  go_ret
  exact ⟨rfl, HB1.out⟩

set_option maxRecDepth 100000 in
theorem lifted (os : Os) (started : os.Started) (H : Type) (enc : TypeId × Value → H) :
    ReturnsInHanded {} Try.checked os 4 .any (Rows.buffersPlaysSpec.pre6 enc Try.prog Try.f4 Rows.buffersPlaysRow.domain false) (Rows.buffersPlaysSpec.post enc Try.prog Try.f4 false true false false) := by
  refine lift_true (C := Try.checked) own started (by kernel_rfl) Try.func4
    (ChangeSpec.witness6 (enc := enc) (C := Try.checked) false ⟨#[], #[.int .i64 0, .int .i64 0, .slice none 0 0], []⟩ 8 (by kernel_rfl) (by kernel_rfl) (by kernel_rfl) (by kernel_rfl))
    (by kernel_rfl) (by kernel_rfl) (by kernel_rfl) Try.underlying4 rfl ?_ ?_
  · intro ds hds
    match ds, hds with
    | [d1, d2, d3], _ => exact ⟨rfl, rfl, rfl⟩
  · intro W base args ds p hval0 hA0 hlt _
    have hval : ∀ (j : Nat) t v, Try.f4.params[j]? = some t → args[j]? = some v → Value.okWide Try.prog W .any base t v := hval0
    have hA : DataW.TrodAll enc Try.prog W 0 (fun _ => true) true Try.f4.params.toList args.toList ds p := hA0
    rw [Try.params4] at hA hval
    obtain ⟨v0, vs0, d0, ds0, p0, q0, hargs, rfl, rfl, h0, r0⟩ := trodAll_cons hA
    obtain ⟨v1, vs1, d1, ds1, p1, q1, rfl, rfl, rfl, h1, r1⟩ := trodAll_cons r0
    obtain ⟨v2, vs2, d2, ds2, p2, q2, rfl, rfl, rfl, h2, r2⟩ := trodAll_cons r1
    obtain ⟨rfl, rfl, rfl⟩ := trodAll_nil r2
    obtain rfl : args = #[v0, v1, v2] := by cases args; simp_all
    obtain ⟨a0, rfl, rfl, rfl, w0⟩ := open_int Try.underlying3 (hval 0 _ v0 rfl rfl) h0
    have b0 := i64_of w0
    obtain ⟨a1, rfl, rfl, rfl, w1⟩ := open_int Try.underlying3 (hval 1 _ v1 rfl rfl) h1
    have b1 := i64_of w1
    obtain ⟨A2, c2, L2, rfl, hE2⟩ := Bu.open_acts (hval 2 _ v2 rfl rfl) h2 (fun x hx => hlt x (by simp [hx]))
    by_cases h : L2.length ≤ 100
    · exact walk a0 a1 A2 c2 L2 W b0 b1 hE2 h
    · exact walk_no a0 a1 A2 L2.length c2 W h hE2.len hE2.cap

theorem over : Rows.buffersPlaysRow.holds Try.pinned (OpenSpec.ofChange Rows.buffersPlaysSpec) :=
  OpenClaim.holds_of_wide 4 Try.f4 rfl rfl rfl rfl rfl rfl rfl ⟨rfl, rfl, rfl, rfl, rfl⟩ rfl rfl rfl rfl rfl (by kernel_rfl) Try.func4 (by kernel_rfl)
    (of_decide_eq_true (by kernel_rfl)) (by unfold Func.isWrapper; first | (rw [if_pos (by decide +kernel)]; kernel_rfl) | (rw [if_neg (by decide +kernel)]; exact ⟨rfl, rfl⟩))
    (fun os started H enc _ => lifted os started H enc)

theorem proved : Rows.BuffersPlaysSaid :=
  over
#print axioms proved
end Go.Proofs.Ytmnhklfljfglhaa.buffersPlays
