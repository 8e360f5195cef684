/- The reader of package batch: the head of a batch. -/
import Derived.Test.YtggliedlfccicaaBrd3
import Derived.Test.YtggliedlfccicaaBenc1
namespace Go.Proofs.Ytggliedlfccicaa.Bt
set_option linter.unusedVariables false
set_option linter.unusedSimpArgs false
open Go.RowKit Lift Ik Vn

/-- The head of a batch: the error, Seq, the number of operations. -/
def headL (bs : List Nat) : Nat × Nat × Nat :=
  if bs.length < 12 then (4, 0, 0) else if headN bs < 1 ∨ 100 < headN bs ∨ fits (headS bs) (headN bs) = false then (2, 0, 0) else (0, headS bs, headN bs)
theorem head_lt {bs : List Nat} (h : ∀ x, x ∈ bs → x < 256) : headS bs < 18446744073709551616 ∧ headN bs < 4294967296 := by
  unfold headS headN
  have h1 := num_lt (bs.take 8) fun c hc => h c (List.mem_of_mem_take hc)
  have h2 := num_lt ((bs.drop 8).take 4) fun c hc => h c (List.mem_of_mem_drop (List.mem_of_mem_take hc))
  have p1 : 256 ^ (bs.take 8).length ≤ 256 ^ 8 := Nat.pow_le_pow_right (by decide) (by rw [List.length_take]; omega)
  have p2 : 256 ^ ((bs.drop 8).take 4).length ≤ 256 ^ 4 := Nat.pow_le_pow_right (by decide) (by rw [List.length_take]; omega)
  exact ⟨by omega, by omega⟩

set_option maxRecDepth 100000 in
set_option maxHeartbeats 400000 in
theorem head_short (g : Nat) (A : Option Addr) (n c : Nat) (w : World) (h : Rd w g A n c 0) (hn : n < 12) :
    Calls Try.prog (33) #[.pointer (some ⟨g, 0, none⟩)] w fun e w' => e = .returned (.tuple #[.int .u64 0, .int .u64 0, .int .i64 4]) ∧ Below w.heap.size w w' := by
  have HP := Lib.hid (part_short g A n c 0 12 w h (by omega) (by omega) (by omega) (by omega))
  clear h
  go_enter Try.func33, Try.ntmps33
  go_wp2_with fail
  refine (show Calls Try.prog 37 #[.pointer (some ⟨g, 0, none⟩), .int .i64 12] w _ from HP.out).mono ?_
  rintro e W1 ⟨rfl, hb1, _⟩
  have HB := Lib.hid hb1
  clear hb1 HP
  go_wp2_with fail
  go_returns
  exact ⟨rfl, HB.out⟩

set_option maxRecDepth 100000 in
set_option maxHeartbeats 800000 in
theorem head_rd (g : Nat) (ad : Addr) (c : Nat) (bs : List Nat) (w : World) (h : Rdr w g ad c bs 0) (h12 : 12 ≤ bs.length) :
    Calls Try.prog (33) #[.pointer (some ⟨g, 0, none⟩)] w fun e w' => e = .returned (.tuple #[.int .u64 ((headL bs).2.1 : Int), .int .u64 ((headL bs).2.2 : Int), .int .i64 ((headL bs).1 : Int)]) ∧ Keep (· = g) w w' ∧ Rdr w' g ad c bs 12 := by
  have H := Lib.hid h
  have hcap := h.cap
  have hmax := h.max
  unfold maxLen at hmax
  have HP := Lib.hid (part_ok g ad bs c 0 12 w h.rd h.lies h.cap h.max h.le h.small (by omega))
  obtain ⟨l1, l2⟩ := head_lt h.byte
  have E0 := Lib.hid (show headL bs = if headN bs < 1 ∨ 100 < headN bs ∨ fits (headS bs) (headN bs) = false then (2, 0, 0) else (0, headS bs, headN bs) by unfold headL; rw [if_neg (by omega)])
  clear h
  go_enter Try.func33, Try.ntmps33
  go_wp2_with fail
  refine (show Calls Try.prog 37 #[.pointer (some ⟨g, 0, none⟩), .int .i64 12] w _ from HP.out).mono ?_
  rintro e W1 ⟨ad', rfl, hl1, hk1, hr1⟩
  rw [List.drop_zero] at hl1
  have HK := Lib.hid hk1
  have HR := Lib.hid (H.out.at' hk1 hr1 (by omega))
  have q1 : ∀ W : World, Sem.run Try.prog (Instr.slice 28 (.slice (some ad') 12 c) none (some (.int .i64 8)) none) W = .ok (.slice (some ad') 8 c) W := fun W => by go_simp; intro h; omega
  have q2 : ∀ W : World, Sem.run Try.prog (Instr.slice 28 (.slice (some ad') 12 c) (some (.int .i64 8)) none none) W = .ok (.slice (some ⟨ad'.block, ad'.off + 8, none⟩) 4 (c - 8)) W := fun W => by go_simp; intro h; omega
  have len8 : (bs.take 8).length = 8 := by rw [List.length_take]; omega
  have len4 : ((bs.drop 8).take 4).length = 4 := by rw [List.length_take, List.length_drop]; omega
  have e12 : bs.take 12 = bs.take 8 ++ (bs.drop 8).take 4 := by rw [← List.take_add]
  have L8 : Lies W1 g (some ad') ((bs.take 8).map vb) := hl1.front (by rw [e12, List.map_append]; exact List.prefix_append _ _)
  have L4 : Lies W1 g (some ⟨ad'.block, ad'.off + 8, none⟩) (((bs.drop 8).take 4).map vb) := by
    obtain ⟨_, hA, hab, hcell⟩ := hl1.place (by rw [List.length_map, List.length_take]; omega)
    cases hA
    refine .inr ⟨_, rfl, hab, fun j u hj => ?_⟩
    rw [show (⟨ad'.block, ad'.off + 8, none⟩ : Addr) = ad'.add 8 from rfl, add_add]
    refine hcell _ _ ?_
    rw [e12, List.map_append, List.getElem?_append_right (by rw [List.length_map, len8]; omega), List.length_map, len8]
    rw [← hj]
    congr 1
    omega
  have n8 := fun n => numb_any ad' c g (bs.take 8) (W1.drewN n) (L8.below (Joins.below_draws _ _ _)) (by omega) (by intro h0; rw [h0] at len8; simp at len8) (by omega) (fun x hx => H.out.byte x (List.mem_of_mem_take hx))
  have n4 := fun n => numb_any ⟨ad'.block, ad'.off + 8, none⟩ (c - 8) g ((bs.drop 8).take 4) (W1.drewN n) (L4.below (Joins.below_draws _ _ _)) (by omega) (by intro h0; rw [h0] at len4; simp at len4) (by omega) (fun x hx => H.out.byte x (List.mem_of_mem_drop (List.mem_of_mem_take hx)))
  rw [len8, show num (bs.take 8) = headS bs from rfl] at n8
  rw [len4, show num ((bs.drop 8).take 4) = headN bs from rfl] at n4
  have N8 := Lib.hid n8
  have N4 := Lib.hid n4
  generalize headS bs = s at N8 l1 E0
  generalize headN bs = n at N4 l2 E0
  have NN := Lib.hid (show ∀ (a : Addr) (k cc m : Nat), ((a = ad' ∧ k = 8 ∧ cc = c) ∨ (a = ⟨ad'.block, ad'.off + 8, none⟩ ∧ k = 4 ∧ cc = c - 8)) → Calls Try.prog 38 #[.slice (some a) k cc] (W1.drewN m) (fun e w' => e = .returned (.int .u64 ((if k = 8 then s else n : Nat) : Int)) ∧ w' = W1.drewN m) from by
    rintro a k cc m (⟨rfl, rfl, rfl⟩ | ⟨rfl, rfl, rfl⟩)
    · exact (N8.out m).mono fun e w' hh => ⟨hh.1, hh.2.symm⟩
    · exact (N4.out m).mono fun e w' hh => ⟨hh.1, hh.2.symm⟩)
  clear hl1 hk1 hr1 len8 len4 e12 L8 L4 n8 n4 HP N8 N4
  go_wp2_with fail
  go_quiet (first | (go_at_call 38; refine Calls.quiet_of_same (NN.out _ _ _ _ ?_); first | exact .inl ⟨rfl, rfl, rfl⟩ | exact .inr ⟨rfl, rfl, rfl⟩))
  have HK2 := Lib.hid fun m => (HK.out.trans (below_keep (S := (· = g)) (Joins.below_draws _ W1 m)) fun _ _ h => h)
  have HR2 := Lib.hid fun m => HR.out.at' (w' := W1.drewN m) (below_keep (Joins.below_draws _ W1 m)) HR.out.rd (by omega)
  by_cases h1 : n < 1
  · have E := Lib.hid (show headL bs = (2, 0, 0) by rw [E0.out, if_pos (.inl h1)])
    have d1 : decide ((n : Int) < 1) = true := by simp; omega
    clear h1
    go_wp2_with fail
    go_returns
    exact ⟨by rw [E.out]; rfl, HK2.out _, HR2.out _⟩
  · have d1 : decide ((n : Int) < 1) = false := by simp; omega
    by_cases h2 : 100 < n
    · have E := Lib.hid (show headL bs = (2, 0, 0) by rw [E0.out, if_pos (.inr (.inl h2))])
      have d2 : decide ((100 : Int) < (n : Int)) = true := by simp; omega
      clear h1 h2
      go_wp2_with fail
      go_returns
      exact ⟨by rw [E.out]; rfl, HK2.out _, HR2.out _⟩
    · have d2 : decide ((100 : Int) < (n : Int)) = false := by simp; omega
      have HF := Lib.hid fun W => fits_any s n W l1 ⟨by omega, by omega⟩
      cases hf : fits s n
      · have E := Lib.hid (show headL bs = (2, 0, 0) by rw [E0.out, if_pos (.inr (.inr hf))])
        rw [hf] at HF
        clear h1 h2 hf
        go_wp2_with (go_at_call 20; refine (HF.out _).mono ?_; rintro e w' ⟨rfl, rfl⟩)
        go_returns
        exact ⟨by rw [E.out]; rfl, HK2.out _, HR2.out _⟩
      · have E := Lib.hid (show headL bs = (0, s, n) by rw [E0.out, if_neg (by rw [hf]; intro q; rcases q with q | q | q; omega; omega; cases q)])
        rw [hf] at HF
        clear h1 h2 hf
        go_wp2_with (go_at_call 20; refine (HF.out _).mono ?_; rintro e w' ⟨rfl, rfl⟩)
        go_returns
        exact ⟨by rw [E.out]; rfl, HK2.out _, HR2.out _⟩
end Go.Proofs.Ytggliedlfccicaa.Bt
