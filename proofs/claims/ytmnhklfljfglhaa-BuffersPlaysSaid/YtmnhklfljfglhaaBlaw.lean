/- What the laws of buffers share: the document's example; slices of whole numbers that are the same. -/
import Derived.Test.YtmnhklfljfglhaaBuf3
namespace Go.Proofs.Ytmnhklfljfglhaa.Bu
set_option linter.unusedVariables false
set_option linter.unusedSimpArgs false
open Go.RowKit Lift Ik
/-- A law answers true, and nothing old has changed. -/
def Yes (w : World) (e : Ending) (w' : World) : Prop := e = .returned (.bool true) ∧ Below w.heap.size w w'
/-- Buffers of the call's own. -/
def Own (w0 : World) (g bu mo : Nat) (fs : List Nat) (ac : Nat) (w : World) : Prop := ∃ S : Nat → Prop, BU w g S bu mo fs ac ∧ Below w0.heap.size w0 w ∧ ∀ k, S k → w0.heap.size ≤ k
theorem Own.below {w0 w w' : World} {g bu mo ac : Nat} {fs : List Nat} (h : Own w0 g bu mo fs ac w) (hb : Below w.heap.size w w') : Own w0 g bu mo fs ac w' := by
  obtain ⟨S, h1, h2, h3⟩ := h
  exact ⟨S, h1.below hb, h2.trans (hb.mono h2.size), h3⟩
theorem own_went {w0 w w' : World} {g bu mo ac : Nat} {S : Nat → Prop} {fs : List Nat} (hb : Below w0.heap.size w0 w) (hS : ∀ k, S k → w0.heap.size ≤ k) (hw : Went w g S bu mo fs ac w') : Own w0 g bu mo fs ac w' := by
  obtain ⟨S', h1, h2, h3⟩ := hw
  exact ⟨S', h1, hb.trans (h2.below hb.size hS), fun k hk => (h3 k hk).elim (hS k) fun h => Nat.le_trans hb.size h⟩
theorem own_new {w w' : World} {g bu mo ac : Nat} {fs : List Nat} (h : BU w' g (· = g) bu mo fs ac) (hg : w.heap.size = g) (hb : Below w.heap.size w w') : Own w g bu mo fs ac w' := ⟨_, h, hb, fun k hk => by rw [hk, hg]; exact Nat.le_refl _⟩
theorem lim_same {n m : Nat} (h1 : 1 ≤ n) (h2 : n ≤ m) : lim (n : Int) m = n := by unfold lim; omega
theorem Own.add {w0 w : World} {g bu mo ac : Nat} {fs : List Nat} (h : Own w0 g bu mo fs ac w) (n : Int) (hn : -9223372036854775808 ≤ n ∧ n ≤ 9223372036854775807) :
    Calls Try.prog (24) #[.pointer (some ⟨g, 0, none⟩), .int .i64 n] w fun e w' => e = .returned (vi (ask bu mo fs.length ac n.toNat)) ∧ Own w0 g bu mo (addF bu mo fs ac n.toNat) (addA bu mo fs ac n.toNat) w' := by
  obtain ⟨S, h1, h2, h3⟩ := h
  refine (add_any n hn h1).mono ?_
  rintro e w' ⟨rfl, hw⟩
  exact ⟨rfl, own_went h2 h3 hw⟩
theorem Own.ask {w0 w : World} {g bu mo ac : Nat} {fs : List Nat} (h : Own w0 g bu mo fs ac w) (n : Int) (hn : -9223372036854775808 ≤ n ∧ n ≤ 9223372036854775807) :
    Calls Try.prog (25) #[.pointer (some ⟨g, 0, none⟩), .int .i64 n] w fun e w' => e = .returned (vi (Bu.ask bu mo fs.length ac n.toNat)) ∧ ∃ m, w' = w.drewN m := by
  obtain ⟨S, h1, h2, h3⟩ := h
  exact ask_any n hn h1
theorem Own.bytes {w0 w : World} {g bu mo ac : Nat} {fs : List Nat} (h : Own w0 g bu mo fs ac w) :
    Calls Try.prog (35) #[.pointer (some ⟨g, 0, none⟩)] w fun e w' => e = .returned (vi (fs ++ [ac]).sum) ∧ w = w' := by
  obtain ⟨S, h1, h2, h3⟩ := h
  exact bytes_any h1
set_option maxRecDepth 100000 in
set_option maxHeartbeats 800000 in
theorem alive_any (w : World) : Calls Try.prog 21 #[] w (Yes w) := by
  have HN := Lib.hid (new_any 4 1 (by decide) (by decide) w)
  rw [show lim 4 1073741824 = 4 from by decide, show lim 1 100 = 1 from by decide] at HN
  go_enter Try.func21, Try.ntmps21
  go_wp2_with fail
  refine HN.out.mono ?_
  rintro e W1 ⟨rfl, hb1, hb⟩
  have HO := Lib.hid (own_new hb1 rfl hb)
  have H1 := Lib.hid (HO.out.ask 5 (by decide))
  rw [show vi (ask 4 1 ([] : List Nat).length 0 (5 : Int).toNat) = .int .i64 2 from rfl] at H1
  have H2 := Lib.hid (fun m => (HO.out.below (Joins.below_draws _ W1 m)).add 3 (by decide))
  rw [show vi (ask 4 1 ([] : List Nat).length 0 (3 : Int).toNat) = .int .i64 0 from rfl, show addF 4 1 [] 0 (3 : Int).toNat = [] from by decide, show addA 4 1 [] 0 (3 : Int).toNat = 3 from by decide] at H2
  clear hb1 hb HN
  go_wp2_with fail
  refine H1.out.mono ?_
  rintro e w' ⟨rfl, m, rfl⟩
  go_wp2_with fail
  refine (H2.out m).mono ?_
  rintro e W2 ⟨rfl, ho2⟩
  have HO2 := Lib.hid ho2
  have H3 := Lib.hid ho2.bytes
  rw [show vi (([] ++ [3] : List Nat)).sum = .int .i64 3 from rfl] at H3
  clear ho2
  go_wp2_with fail
  refine H3.out.mono ?_
  rintro e w' ⟨rfl, rfl⟩
  go_wp2_with fail
  go_ret
  obtain ⟨_, _, h, _⟩ := HO2.out
  exact ⟨rfl, h⟩
set_option maxRecDepth 100000 in
set_option maxHeartbeats 800000 in
theorem same_ints {w : World} {B B' c c' : Nat} {A A' : Option Addr} {xs : List Nat} (h1 : Lies w B A (xs.map vi)) (h2 : Lies w B' A' (xs.map vi)) (hn : xs.length ≤ 1000) :
    Calls Try.prog 32 #[.slice A xs.length c, .slice A' xs.length c'] w fun e w' => e = .returned (.bool true) ∧ ∃ m, w' = w.drewN m := by
  have H1 := Lib.hid h1
  have H2 := Lib.hid h2
  clear h1 h2
  go_enter Try.func32, Try.ntmps32
  go_wp2_with fail
  go_loopw [5] (fun i wr => ∃ j n : Nat, j ≤ xs.length ∧ i = .int .i64 j ∧ Hid (wr = w.drewN n)) (fun i _ => xs.length + 1 - (intOf i).toNat)
  case atStart => exact ⟨0, 0, by omega, rfl, Lib.hid rfl⟩
  case round =>
    obtain ⟨j, n, hj, rfl, hd⟩ := hrel
    by_cases hlt : j < xs.length
    · obtain ⟨a1, e1, _, g1⟩ := H1.out.place (by simp; omega)
      obtain ⟨a2, e2, _, g2⟩ := H2.out.place (by simp; omega)
      subst e1
      subst e2
      obtain ⟨x, hx⟩ : ∃ x : Nat, xs[j]? = some x := ⟨_, List.getElem?_eq_getElem hlt⟩
      have d1 : wr.cell? (a1.add j) = some (.int .i64 (x : Int)) := by rw [hd.out]; exact g1 j _ (by rw [List.getElem?_map, hx]; rfl)
      have d2 : wr.cell? (a2.add j) = some (.int .i64 (x : Int)) := by rw [hd.out]; exact g2 j _ (by rw [List.getElem?_map, hx]; rfl)
      clear g1 g2 hx
      go_wp2_with fail
      go_quiet (fail)
      go_wp2_with fail
      go_roundw
      case rel => exact ⟨j + 1, n + nq, by omega, by go_num, Lib.hid (by rw [hd.out, World.drewN_drewN])⟩
      case measure => simp [intOf]; omega
    · obtain rfl : j = xs.length := by omega
      go_wp2_with fail
      go_ret
      exact ⟨rfl, _, hd.out⟩
/-- One whole number onto a slice of the call's own. -/
theorem append_int {w : World} {base : Nat} {v : Value} {xs : List Nat} (x : Nat) (hown : w.ownsRow base 3 1 v xs.length (xs.map vi)) (hn : xs.length ≤ 1000000) (hbase : base ≤ w.heap.size) :
    ∃ v' w', Sem.run Try.prog (Builtin.append_ #[23, 23] 23 #[v, .slice (some ⟨w.heap.size, 0, none⟩) 1 1]) (w.alloc (.cells #[.int .i64 (x : Int)] 3)) = .ok v' w' ∧ w'.ownsRow base 3 1 v' (xs ++ [x]).length ((xs ++ [x]).map vi) ∧ Onto v v' w w' := by
  have hb := Joins.below_alloc1 w (.cells #[.int .i64 (x : Int)] 3)
  have hl : Lies (w.alloc (.cells #[.int .i64 (x : Int)] 3)) (w.heap.size + 1) (some ⟨w.heap.size, 0, none⟩) ([x].map vi) :=
    lies_block (cs := #[vi x]) (heap_alloc_new w _) (Nat.lt_succ_self _)
  obtain ⟨v', w', h1, h2, h3⟩ := run_append_onto (P := Try.prog) (m := 1) (c := 1) 23 23 3 (.int .i64 0) 1 8 Try.underlying23 (by kernel_rfl) rfl (by decide)
      (fun u hu => by simp at hu; subst hu; rfl) (own_later hown hb) hl rfl (by unfold maxLen; omega) (by omega) (Nat.le_trans hbase hb.size)
  exact ⟨v', w', h1, by rw [List.length_append, List.map_append]; exact h2, Onto.pre hb h3⟩
theorem add_rej {bu mo ac n : Nat} {fs : List Nat} (h : bu < n) : ask bu mo fs.length ac n = 2 ∧ addF bu mo fs ac n = fs ∧ addA bu mo fs ac n = ac := by
  have h0 := ask_two (mo := mo) (k := fs.length) (ac := ac) h
  refine ⟨h0, ?_, ?_⟩
  · unfold addF; rw [h0]; rfl
  · unfold addA; rw [h0]; rfl
theorem add_over {bu mo ac n : Nat} {fs : List Nat} (h : ¬ bu < n) (ho : over bu ac n = true) (hl : fs.length < mo) : ask bu mo fs.length ac n = 0 ∧ addF bu mo fs ac n = fs ++ [ac] ∧ addA bu mo fs ac n = n := by
  have h0 := ask_zero (mo := mo) (k := fs.length) (ac := ac) h (.inr (Nat.not_le_of_lt hl))
  refine ⟨h0, ?_, ?_⟩
  · unfold addF; rw [if_pos ⟨h0, ho⟩]
  · unfold addA; rw [if_pos h0, if_pos ho]
theorem add_in {bu mo ac n : Nat} {fs : List Nat} (h : ¬ bu < n) (ho : over bu ac n = false) : ask bu mo fs.length ac n = 0 ∧ addF bu mo fs ac n = fs ∧ addA bu mo fs ac n = ac + n := by
  have h0 := ask_zero (mo := mo) (k := fs.length) (ac := ac) h (.inl ho)
  refine ⟨h0, ?_, ?_⟩
  · unfold addF; rw [if_neg]; rw [ho]; rintro ⟨_, h⟩; cases h
  · unfold addA; rw [if_pos h0, ho]; rfl
end Go.Proofs.Ytmnhklfljfglhaa.Bu
