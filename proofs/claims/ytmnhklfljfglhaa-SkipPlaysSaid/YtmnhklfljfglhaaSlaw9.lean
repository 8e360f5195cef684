/- What the laws of skip share: the document's example; a list that entries were put into, one by one. -/
import Derived.Test.YtmnhklfljfglhaaSins
import Derived.Test.YtmnhklfljfglhaaSlev
import Derived.Test.YtmnhklfljfglhaaSget
import Derived.Lib.SlBytesConst
namespace Go.Proofs.Ytmnhklfljfglhaa.Sk
set_option linter.unusedVariables false
set_option linter.unusedSimpArgs false
open Go.RowKit Lift Ik

/-- A law answers true, and nothing old has changed. -/
def Yes (w : World) (e : Ending) (w' : World) : Prop := e = .returned (.bool true) ∧ Below w.heap.size w w'
/-- Entries, put in one by one. -/
noncomputable def rows (f : Nat → T × Int) : Nat → Row
  | 0 => []
  | j + 1 => insT (rows f j) (f j).1 (hgt (f j).2)
theorem insT_len (R : Row) (t : T) (h : Nat) : (insT R t h).length ≤ R.length + 1 := by
  unfold insT
  split
  · rw [insR_length]; exact Nat.le_refl _
  · exact Nat.le_succ _
theorem rows_len (f : Nat → T × Int) : ∀ j, (rows f j).length ≤ j
  | 0 => Nat.le_refl _
  | j + 1 => Nat.le_trans (insT_len _ _ _) (Nat.succ_le_succ (rows_len f j))
/-- A list of the call's own. -/
def Own (w0 : World) (g : Nat) (R : Row) (w : World) : Prop := ∃ S : Nat → Prop, SL w g S R ∧ Below w0.heap.size w0 w ∧ ∀ k, S k → w0.heap.size ≤ k
theorem Own.below {w0 w w' : World} {g : Nat} {R : Row} (h : Own w0 g R w) (hb : Below w.heap.size w w') : Own w0 g R w' := by
  obtain ⟨S, h1, h2, h3⟩ := h
  exact ⟨S, h1.below hb, h2.trans (hb.mono h2.size), h3⟩
theorem own_insd {w0 w w' : World} {g : Nat} {S : Nat → Prop} {R : Row} {t : T} {h : Nat} {e : Ending} (hb : Below w0.heap.size w0 w) (hS : ∀ k, S k → w0.heap.size ≤ k) (hi : Insd w g S R t h e w') : e = .returned (.int .i64 (insE R t : Nat)) ∧ Own w0 g (insT R t h) w' := by
  obtain ⟨S', h1, h2, h3, h4⟩ := hi
  exact ⟨h1, S', h2, hb.trans (h3.below hb.size hS), fun k hk => (h4 k hk).elim (hS k) fun h => Nat.le_trans hb.size h⟩
theorem at_split {R : Row} (hs : Sorted rk R) {j : Nat} {r : T × Nat} (h : R[j]? = some r) : bef rk R r.1.k = R.take j ∧ aft rk R r.1.k = R.drop j := by
  obtain ⟨hj, hr⟩ := List.getElem?_eq_some_iff.1 h
  have hp := List.pairwise_iff_getElem.1 hs
  have := bef_eq (f := rk) (k := r.1.k) (u := R.take j) (v := R.drop j) (fun q hq => by
    obtain ⟨i, hi, rfl⟩ := List.getElem_of_mem hq
    rw [List.length_take] at hi
    rw [List.getElem_take, ← hr]
    exact hp i j (by omega) hj (by omega)) (fun q hq => by
    obtain ⟨i, hi, rfl⟩ := List.getElem_of_mem hq
    rw [List.length_drop] at hi
    rw [List.getElem_drop, ← hr]
    by_cases h0 : i = 0
    · subst h0; exact lt_self _
    · exact lt_asymm (hp j (j + i) hj (by omega) (by omega)))
  rwa [List.take_append_drop] at this
theorem seek_at {R : Row} (hs : Sorted rk R) {j : Nat} {r : T × Nat} (h : R[j]? = some r) : seekR R r.1.k = some r.1 := by
  unfold seekR
  rw [(at_split hs h).2, List.head?_drop, h]
  rfl
theorem bef_zero {R : Row} (hs : Sorted rk R) {r : T × Nat} (h : R[0]? = some r) : befR R r.1.k = none := by
  unfold befR
  rw [(at_split hs h).1]
  rfl
theorem bef_succ {R : Row} (hs : Sorted rk R) {j : Nat} {r q : T × Nat} (h : R[j + 1]? = some r) (hq : R[j]? = some q) : befR R r.1.k = some q.1 := by
  unfold befR
  rw [(at_split hs h).1, List.take_add_one, hq]
  simp
def ta : T := ⟨⟨[97], 1, 1⟩, []⟩
theorem ins_ta : insE [] ta = 0 ∧ insT [] ta (hgt 1) = [(ta, 1)] := by
  have h1 : okT ta = true := by decide
  have h2 : ¬ twice [] ta.k := by rintro ⟨r, v, h, _⟩; cases h
  have h3 : insE [] ta = 0 := by unfold insE; rw [if_neg (by rw [h1]; decide), if_neg h2]
  refine ⟨h3, ?_⟩
  unfold insT
  rw [if_pos h3]
  rfl
set_option maxRecDepth 100000 in
set_option maxHeartbeats 1600000 in
theorem alive_any (w : World) : Calls Try.prog 7 #[] w (Yes w) := by
  go_enter Try.func7, Try.ntmps7
  go_wp2_with fail
  refine (new_any w).mono ?_
  rintro e W1 ⟨rfl, hs1, hb1⟩
  have HS1 := Lib.hid hs1
  have HB1 := Lib.hid hb1
  have HY1 := Lib.hid (bytes_any hs1)
  clear hs1 hb1
  go_wp2_with fail
  refine HY1.out.mono ?_
  rintro e w' ⟨rfl, rfl⟩
  have hd : D.Ok (W1.alloc (.cells #[.int .u8 97] 5 (1, 2))) (· < (W1.alloc (.cells #[.int .u8 97] 5 (1, 2))).heap.size) ⟨some ⟨W1.heap.size, 0, none⟩, 1, ta.k, none, 0, []⟩ :=
    ⟨.inr ⟨_, rfl, by simp, fun j u hj => by
      rcases j with _ | j
      · simp [ta] at hj
        subst hj
        exact World.cell?_alloc_mark W1 #[.int .u8 97] 5 (1, 2) 0
      · simp [ta] at hj⟩, Nat.le_refl _, (by show (1 : Nat) ≤ maxLen; decide), ⟨by simp [ta], (by show (1 : Nat) < 18446744073709551616; decide), (by show (-9223372036854775808 : Int) ≤ 1; decide), (by show (1 : Int) ≤ 9223372036854775807; decide)⟩, .inl rfl, Nat.le_refl _, (by show (0 : Nat) ≤ maxLen; decide), by simp⟩
  have hba := Joins.below_alloc1 W1 (.cells #[.int .u8 97] 5 (1, 2))
  have HI := Lib.hid (insert_any ⟨some ⟨W1.heap.size, 0, none⟩, 1, ta.k, none, 0, []⟩ 1 (HS1.out.below hba) hd (by decide) (by simp))
  have HBA := Lib.hid (HB1.out.trans (hba.mono HB1.out.size))
  rw [show bytesR [] = 0 from rfl]
  have kc := fun (W : World) (C : Array Value) (n c : Nat) => Lib.run_convert_bytes_const (P := Try.prog) W 31 5 C n c Try.underlying31 Try.underlying5
  clear hd hba HY1
  go_wp2_with fail
  refine HI.out.mono ?_
  rintro e W2 hi
  obtain ⟨rfl, hown⟩ := own_insd (w0 := w) HBA.out (fun k hk => by rw [hk]; exact Nat.le_refl _) hi
  have htt : D.t ⟨some ⟨W1.heap.size, 0, none⟩, 1, ta.k, none, 0, []⟩ = ta := rfl
  rw [htt, ins_ta.2] at hown
  rw [htt, ins_ta.1]
  obtain ⟨S2, hs2, hb2, -⟩ := hown
  have HS2 := Lib.hid hs2
  have HB2 := Lib.hid hb2
  have HL2 := Lib.hid (len_any hs2)
  have HY2 := Lib.hid (bytes_any hs2)
  clear hi hs2 hb2 HI htt
  go_wp2_with fail
  refine (num_any 0 W2).mono ?_
  rintro e w' ⟨rfl, rfl⟩
  go_wp2_with fail
  refine HL2.out.mono ?_
  rintro e w' ⟨rfl, rfl⟩
  rw [show ([(ta, 1)] : Row).length = 1 from rfl]
  go_wp2_with fail
  refine HY2.out.mono ?_
  rintro e w' ⟨rfl, rfl⟩
  rw [show bytesR [(ta, 1)] = 25 from rfl]
  go_wp2_with fail
  go_ret
  exact ⟨rfl, HB2.out⟩
end Go.Proofs.Ytmnhklfljfglhaa.Sk
