/- What the laws on package frame share: the example of the document. -/
import Derived.Test.YtkmelhgpngochaaDoorFall
import Derived.Test.YtkmelhgpngochaaDoorFput
import Derived.Test.YtkmelhgpngochaaDoorFsame
import Derived.Lib.SlBytesConst
namespace Go.Proofs.YtkmelhgpngochaaDoor.Fr
set_option linter.unusedVariables false
set_option linter.unusedSimpArgs false
open Go.RowKit Lift Ik Sq
/-- true, and all old memory as it was. -/
def Yes (w : World) (e : Ending) (w' : World) : Prop := e = .returned (.bool true) ∧ Below w.heap.size w w'
theorem nxt_end {b : List Nat} : nxt b b.length = .stop 0 := by
  have hs : skip b b.length = b.length := by unfold skip; split <;> omega
  have hp : clean b b.length := by unfold clean padding; split <;> simp
  unfold nxt
  rw [if_pos hp, hs]
  unfold frg
  rw [if_pos (Nat.le_refl _)]
theorem rd_end {b : List Nat} {n : Nat} {out : List (List Nat)} : Rd b b.length false [] n out (out, n, 0) := Rd.stop nxt_end
theorem pad_step {b : List Nat} {a n : Nat} {r q : List Nat} {out : List (List Nat)} {R : List (List Nat) × Nat × Nat} (ha : a ≤ b.length) (hb : b.drop a = put a r ++ q) : Rd b (a + pad a) false [] n out R → Rd b a false [] n out R := by
  intro h
  by_cases h7 : left a < 7
  · have hpad : pad a = left a := by unfold pad; rw [if_pos h7]
    have hcl : clean b a := by
      unfold clean padding
      rw [if_pos h7, hb]
      unfold put
      rw [hpad, List.append_assoc, List.take_left' (by simp)]
      intro c hc
      exact (List.mem_replicate.1 hc).2
    have hl := congrArg List.length hb
    rw [List.length_drop, List.length_append] at hl
    have hpl : left a ≤ (put a r).length := by unfold put; rw [hpad]; simp
    have hsk : skip b a = a + pad a := by unfold skip; rw [if_pos h7, hpad]; omega
    have hlf : ¬ left (a + pad a) < 7 := by rw [hpad]; unfold left; omega
    have e2 : nxt b (a + pad a) = frg b (a + pad a) := by
      unfold nxt
      rw [if_pos (by unfold clean padding; rw [if_neg hlf]; simp)]
      unfold skip
      rw [if_neg hlf]
    have e : nxt b a = nxt b (a + pad a) := by
      rw [e2]
      unfold nxt
      rw [if_pos hcl, hsk]
    cases h with
    | stop h1 => exact .stop (e.trans h1)
    | bad h1 h2 => exact .bad (e.trans h1) h2
    | more h1 h2 h3 h4 => exact .more (e.trans h1) h2 h3 h4
    | full h1 h2 h3 h4 => exact .full (e.trans h1) h2 h3 h4
  · have hpad : pad a = 0 := by unfold pad; rw [if_neg h7]
    rw [hpad] at h
    exact h
/-- A record that stands there is read. -/
theorem rd_put {b : List Nat} {a n : Nat} {r q : List Nat} {out : List (List Nat)} {R : List (List Nat) × Nat × Nat} (ha : a ≤ b.length) (hb : b.drop a = put a r ++ q)
    (hR : Rd b (a + (put a r).length) false [] (a + (put a r).length) (out ++ [r]) R) : Rd b a false [] n out R := by
  refine pad_step ha hb ?_
  have hpl : (put a r).length = pad a + (parts (cap a) r).length := by unfold put; simp
  have hb2 : b.drop (a + pad a) = parts (cap a) r ++ q := by
    have h0 := hb
    unfold put at h0
    rw [List.append_assoc] at h0
    exact drop_more h0 (by simp)
  have hn : 7 + cap a = left (a + pad a) := by
    unfold cap pad
    by_cases h7 : left a < 7
    · rw [if_pos h7, if_pos h7]; unfold left; omega
    · rw [if_neg h7, if_neg h7, Nat.add_zero]; omega
  refine rd_parts hn hb2 ?_
  rw [Nat.add_assoc, ← hpl]
  exact hR
/-- Records, one behind the other. -/
def logOf (l : List (List Nat)) : List Nat := l.foldl (fun b r => b ++ put b.length r) []
theorem logOf_snoc (l : List (List Nat)) (r : List Nat) : logOf (l ++ [r]) = logOf l ++ put (logOf l).length r := by unfold logOf; rw [List.foldl_append]; rfl
theorem rd_log (l : List (List Nat)) : ∀ (q : List Nat) (R : List (List Nat) × Nat × Nat), Rd (logOf l ++ q) (logOf l).length false [] (logOf l).length l R → Rd (logOf l ++ q) 0 false [] 0 [] R := by
  have key : ∀ (m : Nat) (l : List (List Nat)), l.length = m → ∀ (q : List Nat) (R : List (List Nat) × Nat × Nat), Rd (logOf l ++ q) (logOf l).length false [] (logOf l).length l R → Rd (logOf l ++ q) 0 false [] 0 [] R := by
    intro m
    induction m with
    | zero =>
      intro l hl q R h
      have : l = [] := List.eq_nil_of_length_eq_zero hl
      subst this
      exact h
    | succ m ih =>
      intro l hl q R h
      obtain ⟨l', r, rfl⟩ : ∃ l' r, l = l' ++ [r] := ⟨l.dropLast, l.getLast (by intro h0; rw [h0] at hl; simp at hl), (List.dropLast_concat_getLast _).symm⟩
      have hl' : l'.length = m := by simpa using hl
      rw [logOf_snoc] at h ⊢
      rw [List.append_assoc]
      rw [List.append_assoc] at h
      refine ih l' hl' _ R ?_
      refine rd_put (a := (logOf l').length) (r := r) (q := q) (by simp) (by rw [List.drop_left' rfl]) ?_
      rw [List.length_append] at h
      exact h
  exact key l.length l rfl
theorem logOf_byte {l : List (List Nat)} (h : ∀ r, r ∈ l → ∀ x, x ∈ r → x < 256) : ∀ x, x ∈ logOf l → x < 256 := by
  have key : ∀ (m : Nat) (l : List (List Nat)), l.length = m → (∀ r, r ∈ l → ∀ x, x ∈ r → x < 256) → ∀ x, x ∈ logOf l → x < 256 := by
    intro m
    induction m with
    | zero =>
      intro l hl _ x hx
      have : l = [] := List.eq_nil_of_length_eq_zero hl
      subst this
      simp [logOf] at hx
    | succ m ih =>
      intro l hl h x hx
      obtain ⟨l', r, rfl⟩ : ∃ l' r, l = l' ++ [r] := ⟨l.dropLast, l.getLast (by intro h0; rw [h0] at hl; simp at hl), (List.dropLast_concat_getLast _).symm⟩
      rw [logOf_snoc] at hx
      rcases List.mem_append.1 hx with hx | hx
      · exact ih l' (by simpa using hl) (fun r hr => h r (by simp [hr])) x hx
      · exact put_byte (h r (by simp)) x hx
  exact key l.length l rfl h
set_option maxRecDepth 100000 in
set_option maxHeartbeats 800000 in
theorem alive_any (w : World) : Calls Tryd.prog 10 #[] w (Yes w) := by
  have HA := Lib.hid (all_any none 0 [] w (.inl rfl) (by simp) (by decide) (by simp) (by simp))
  go_enter Tryd.func10, Tryd.ntmps10
  go_wp2_with fail
  refine HA.out.mono ?_
  rintro e W1 ⟨A1, c1, L1, n1, cl1, rfl, hs1, hr1, hb1⟩
  have e1 := hr1.det (rd_end (b := []) (n := 0) (out := []))
  simp only [Prod.mk.injEq, List.map_eq_nil_iff] at e1
  obtain ⟨rfl, rfl, rfl⟩ := e1
  clear hs1 hr1
  have HB1 := Lib.hid hb1
  clear hb1
  rw [List.length_nil]
  have kc := fun (W : World) (C : Array Value) (n c : Nat) => Lib.run_convert_bytes_const (P := Tryd.prog) W 22 5 C n c Tryd.underlying22 Tryd.underlying5
  go_wp2_with fail
  have hba := Joins.below_alloc1 W1 (.cells #[.int .u8 97, .int .u8 98, .int .u8 99] 5 (3, 4))
  have hla : Lies (W1.alloc (.cells #[.int .u8 97, .int .u8 98, .int .u8 99] 5 (3, 4))) (W1.heap.size + 1) (some ⟨W1.heap.size, 0, none⟩) ([97, 98, 99].map vb) :=
    lies_block (cs := #[.int .u8 97, .int .u8 98, .int .u8 99]) (heap_alloc_new W1 _) (Nat.lt_succ_self _)
  have hP : put 0 [97, 98, 99] = piece 1 [97, 98, 99] := by
    unfold put
    rw [show pad 0 = 0 from rfl, show cap 0 = 121 from rfl]
    unfold parts
    rw [if_pos (by decide)]
    rfl
  have hPL : (put 0 [97, 98, 99]).length = 10 := by rw [hP, piece_length]; rfl
  have hrd : Rd (put 0 [97, 98, 99]) 0 false [] 0 [] ([[97, 98, 99]], 10, 0) := rd_put (a := 0) (r := [97, 98, 99]) (q := []) (Nat.zero_le _) (by simp) (by rw [Nat.zero_add, ← hPL]; exact rd_end)
  have hp8 : ∀ x, x ∈ put 0 [97, 98, 99] → x < 256 := put_byte (by decide)
  have hput := put_any 0 (some ⟨W1.heap.size, 0, none⟩) 3 [97, 98, 99] _ (by decide) (hla.up (by simp)) (by decide) (by decide) (by decide) (by decide)
  rw [show (0 : Int).toNat = 0 from rfl] at hput
  have HPUT := Lib.hid hput
  have HRD := Lib.hid hrd
  have HP8 := Lib.hid hp8
  have HPL := Lib.hid hPL
  have HB2 := Lib.hid (HB1.out.trans (hba.mono HB1.out.size))
  clear hba hla hP hPL hrd hp8 hput kc
  generalize put 0 [97, 98, 99] = P at *
  generalize W1.alloc (.cells #[.int .u8 97, .int .u8 98, .int .u8 99] 5 (3, 4)) = W2 at *
  refine HPUT.out.mono ?_
  rintro e W3 ⟨v3, rfl, ho3, hb3⟩
  obtain ⟨A3, c3, rfl, k1, k2, k3⟩ := own_parts ho3
  have HB3 := Lib.hid (HB2.out.trans (hb3.mono HB2.out.size))
  have HALL := Lib.hid (all_any A3 c3 P W3 k3 k1 k2 (by have := HPL.out; omega) HP8.out)
  clear ho3 hb3 k3
  rw [HPL.out] at HALL ⊢
  go_wp2_with fail
  refine HALL.out.mono ?_
  rintro e W4 ⟨A4, c4, L4, n4, cl4, rfl, hs4, hr4, hb4⟩
  have e4 := hr4.det HRD.out
  simp only [Prod.mk.injEq] at e4
  obtain ⟨e5, rfl, rfl⟩ := e4
  have hl4 : L4.length = 1 := by have := congrArg List.length e5; simpa using this
  rw [hl4]
  have HB4 := Lib.hid (HB3.out.trans (hb4.mono HB3.out.size))
  clear hs4 hr4 hb4 e5 hl4
  go_wp2_with fail
  go_ret
  exact ⟨rfl, HB4.out⟩
end Go.Proofs.YtkmelhgpngochaaDoor.Fr
