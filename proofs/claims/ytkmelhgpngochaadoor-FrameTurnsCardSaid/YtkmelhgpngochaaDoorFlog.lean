/- What the laws' own log answers: records, one behind the other, and where each ends. -/
import Derived.Test.YtkmelhgpngochaaDoorFtorn
import Derived.Test.YtkmelhgpngochaaDoorFrput
namespace Go.Proofs.YtkmelhgpngochaaDoor.Fr
set_option linter.unusedVariables false
set_option linter.unusedSimpArgs false
open Go.RowKit Lift Ik Sq
theorem log_len {l : List (List Nat)} {m : Nat} (h : ∀ r, r ∈ l → r.length ≤ m) : (logOf l).length ≤ (21 + 2 * m) * l.length := by
  have key : ∀ (n : Nat) (l : List (List Nat)), l.length = n → (∀ r, r ∈ l → r.length ≤ m) → (logOf l).length ≤ (21 + 2 * m) * n := by
    intro n
    induction n with
    | zero =>
      intro l hl _
      have : l = [] := List.eq_nil_of_length_eq_zero hl
      subst this
      simp [logOf]
    | succ n ih =>
      intro l hl h
      obtain ⟨l', r, rfl⟩ : ∃ l' r, l = l' ++ [r] := ⟨l.dropLast, l.getLast (by intro h0; rw [h0] at hl; simp at hl), (List.dropLast_concat_getLast _).symm⟩
      have h1 := ih l' (by simpa using hl) fun r hr => h r (by simp [hr])
      have h2 := (put_len (logOf l').length r).2
      have h3 := h r (by simp)
      rw [logOf_snoc, List.length_append, Nat.mul_succ]
      omega
  exact key l.length l rfl h
/-- One number onto a slice of the call's own. -/
theorem append_num {w : World} {base n : Nat} {v : Value} {xs : List Value} (x : Int) (hown : w.ownsRow base 3 1 v n xs) (hn : n ≤ 1000000) (hbase : base ≤ w.heap.size) :
    ∃ v' w', Sem.run Tryd.prog (Builtin.append_ #[32, 32] 32 #[v, .slice (some ⟨w.heap.size, 0, none⟩) 1 1]) (w.alloc (.cells #[.int .i64 x] 3)) = .ok v' w' ∧ w'.ownsRow base 3 1 v' (n + 1) (xs ++ [.int .i64 x]) ∧ Onto v v' w w' := by
  have hb := Joins.below_alloc1 w (.cells #[.int .i64 x] 3)
  have hl : Lies (w.alloc (.cells #[.int .i64 x] 3)) (w.heap.size + 1) (some ⟨w.heap.size, 0, none⟩) [.int .i64 x] :=
    lies_block (cs := #[.int .i64 x]) (heap_alloc_new w _) (Nat.lt_succ_self _)
  obtain ⟨v', w', h1, h2, h3⟩ := run_append_onto (P := Tryd.prog) (m := 1) (c := 1) 32 32 3 (.int .i64 0) 1 8 Tryd.underlying32 (by kernel_rfl) rfl (by decide)
      (fun u hu => by simp at hu; subst hu; rfl) (own_later hown hb) hl (by simp) (by unfold maxLen; omega) (by omega) (Nat.le_trans hbase hb.size)
  exact ⟨v', w', h1, h2, Onto.pre hb h3⟩
/-- Where the first j records end. -/
def endsOf (l : List (List Nat)) (j : Nat) : List Value := (List.range j).map fun i => Value.int .i64 (((logOf (l.take (i + 1))).length : Nat) : Int)
theorem endsOf_succ (l : List (List Nat)) (j : Nat) : endsOf l (j + 1) = endsOf l j ++ [Value.int .i64 (((logOf (l.take (j + 1))).length : Nat) : Int)] := by
  unfold endsOf
  rw [List.range_succ, List.map_append]
  rfl
theorem endsOf_at {l : List (List Nat)} {j i : Nat} (h : i < j) : (endsOf l j)[i]? = some (Value.int .i64 (((logOf (l.take (i + 1))).length : Nat) : Int)) := by
  unfold endsOf
  rw [List.getElem?_map, List.getElem?_range h]
  rfl
set_option maxRecDepth 100000 in
set_option maxHeartbeats 1600000 in
theorem log_any (A : Option Addr) (c : Nat) (L : List E) (w : World) (hQ : Seqs w w.heap.size A c L) (hn : L.length ≤ 10) (hs : ∀ r, r ∈ L.map (·.bs) → r.length ≤ 300) :
    Calls Tryd.prog 16 #[.slice A L.length c] w fun e w' => ∃ v1 v2, e = .returned (.tuple #[v1, v2]) ∧ w'.ownsRow w.heap.size 5 1 v1 (logOf (L.map (·.bs))).length ((logOf (L.map (·.bs))).map vb) ∧
      w'.ownsRow w.heap.size 3 1 v2 L.length (endsOf (L.map (·.bs)) L.length) ∧ Below w.heap.size w w' := by
  have HQ := Lib.hid hQ
  have HS := Lib.hid hs
  have hLc := hQ.len
  have hLm := hQ.cap
  unfold maxLen at hLm
  clear hQ hs
  go_enter Tryd.func16, Tryd.ntmps16
  go_wp2_with fail
  go_loopw [4, 5, 6] (fun b en i wr => ∃ j : Nat, j ≤ L.length ∧ i = .int .i64 j ∧ Hid (wr.ownsRow w.heap.size 5 1 b (logOf ((L.map (·.bs)).take j)).length ((logOf ((L.map (·.bs)).take j)).map vb)) ∧ Hid (wr.ownsRow w.heap.size 3 1 en j (endsOf (L.map (·.bs)) j)) ∧ Hid (Below w.heap.size w wr)) (fun _ _ i _ => L.length + 1 - (intOf i).toNat)
  case atStart => exact ⟨0, by omega, rfl, Lib.hid (World.ownsRow_nil _ _ _ _), Lib.hid (World.ownsRow_nil _ _ _ _), Lib.hid (Below.refl _ _)⟩
  case round =>
    obtain ⟨j, hj, rfl, hO, hE, hb⟩ := hrel
    by_cases hlt : j < L.length
    · obtain ⟨A4, c4, rfl, k1, k2, k3⟩ := own_parts hO.out
      have hlog : (logOf ((L.map (·.bs)).take j)).length ≤ 6210 := by
        have h1 := log_len (l := (L.map (·.bs)).take j) (m := 300) fun r hr => HS.out r (List.mem_of_mem_take hr)
        have h2 : (21 + 2 * 300) * ((L.map (·.bs)).take j).length ≤ 621 * 10 := Nat.mul_le_mul (by decide) (by rw [List.length_take, List.length_map]; omega)
        omega
      obtain ⟨e, he⟩ : ∃ e, L[j]? = some e := ⟨_, List.getElem?_eq_getElem hlt⟩
      have heb : (L.map (·.bs))[j]? = some e.bs := by rw [List.getElem?_map, he]; rfl
      have hes := HS.out e.bs (List.mem_of_getElem? heb)
      obtain ⟨ad, hA, _, p0⟩ := (HQ.out.below hb.out).place he
      subst hA
      have ke := (HQ.out.below hb.out).ok e (List.mem_of_getElem? he)
      have HT : Hid (logOf ((L.map (·.bs)).take (j + 1)) = logOf ((L.map (·.bs)).take j) ++ put (logOf ((L.map (·.bs)).take j)).length e.bs) := Lib.hid (by rw [List.take_add_one, heb, Option.toList_some, logOf_snoc])
      have HES := Lib.hid (endsOf_succ (L.map (·.bs)) j)
      have hem := ke.max
      unfold maxLen at hem
      have hp := rput_any ((logOf ((L.map (·.bs)).take j)).length : Int) e.a e.c e.bs wr (by omega) (ke.lies.up hb.out.size) ke.cap ke.max (by omega) ke.byte
      rw [show (((logOf ((L.map (·.bs)).take j)).length : Nat) : Int).toNat = (logOf ((L.map (·.bs)).take j)).length from rfl] at hp
      have HP := Lib.hid hp
      have hpl := (put_len (logOf ((L.map (·.bs)).take j)).length e.bs).2
      have dl : decide (j < L.length) = true := decide_eq_true hlt
      clear ke he heb hp k3
      generalize hG1 : logOf ((L.map (·.bs)).take (j + 1)) = G1 at *
      have HG1 := Lib.hid hG1
      clear hG1
      generalize hG : logOf ((L.map (·.bs)).take j) = G at *
      clear hG
      generalize put G.length e.bs = P at *
      go_wp2_with fail
      refine HP.out.mono ?_
      rintro e2 W2 ⟨v2, rfl, ho2, hb2⟩
      obtain ⟨A2, c2, rfl, q1, q2, q3⟩ := own_parts ho2
      obtain ⟨v3, W3, hr3, ho3, on3⟩ := append_bytes (c := c2) (own_later hO.out hb2) q3 (by omega) (Nat.le_trans hb.out.size hb2.size)
      have hE2 := own_later hE.out hb2
      have hE3 := own_kept hE2 on3.keep fun k hk => own_two hE2 (own_later hO.out hb2) (by decide) hk
      have hb23 := (hb2.mono hb.out.size).trans (on3.below (own_later hO.out hb2) (Nat.le_trans hb.out.size hb2.size))
      have hlen3 : (G ++ P).length ≤ 10000 := by rw [List.length_append]; omega
      rw [← HT.out] at ho3 hlen3
      obtain ⟨A3, c3, rfl, y1, y2, y3⟩ := own_parts ho3
      have hz3 := Nat.le_trans hb.out.size hb23.size
      obtain ⟨v5, W5, hr5, ho5, on5⟩ := append_num ((G1.length : Nat) : Int) hE3 (by omega) hz3
      have hO5 := own_kept ho3 on5.keep fun k hk => own_two ho3 hE3 (by decide) hk
      have HR3 := Lib.hid hr3
      have HR5 := Lib.hid hr5
      have HO5 := Lib.hid hO5
      have HE5 := Lib.hid ho5
      have HB5 := Lib.hid ((hb.out.trans hb23).trans (on5.below hE3 hz3))
      clear ho2 hb2 q3 hr3 ho3 on3 hE2 hE3 hb23 y3 hr5 ho5 on5 hO5
      go_wp2_with (at_builtin; first | refine wpList_append_run rfl _ _ 22 rfl rfl rfl HR3.out ?_ | refine wpList_append_run rfl _ _ 32 rfl rfl rfl HR5.out ?_)
      go_roundw
      case rel => exact ⟨j + 1, by omega, by go_num, by rw [HG1.out]; exact HO5, by rw [HES.out]; exact HE5, HB5⟩
      case measure => simp [intOf]; omega
    · obtain rfl : j = L.length := by omega
      have dl : decide (L.length < L.length) = false := by simp
      have HTK : Hid ((L.map (·.bs)).take L.length = L.map (·.bs)) := Lib.hid (List.take_of_length_le (by rw [List.length_map]; exact Nat.le_refl _))
      rw [HTK.out] at hO
      go_wp2_with fail
      go_returns
      exact ⟨_, _, rfl, hO.out, hE.out, hb.out⟩
end Go.Proofs.YtkmelhgpngochaaDoor.Fr
