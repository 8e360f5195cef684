/- What the document's own field answers. -/
import Derived.Test.YtggliedlfccicaaBrd6
import Derived.Test.YtggliedlfccicaaGetv
namespace Go.Proofs.Ytggliedlfccicaa.Bt
set_option linter.unusedVariables false
set_option linter.unusedSimpArgs false
open Go.RowKit Lift Ik Vn

theorem sub_lies {w : World} {B p m : Nat} {A A' : Option Addr} {bs : List Nat} (hl : Lies w B A (bs.map vb)) (h : p + m ≤ bs.length) (hA : 0 < m → A' = A.map (·.add p)) : Lies w B A' (((bs.drop p).take m).map vb) := by
  by_cases h0 : m = 0
  · left; subst h0; simp
  · rw [hA (by omega)]
    obtain ⟨ad, rfl, hadb, hcell⟩ := hl.place (by simp; omega)
    refine .inr ⟨ad.add p, rfl, by rw [add_block]; exact hadb, fun j u hj => ?_⟩
    rw [add_add]
    refine hcell _ _ ?_
    rw [← hj, List.getElem?_map, List.getElem?_map, List.getElem?_take_of_lt, List.getElem?_drop]
    have := (List.getElem?_eq_some_iff.1 hj).1
    simp at this
    omega
/-- What a field is told as. -/
def Fielded (w : World) (bs : List Nat) (p : Nat) (r : Nat × List Nat × Nat) (e : Ending) (w' : World) : Prop :=
  ∃ (A1 : Option Addr) (c1 : Nat), e = .returned (.tuple #[.slice A1 r.2.1.length c1, .int .i64 ((if r.1 = 0 then p + r.2.2 else 0 : Nat) : Int), .int .i64 (r.1 : Int)]) ∧ LiesP w' (fun k => w.heap.size ≤ k ∧ k < w'.heap.size) A1 (r.2.1.map vb) ∧ r.2.1.length ≤ c1 ∧ c1 ≤ maxLen ∧ Below w.heap.size w w'
theorem fielded_bad {w w' : World} {bs : List Nat} {p er : Nat} (h : er ≠ 0) (hb : Below w.heap.size w w') : Fielded w bs p (er, [], 0) (.returned (.tuple #[.slice none 0 0, .int .i64 0, .int .i64 (er : Int)])) w' :=
  ⟨none, 0, by simp only [if_neg h]; rfl, .inl rfl, Nat.le_refl _, by decide, hb⟩

set_option maxRecDepth 100000 in
set_option maxHeartbeats 400000 in
theorem field_any (ad : Addr) (c p lo hi B : Nat) (bs : List Nat) (w : World) (hl : Lies w B (some ad) (bs.map vb)) (hc : bs.length ≤ c) (hm : c ≤ maxLen) (h8 : ∀ x, x ∈ bs → x < 256) (hs : bs.length ≤ 1000000) (hp : p ≤ bs.length) (hhi : hi ≤ 4096) (hlo : lo ≤ hi) :
    Calls Try.prog 31 #[.slice (some ad) bs.length c, .int .i64 (p : Int), .int .i64 (lo : Int), .int .i64 (hi : Int)] w (Fielded w bs p (fieldL (bs.drop p) lo hi)) := by
  obtain ⟨x, k, er, hd⟩ : ∃ x k er, dec (bs.drop p) 0 0 = (x, k, er) := ⟨_, _, _, rfl⟩
  have hget := Vt.getv_calls (some ad) c B bs (p : Int) w hl hc (Nat.le_trans hc hm) h8
  rw [res_at bs p hp hd] at hget
  have h3 := dec_three (bs.drop p) 0 0
  have hlen := dec_len (bs.drop p) 0 0
  rw [hd] at h3 hlen
  simp only at h3 hlen
  have HD := Lib.hid hd
  have HL := Lib.hid hl
  have HM := Lib.hid hm
  have u1 := u64_in lo (by omega)
  have u2 := u64_in hi (by omega)
  clear hl hm h8 hd
  rcases h3 with rfl | rfl | rfl
  · rw [if_pos rfl] at hget
    have hlen := hlen rfl
    rw [List.length_drop] at hlen
    have HG := Lib.hid hget
    clear hget
    by_cases hx1 : x < lo ∨ hi < x
    · have E := Lib.hid (field_out HD.out hx1)
      by_cases hx2 : x < lo
      · have d1 : decide (x < lo) = true := by simp; omega
        clear hx1
        go_enter Try.func31, Try.ntmps31
        go_wp2_with fail
        refine HG.out.mono ?_; rintro e w' ⟨rfl, rfl⟩
        go_wp2_with fail
        go_returns
        rw [E.out]
        exact fielded_bad (by decide) (Below.refl _ _)
      · have d1 : decide (x < lo) = false := by simp; omega
        have d2 : decide (hi < x) = true := by simp; omega
        clear hx1
        go_enter Try.func31, Try.ntmps31
        go_wp2_with fail
        refine HG.out.mono ?_; rintro e w' ⟨rfl, rfl⟩
        go_wp2_with fail
        go_returns
        rw [E.out]
        exact fielded_bad (by decide) (Below.refl _ _)
    · have d1 : decide (x < lo) = false := by simp; omega
      have d2 : decide (hi < x) = false := by simp; omega
      have hx4 : x ≤ 4096 := by omega
      have E1 := Lib.hid hx1
      clear hx1
      by_cases hs2 : bs.length - (p + k) < x
      · have E := Lib.hid (field_short HD.out E1.out (by rw [List.length_drop]; omega))
        have d3 : decide ((bs.length : Int) - ((p : Int) + (k : Int)) < (x : Int)) = true := by simp; omega
        go_enter Try.func31, Try.ntmps31
        go_wp2_with fail
        refine HG.out.mono ?_; rintro e w' ⟨rfl, rfl⟩
        go_wp2_with fail
        go_returns
        rw [E.out]
        exact fielded_bad (by decide) (Below.refl _ _)
      · have E := Lib.hid (field_ok HD.out E1.out (by rw [List.length_drop]; omega))
        rw [List.drop_drop] at E
        have htl : ((bs.drop (p + k)).take x).length = x := by rw [List.length_take, List.length_drop]; omega
        have d3 : decide ((bs.length : Int) - ((p : Int) + (k : Int)) < (x : Int)) = false := by simp; omega
        obtain ⟨A', hA', _, hsl⟩ := slice_at (some ad) bs.length c (p + k) x (by omega) hc HM.out
        rw [show ((p + k : Nat) : Int) = (p : Int) + (k : Int) by omega] at hsl
        obtain ⟨A2, c2, W2, hr2, hown2, hb2⟩ := fresh_bytes A' (c - (p + k)) B ((bs.drop (p + k)).take x) w (sub_lies HL.out (by omega) hA') (by rw [htl]; omega)
        rw [htl] at hr2 hown2
        obtain ⟨A3, c3, hv3, hc3, hm3, _⟩ := own_parts hown2
        injection hv3 with e1 e2 e3
        subst e1; subst e3
        have hlp := LiesP.of_own hown2
        have HR2 := Lib.hid hr2
        have HB2 := Lib.hid hb2
        have HLP := Lib.hid (hlp.later (R' := fun k => w.heap.size ≤ k ∧ k < W2.heap.size) (fun _ _ => rfl) fun k hk => ⟨hk.1, hk.2.1⟩)
        have HC2 := Lib.hid hc3
        have HM2 := Lib.hid hm3
        have HTL := Lib.hid htl
        clear hA' hr2 hown2 hb2 hc3 hm3 hlp htl e2
        go_enter Try.func31, Try.ntmps31
        go_wp2_with fail
        refine HG.out.mono ?_; rintro e w' ⟨rfl, rfl⟩
        go_wp2_with (at_builtin; refine wpList_append_run rfl _ _ 28 rfl rfl rfl HR2.out ?_)
        go_returns
        rw [E.out]
        refine ⟨A2, c2, ?_, HLP.out, by rw [HTL.out]; exact HC2.out, HM2.out, HB2.out⟩
        rw [HTL.out]
        simp only [if_pos]
        congr 4
        simp; omega
  · have E := Lib.hid (field_bad (lo := lo) (hi := hi) HD.out (by decide))
    rw [if_neg (by decide)] at hget
    have HG := Lib.hid hget
    clear hget hlen
    go_enter Try.func31, Try.ntmps31
    go_wp2_with fail
    refine HG.out.mono ?_; rintro e w' ⟨rfl, rfl⟩
    go_wp2_with fail
    go_returns
    rw [E.out]
    exact fielded_bad (by decide) (Below.refl _ _)
  · have E := Lib.hid (field_bad (lo := lo) (hi := hi) HD.out (by decide))
    rw [if_neg (by decide)] at hget
    have HG := Lib.hid hget
    clear hget hlen
    go_enter Try.func31, Try.ntmps31
    go_wp2_with fail
    refine HG.out.mono ?_; rintro e w' ⟨rfl, rfl⟩
    go_wp2_with fail
    go_returns
    rw [E.out]
    exact fielded_bad (by decide) (Below.refl _ _)
end Go.Proofs.Ytggliedlfccicaa.Bt
