/- What bytes.TrimLeft answers where zeros are cut off. -/
import Derived.Test.YtkmelhgpngochaaDoorFnum
import Derived.Test.YtkmelhgpngochaaDoorCut
namespace Go.Proofs.YtkmelhgpngochaaDoor.Fr
set_option linter.unusedVariables false
set_option linter.unusedSimpArgs false
open Go.RowKit Lift Ik
def lenS : Value → Nat
  | .slice _ n _ => n
  | _ => 0
/-- Bytes without the zeros ahead. -/
def bare (bs : List Nat) : List Nat := bs.dropWhile (· == 0)
theorem bare_zero (bs : List Nat) : bare (0 :: bs) = bare bs := rfl
theorem bare_some {c : Nat} (h : c ≠ 0) (bs : List Nat) : bare (c :: bs) = c :: bs := by unfold bare; rw [List.dropWhile_cons, if_neg (by simpa using h)]
theorem bare_nil (bs : List Nat) : (bare bs).length = 0 ↔ ∀ c, c ∈ bs → c = 0 := by
  induction bs with
  | nil => simp [bare]
  | cons c bs ih =>
    by_cases h : c = 0
    · subst h
      rw [bare_zero, ih]
      simp
    · rw [bare_some h]
      simp [h]
set_option maxRecDepth 100000 in
set_option maxHeartbeats 400000 in
theorem ltb_any (A : Option Addr) (c B : Nat) (bs : List Nat) (w : World) (hl : Lies w B A (bs.map vb)) (hc : bs.length ≤ c) (hm : c ≤ maxLen) (h8 : ∀ c, c ∈ bs → c < 256) :
    Calls Tryd.prog 38 #[.slice A bs.length c, .int .u8 0] w fun e w' => (∃ A' c', e = .returned (.slice A' (bare bs).length c')) ∧ w = w' := by
  have HL := Lib.hid hl
  have H8 := Lib.hid h8
  clear hl h8
  go_enter Tryd.func38, Tryd.ntmps38
  go_wp2_with fail
  go_loop [0] (fun s => ∃ (xs : List Nat) (A' : Option Addr) (c' : Nat), s = .slice A' xs.length c' ∧ xs.length ≤ c' ∧ c' ≤ maxLen ∧ Hid (Lies w B A' (xs.map vb)) ∧ Hid (∀ c, c ∈ xs → c < 256) ∧ Hid (bare bs = bare xs)) (fun s => lenS s)
  case atStart => exact ⟨bs, A, c, rfl, hc, hm, HL, H8, Lib.hid rfl⟩
  case round =>
    clear hc hm HL H8
    obtain ⟨xs, A', c', rfl, k1, k2, KL, K8, KE⟩ := hrel
    rcases xs with _ | ⟨d, xs⟩
    · have HE : Hid ((bare bs).length = 0) := Lib.hid (by rw [KE.out]; rfl)
      rw [List.length_nil]
      go_wp2_with fail
      go_ret
      exact ⟨⟨none, 0, by rw [HE.out]; rfl⟩, rfl⟩
    · obtain ⟨ad, rfl, _, hcell⟩ := KL.out.place (by simp)
      have h0 := hcell 0 (vb d) rfl
      have d8 := K8.out d (by simp)
      have hpos : 0 < (d :: xs).length := by simp
      have HL1 : Hid ((d :: xs).length = xs.length + 1) := Lib.hid rfl
      rw [show ad.add 0 = ad by simp [Addr.add]] at h0
      obtain ⟨A2, hA2, _, hc2a⟩ := cut_from (some ad) (d :: xs).length c' 1 hpos k1 k2
      have hc2 : ∀ W : World, Sem.run Tryd.prog (Instr.slice 22 (.slice (some ad) (d :: xs).length c') (some (.int .i64 1)) none none) W = .ok (.slice A2 ((d :: xs).length - 1) (c' - 1)) W := hc2a
      have HLx : Hid (Lies w B A2 (xs.map vb)) := Lib.hid (KL.out.cut (p := 1) (fun h0 => hA2 (by have := HL1.out; omega)) (List.prefix_refl _))
      have H8x : Hid (∀ c, c ∈ xs → c < 256) := Lib.hid fun c hc => K8.out c (by simp [hc])
      by_cases hd : d = 0
      · subst hd
        have HE : Hid (bare bs = bare xs) := Lib.hid (by rw [KE.out, bare_zero])
        have hl2 : (0 :: xs).length - 1 = xs.length := rfl
        rw [hl2] at hc2
        generalize hL : (0 :: xs).length = L at *
        clear hL hcell hc2a
        go_wp2_with fail
        go_round
        case rel => exact ⟨xs, A2, c' - 1, rfl, by have := HL1.out; omega, by unfold maxLen at k2 ⊢; omega, HLx, H8x, HE⟩
        case measure => have := HL1.out; simp [lenS]; omega
      · have HE : Hid ((bare bs).length = (d :: xs).length) := Lib.hid (by rw [KE.out, bare_some hd])
        generalize hL : (d :: xs).length = L at *
        clear hL hcell hc2a
        go_wp2_with fail
        go_ret
        exact ⟨⟨some ad, c', by rw [HE.out]; rfl⟩, rfl⟩
set_option maxRecDepth 100000 in
set_option maxHeartbeats 400000 in
theorem trim_any (A : Option Addr) (c B : Nat) (bs : List Nat) (w : World) (hl : Lies w B A (bs.map vb)) (hc : bs.length ≤ c) (hm : c ≤ maxLen) (h8 : ∀ c, c ∈ bs → c < 256) :
    Calls Tryd.prog 36 #[.slice A bs.length c, .string ⟨#[0]⟩] w fun e w' => (∃ A' c', e = .returned (.slice A' (bare bs).length c')) ∧ w = w' := by
  by_cases h0 : bs.length = 0
  · have hb : bs = [] := List.eq_nil_of_length_eq_zero h0
    subst hb
    rw [List.length_nil]
    go_enter Tryd.func36, Tryd.ntmps36
    go_wp2_with fail
    go_ret
    exact ⟨⟨none, 0, rfl⟩, rfl⟩
  · have HT := Lib.hid (ltb_any A c B bs w hl hc hm h8)
    clear hl h8
    generalize hL : bs.length = L at *
    clear hL
    go_enter Tryd.func36, Tryd.ntmps36
    go_wp2_with fail
    refine HT.out.mono ?_
    rintro e w' ⟨⟨A', c', rfl⟩, rfl⟩
    go_wp2_with fail
    go_ret
    exact ⟨⟨A', c', rfl⟩, rfl⟩
end Go.Proofs.YtkmelhgpngochaaDoor.Fr
