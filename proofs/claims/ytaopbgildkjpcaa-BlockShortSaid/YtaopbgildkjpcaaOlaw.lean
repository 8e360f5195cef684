/- Package block: what All and Restarts answer; what the laws of chapter 11 share. -/
import Derived.Test.YtaopbgildkjpcaaObl
import Derived.Test.YtaopbgildkjpcaaOse
namespace Go.Proofs.Ytaopbgildkjpcaa.Bk
set_option linter.unusedVariables false
set_option linter.unusedSimpArgs false
open Go.RowKit Lift Ik Sk Vn
/-- A law answers true, and nothing old has changed. -/
def Yes (w : World) (e : Ending) (w' : World) : Prop := e = .returned (.bool true) ∧ Below w.heap.size w w'
theorem num_any (n : Int) (w : World) : Calls Try.prog 13 #[.int .i64 n] w fun e w' => e = .returned (.int .i64 n) ∧ w = w' := by
  go_enter Try.func13, Try.ntmps13
  go_wp2
  go_ret
  exact ⟨rfl, rfl⟩
theorem allB_le (bs : List Nat) : (allB bs).2 ≤ 10 := by
  unfold allB
  split
  · simp
  · split
    · simp
    · split <;> simp
/-- What All answers. -/
def Alls (w : World) (bs : List Nat) (e : Ending) (w' : World) : Prop :=
  Below w.heap.size w w' ∧ ∃ (A : Option Addr) (c : Nat) (L : List D), e = .returned (.tuple #[.slice A L.length c, .int .i64 ((allB bs).2 : Nat)]) ∧ L.map D.t = (allB bs).1 ∧ Ents w' (fun k => w.heap.size ≤ k ∧ k < w'.heap.size) A c L
set_option maxRecDepth 100000 in
theorem oall_any (A : Option Addr) (c : Nat) (bs : List Nat) (w : World) (hl : Lies w w.heap.size A (bs.map vb)) (hc : bs.length ≤ c) (hm : c ≤ maxLen) (hs : bs.length ≤ 50000000) (h8 : ∀ x, x ∈ bs → x < 256) :
    Calls Try.prog 14 #[.slice A bs.length c] w (Alls w bs) := by
  have HO := Lib.hid (oopen_any A c bs w hl hc hm hs h8)
  clear hl h8
  go_enter Try.func14, Try.ntmps14
  go_wp2_with fail
  refine HO.out.mono ?_
  rintro e W ⟨hb, (⟨h1, h2, rfl⟩ | ⟨h2, A1, A7, c1, L, hB, h1, rfl, hents, hown⟩)⟩
  · have H1 := Lib.hid h1
    have HB := Lib.hid hb
    have HN := Lib.hid (show (allB bs).2 = (allB bs).2 from rfl)
    clear h1 h2 hb HO
    obtain ⟨n, hn⟩ : ∃ n, n = (allB bs).2 := ⟨_, rfl⟩
    have HNN := Lib.hid hn
    rw [← hn]
    clear hn HN
    go_wp2_with fail
    go_returns
    exact ⟨HB.out, none, 0, [], by rw [← HNN.out]; rfl, by rw [H1.out]; rfl, Ents.zero _ _⟩
  · have H1 := Lib.hid h1
    have H2 := Lib.hid h2
    have HB := Lib.hid hb
    have HE := Lib.hid hents
    clear h1 h2 hb HO hB hents hown
    go_wp2_with fail
    go_returns
    exact ⟨HB.out, A1, c1, L, by rw [H2.out]; rfl, H1.out.symm, HE.out⟩
/-- The restarts that Restarts tells. -/
noncomputable def resB (bs : List Nat) : List Nat := if (allB bs).2 = 0 then rest bs else []
/-- What Restarts answers. -/
def Rsts (w : World) (bs : List Nat) (e : Ending) (w' : World) : Prop :=
  Below w.heap.size w w' ∧ ∃ (A : Option Addr) (c : Nat), e = .returned (.tuple #[.slice A (resB bs).length c, .int .i64 ((allB bs).2 : Nat)]) ∧ w'.ownsRow w.heap.size 3 1 (.slice A (resB bs).length c) (resB bs).length ((resB bs).map vn)
set_option maxRecDepth 100000 in
theorem orests_any (A : Option Addr) (c : Nat) (bs : List Nat) (w : World) (hl : Lies w w.heap.size A (bs.map vb)) (hc : bs.length ≤ c) (hm : c ≤ maxLen) (hs : bs.length ≤ 50000000) (h8 : ∀ x, x ∈ bs → x < 256) :
    Calls Try.prog 17 #[.slice A bs.length c] w (Rsts w bs) := by
  have HO := Lib.hid (oopen_any A c bs w hl hc hm hs h8)
  clear hl h8
  go_enter Try.func17, Try.ntmps17
  go_wp2_with fail
  refine HO.out.mono ?_
  rintro e W ⟨hb, (⟨h1, h2, rfl⟩ | ⟨h2, A1, A7, c1, L, hB, h1, rfl, hents, hown⟩)⟩
  · have HR : Hid (resB bs = []) := Lib.hid (if_neg h2)
    have HB := Lib.hid hb
    clear h1 h2 hb HO
    obtain ⟨n, hn⟩ : ∃ n, n = (allB bs).2 := ⟨_, rfl⟩
    have HNN := Lib.hid hn
    rw [← hn]
    clear hn
    go_wp2_with fail
    go_returns
    exact ⟨HB.out, none, 0, by rw [← HNN.out, HR.out]; rfl, by rw [HR.out]; exact World.ownsRow_nil _ _ _ _⟩
  · have HR : Hid (resB bs = rest bs) := Lib.hid (if_pos h2)
    have H2 := Lib.hid h2
    have HB := Lib.hid hb
    have HE := Lib.hid hown
    clear h1 h2 hb HO hB hents hown
    go_wp2_with fail
    go_returns
    exact ⟨HB.out, A7, (rest bs).length, by rw [H2.out, HR.out]; rfl, by rw [HR.out]; exact HE.out⟩
theorem may_nil : may [] = 0 := by decide
theorem blk_nil_len (every : Nat) : (blk every []).length = 8 := by rw [blk_len]; rfl
set_option maxRecDepth 100000 in
set_option maxHeartbeats 800000 in
theorem alive_any (w : World) : Calls Try.prog 9 #[] w (Yes w) := by
  have HBU := Lib.hid (obuild_any none 0 [] 4 w (Ents.zero _ _) (by simp))
  have hall : allB (blk (clamp 4) []) = ([], 0) := allB_ok ⟨may_nil, clamp 4, (clamp_in _).1, (clamp_in _).2, rfl⟩
  have HAL := Lib.hid hall
  clear hall
  go_enter Try.func9, Try.ntmps9
  go_wp2_with fail
  refine HBU.out.mono ?_
  rintro e W1 ⟨v, rfl, hown, hb1⟩
  rw [List.map_nil, bldB_ok may_nil] at hown
  rw [List.map_nil, may_nil]
  obtain ⟨A, c, rfl, hc, hm, hl⟩ := own_parts hown
  have h8 : ∀ x, x ∈ blk (clamp 4) [] → x < 256 := blk_byte (L := []) (by simp)
  have hlen := blk_nil_len (clamp 4)
  have HA := Lib.hid (oall_any A c (blk (clamp 4) []) W1 hl hc hm (by omega) h8)
  rw [hlen] at HA ⊢
  have HB1 := Lib.hid hb1
  clear hown hl h8 hlen hc hm hb1 HBU
  go_wp2_with fail
  refine HA.out.mono ?_
  rintro e W2 ⟨hb2, A2, c2, L, rfl, hL, -⟩
  rw [HAL.out] at hL ⊢
  obtain rfl : L = [] := List.map_eq_nil_iff.1 hL
  have HB2 := Lib.hid (HB1.out.trans (hb2.mono HB1.out.size))
  clear hL hb2 HA
  go_wp2_with fail
  refine (num_any _ W2).mono ?_
  rintro e w' ⟨rfl, rfl⟩
  go_wp2_with fail
  refine (num_any _ W2).mono ?_
  rintro e w' ⟨rfl, rfl⟩
  go_wp2_with fail
  go_ret
  exact ⟨rfl, HB2.out⟩
end Go.Proofs.Ytaopbgildkjpcaa.Bk
