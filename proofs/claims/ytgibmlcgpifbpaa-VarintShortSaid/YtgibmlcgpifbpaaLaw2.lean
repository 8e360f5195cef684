/- What the laws on package varint share: the example of the document, and how a made slice is handed on. -/
import Derived.Test.YtgibmlcgpifbpaaPuti
namespace Go.Proofs.Ytgibmlcgpifbpaa.Vt
set_option linter.unusedVariables false
open Go.RowKit Lift Vn

theorem Made.parts {B : Nat} {w w' : World} {bs : List Nat} {e : Ending} (h : Made B w bs e w') :
    ∃ A c, e = .returned (.slice A bs.length c) ∧ bs.length ≤ c ∧ c ≤ maxLen ∧ Lies w' w'.heap.size A (bs.map vb) ∧ Below B w w' := by
  obtain ⟨v, rfl, ho, hb⟩ := h
  have ho' := ho
  rcases ho.2 with ⟨rfl, h0⟩ | ⟨g, cap, cur, rfl, _, _, hnc, hcm, _⟩
  · rw [h0] at ho' ⊢
    exact ⟨none, 0, rfl, Nat.le_refl _, by decide, Lies.of_own ho', hb⟩
  · exact ⟨_, cap, rfl, hnc, hcm, Lies.of_own ho', hb⟩

theorem bytes_nat (zs : List Int) (h : ∀ n, n ∈ zs → (Lit.int .u8 n).wf = true) : ∃ bs : List Nat, zs = bs.map (fun b : Nat => (b : Int)) ∧ ∀ b, b ∈ bs → b < 256 := by
  obtain ⟨bs, h1, h2⟩ := as_nat zs fun n hn => (u8_of (h n hn)).1
  exact ⟨bs, h1, fun b hb => by have := (u8_of (h _ (h2 b hb))).2; omega⟩
theorem num_any (n : Int) (w : World) : Calls Try.prog 15 #[.int .i64 n] w fun e w' => e = .returned (.int .i64 n) ∧ w = w' := by
  go_enter Try.func15, Try.ntmps15
  go_wp2
  go_ret
  exact ⟨rfl, rfl⟩

/-- true, and all old memory as it was. -/
def Yes (w : World) (e : Ending) (w' : World) : Prop := e = .returned (.bool true) ∧ Below w.heap.size w w'

set_option maxRecDepth 100000 in
set_option maxHeartbeats 400000 in
theorem alive_any (w : World) : Calls Try.prog 8 #[] w (Yes w) := by
  have hp := put_calls none 0 300 [] w (.inl rfl) (by simp) (by decide)
  have he : ([] : List Nat) ++ enc 300 = [172, 2] := by decide +kernel
  rw [he] at hp
  have HP := Lib.hid hp
  clear hp he
  go_enter Try.func8, Try.ntmps8
  go_wp2_with fail
  refine HP.out.mono ?_
  intro e w1 hm
  obtain ⟨A, c, rfl, h2c, hcm, hl, hb⟩ := hm.parts
  obtain ⟨ad, rfl, _, hcell⟩ := hl.place (by simp)
  have hg := get_calls (some ad) c w1.heap.size [172, 2] 0 w1 hl h2c (by simp [maxLen]) (by simp)
  have hr : res [172, 2] 0 = (300, 2, 0) := by decide +kernel
  rw [hr] at hg
  have hg : Calls Try.prog 13 #[.slice (some ad) 2 c, .int .i64 0] w1 fun e w' => e = .returned (.tuple #[.int .u64 300, .int .i64 2, .int .i64 0]) ∧ w1 = w' := hg
  have c0 : w1.cell? ad = some (.int .u8 172) := hcell 0 _ rfl
  have c1 : w1.cell? ⟨ad.block, ad.off + 1, none⟩ = some (.int .u8 2) := hcell 1 _ rfl
  have HG := Lib.hid hg
  have HB := Lib.hid hb
  clear hg hl hb hr hcell hm
  go_wp2_with fail
  refine HG.out.mono ?_; rintro e w' ⟨rfl, rfl⟩
  go_wp2_with fail
  refine (num_any _ _).mono ?_; rintro e w' ⟨rfl, rfl⟩
  go_wp2_with fail
  go_ret
  exact ⟨rfl, HB.out⟩
theorem conv_made {w : World} {B : Nat} {v : Value} {bs : List Nat} (h : w.ownsRow B 5 1 v bs.length (bs.map vb)) : Sem.run Try.prog (convert 22 9 v) w = .ok (.string (str bs)) w := by
  obtain ⟨A, c, rfl, _, _, hl⟩ := own_parts h
  exact run_string_lies (P := Try.prog) (c := c) _ _ 5 Try.underlying22 Try.underlying5 Try.underlying9 hl

theorem res_enc (bs : List Nat) (x : Nat) (hx : x < 18446744073709551616) : res (bs ++ enc x) (bs.length : Int) = (x, bs.length + (enc x).length, 0) := by
  have h := decAt_enc bs [] x hx
  rw [List.append_nil] at h
  unfold res
  rw [if_neg (by simp; omega), Int.toNat_natCast, h]
  simp

theorem fresh_copy (A : Option Addr) (c B : Nat) (bs : List Nat) (W : World) (hl : Lies W B A (bs.map vb)) (hn : bs.length ≤ 200) :
    ∃ A2 c2 W2, Sem.run Try.prog (Builtin.append_ #[22, 22] 22 #[.slice none 0 0, .slice A bs.length c]) W = .ok (.slice A2 bs.length c2) W2 ∧ bs.length ≤ c2 ∧ c2 ≤ maxLen ∧
      Lies W2 W2.heap.size A2 (bs.map vb) ∧ Below W.heap.size W W2 := by
  obtain ⟨v2, W2, hr2, hown, hb2, hs2⟩ := run_append_lies (P := Try.prog) (w := W) (base := W.heap.size) (m := bs.length) (c := c) 22 22 5 (.int .u8 0) 1 1 Try.underlying22 (by kernel_rfl) rfl (by decide)
      (fun u hu => by simp at hu; obtain ⟨_, _, rfl⟩ := hu; rfl) (World.ownsRow_nil _ _ _ _) hl (by simp) (by unfold maxLen; omega) (by omega) (Nat.le_refl _)
  rw [Nat.zero_add, List.nil_append] at hown
  obtain ⟨A2, c2, rfl, hc2, hm3, hl2⟩ := own_parts hown
  exact ⟨A2, c2, W2, hr2, hc2, hm3, hl2, hb2⟩

end Go.Proofs.Ytgibmlcgpifbpaa.Vt
