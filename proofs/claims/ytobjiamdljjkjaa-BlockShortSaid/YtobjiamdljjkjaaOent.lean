/- Package block: one entry, appended: what appendEntry answers. -/
import Derived.Test.YtobjiamdljjkjaaOnum
import Derived.Test.YtobjiamdljjkjaaPut
import Derived.Test.YtobjiamdljjkjaaBbld
namespace Go.Proofs.Ytobjiamdljjkjaa.Bk
set_option linter.unusedVariables false
set_option linter.unusedSimpArgs false
open Go.RowKit Lift Ik Sk Vn
/-- The first j of the three numbers of an entry. -/
def three (a b c : Nat) : Nat → List Nat
  | 0 => []
  | 1 => enc a
  | 2 => enc a ++ enc b
  | _ => enc a ++ (enc b ++ enc c)
def nth3 (a b c : Nat) : Nat → Nat
  | 0 => a
  | 1 => b
  | _ => c
theorem three_next (a b c j : Nat) (hj : j < 3) : three a b c (j + 1) = three a b c j ++ enc (nth3 a b c j) := by
  match j, hj with
  | 0, _ => simp [three, nth3]
  | 1, _ => simp [three, nth3]
  | 2, _ => simp [three, nth3]
theorem three_len (a b c j : Nat) : (three a b c j).length ≤ 30 := by
  have h1 := (enc_len a).2
  have h2 := (enc_len b).2
  have h3 := (enc_len c).2
  match j with
  | 0 => simp [three]
  | 1 => simp [three]; omega
  | 2 => simp [three]; omega
  | j + 3 => simp [three]; omega
set_option maxRecDepth 100000 in
set_option maxHeartbeats 1600000 in
theorem oentry_any (base cc ck cv : Nat) (v : Value) (Ak Av : Option Addr) (xs : List Nat) (t : T) (w : World) (h : w.ownsRow base 5 1 v xs.length (xs.map vb)) (hbase : base ≤ w.heap.size)
    (hk : Off v w Ak ((bytesK t.k).map vb)) (hck : (bytesK t.k).length ≤ ck) (hmk : ck ≤ maxLen) (hv : Off v w Av (t.val.map vb)) (hcv : t.val.length ≤ cv) (hmv : cv ≤ maxLen)
    (hcc : cc ≤ (bytesK t.k).length) (hxn : xs.length ≤ 140737480000000) (hkn : (bytesK t.k).length ≤ 1000000) (hvn : t.val.length ≤ 1000000) :
    Calls Try.prog 56 #[v, .int .i64 (cc : Int), .slice Ak (bytesK t.k).length ck, .slice Av t.val.length cv] w (Grew base v w (xs ++ one cc t)) := by
  have hone : one cc t = three cc ((bytesK t.k).length - cc) t.val.length 3 ++ ((bytesK t.k).drop cc ++ t.val) := by unfold one three; simp
  rw [hone]
  clear hone
  generalize bytesK t.k = kb at *
  generalize t.val = val at *
  obtain ⟨r, hr⟩ : ∃ r, kb.length - cc = r := ⟨_, rfl⟩
  obtain ⟨Ar, hAr, -, hcut⟩ := cut_from Ak kb.length ck cc hcc hck hmk
  rw [hr] at hcut hAr
  have hdl : (kb.drop cc).length = r := by rw [List.length_drop]; exact hr
  have hrest : Off v w Ar ((kb.drop cc).map vb) := LiesP.cut hk (fun h => hAr (by rw [← hdl]; exact h)) (List.prefix_refl _)
  have hix : ∀ (j : Nat) (W : World), j < 3 → Sem.run Try.prog (Instr.index 130 (.agg #[.int .i64 (cc : Int), .int .i64 (r : Int), .int .i64 (val.length : Int)]) (.int .i64 (j : Int))) W = .ok (.int .i64 ((nth3 cc r val.length j : Nat) : Int)) W := by
    intro j W hj
    have h3 : j = 0 ∨ j = 1 ∨ j = 2 := by omega
    rcases h3 with rfl | rfl | rfl
    · show Sem.run Try.prog (Instr.index 130 (.agg #[.int .i64 (cc : Int), .int .i64 (r : Int), .int .i64 (val.length : Int)]) (.int .i64 0)) W = .ok (.int .i64 (cc : Int)) W
      kernel_rfl
    · show Sem.run Try.prog (Instr.index 130 (.agg #[.int .i64 (cc : Int), .int .i64 (r : Int), .int .i64 (val.length : Int)]) (.int .i64 1)) W = .ok (.int .i64 (r : Int)) W
      kernel_rfl
    · show Sem.run Try.prog (Instr.index 130 (.agg #[.int .i64 (cc : Int), .int .i64 (r : Int), .int .i64 (val.length : Int)]) (.int .i64 2)) W = .ok (.int .i64 (val.length : Int)) W
      kernel_rfl
  have hrn : r ≤ 1000000 := by omega
  have hnt : ∀ j, nth3 cc r val.length j ≤ 1000000 := fun j => by
    unfold nth3
    split <;> omega
  rw [hr] 
  have HO := Lib.hid h
  have HZ := Lib.hid hbase
  have HRE := Lib.hid hrest
  have HV := Lib.hid hv
  have HDL := Lib.hid hdl
  have HIX := Lib.hid hix
  have HNT := Lib.hid hnt
  have hmk' := hmk
  unfold maxLen at hmk'
  clear h hbase hk hv hAr hr hdl hrest hix hnt
  go_enter Try.func56, Try.ntmps56
  go_wp2_with fail
  go_loopw [0, 21] (fun o i wr => ∃ j : Nat, j ≤ 3 ∧ i = .int .i64 (j : Int) ∧ Hid (wr.ownsRow base 5 1 o (xs ++ three cc r val.length j).length ((xs ++ three cc r val.length j).map vb)) ∧ Hid (Onto v o w wr)) (fun _ i _ => 10 - (intOf i).toNat)
  case atStart => exact ⟨0, by omega, rfl, by simpa [three] using HO, Lib.hid (Onto.refl _ _)⟩
  case round =>
    obtain ⟨j, hj, rfl, hown, hb⟩ := hrel
    by_cases hlt : j < 3
    · obtain ⟨n, hn⟩ : ∃ n, n = nth3 cc r val.length j := ⟨_, rfl⟩
      have hi := fun W => HIX.out j W hlt
      have hn6 : n ≤ 1000000 := by rw [hn]; exact HNT.out j
      rw [← hn] at hi
      have HP : Hid (Calls Try.prog 92 #[.slice none 0 0, .int .u64 (n : Int)] wr (Vt.Made wr.heap.size wr ([] ++ enc n))) := Lib.hid (Vt.put_calls none 0 n [] wr (.inl rfl) (by simp) (by omega))
      have HE := Lib.hid (three_next cc r val.length j hlt)
      rw [← hn] at HE
      have HJ := Lib.hid hn
      clear hn
      go_wp2_with fail
      refine HP.out.mono ?_
      intro e W1 hmade
      rw [List.nil_append] at hmade
      obtain ⟨v1, rfl, hown1, -, hb1⟩ := made_byts hmade
      obtain ⟨A1, c1, rfl, q1, q2, q3⟩ := own_parts hown1
      have hl3 := three_len cc r val.length j
      have he2 := (enc_len n).2
      obtain ⟨o2, W2, hr2, hown2, hon2⟩ := append_bytes (c := c1) (own_later hown.out hb1) q3 (by rw [List.length_append]; omega) (Nat.le_trans HZ.out (Nat.le_trans hb.out.keep.size hb1.size))
      rw [List.append_assoc, ← HE.out] at hown2
      have HB2 := Lib.hid ((hb.out.post hb1).trans hon2)
      have HO2 := Lib.hid hown2
      have HR2 := Lib.hid hr2
      clear hmade hown1 hb1 q3 hown2 hon2 hr2 hl3 HP
      go_wp2_with (at_builtin; refine wpList_append_run rfl _ _ 25 rfl rfl rfl HR2.out ?_)
      go_roundw
      case rel => exact ⟨j + 1, by omega, by go_num, HO2, HB2⟩
      case measure => simp [intOf]; omega
    · obtain rfl : j = 3 := by omega
      have hl3 := three_len cc r val.length 3
      obtain ⟨o2, W2, hr2, hown2, hon2⟩ := append_bytes (c := ck - cc) hown.out (HRE.out.onto hb.out).lies (by rw [List.length_append, HDL.out]; omega) (Nat.le_trans HZ.out hb.out.keep.size)
      rw [HDL.out] at hr2
      have hb2 := hb.out.trans hon2
      obtain ⟨o3, W3, hr3, hown3, hon3⟩ := append_bytes (c := cv) hown2 (HV.out.onto hb2).lies (by rw [List.length_append, List.length_append, HDL.out]; omega) (Nat.le_trans HZ.out hb2.keep.size)
      rw [List.append_assoc, List.append_assoc] at hown3
      have HB3 := Lib.hid (hb2.trans hon3)
      have HO3 := Lib.hid hown3
      have HR2 := Lib.hid hr2
      have HR3 := Lib.hid hr3
      clear hr2 hown2 hon2 hb2 hr3 hown3 hon3 hl3
      go_wp2_with (at_builtin; first | refine wpList_append_run rfl _ _ 25 rfl rfl rfl HR2.out ?_ | refine wpList_append_run rfl _ _ 25 rfl rfl rfl HR3.out ?_)
      go_ret
      exact ⟨_, rfl, HO3.out, HB3.out⟩
end Go.Proofs.Ytobjiamdljjkjaa.Bk
