/- What the library's comparisons, and the document's own comparison of bytes, answer. -/
import Derived.Test.YtobjiamdljjkjaaRows
import Derived.Test.YtobjiamdljjkjaaLift
import Derived.Test.YtobjiamdljjkjaaIkm
import Derived.WalkLawsBesides
import Derived.WalkSpells
import Derived.Deep.QuietTactic
import Derived.BigQuiet
import Derived.RowKit3
import Derived.LoopTactic
import Derived.Outline
import Derived.Lib.BytesEntry
import Derived.Lib.Strings
namespace Go.Proofs.Ytobjiamdljjkjaa.Ik
set_option linter.unusedVariables false
open Go.RowKit Lift
/-- A byte. -/
abbrev vb (c : Nat) : Value := .int .u8 (c : Int)
theorem cells_at {w : World} {ad : Addr} {bs : List Nat} (h : ∀ (j : Nat) (u : Value), (bs.map vb)[j]? = some u → w.cell? (ad.add j) = some u) :
    ∀ (j c : Nat), bs[j]? = some c → w.cell? (ad.add j) = some (.int .u8 (c : Int)) :=
  fun j c hj => h j _ (by rw [List.getElem?_map, hj]; rfl)

theorem str_list (bs : List Nat) : (str bs).data.toList = u8s bs := by
  have h : ∀ (l : List Nat) (r : ByteArray), ((l.map fun b : Nat => (b : Int)).foldl (fun r n => r.push (UInt8.ofNat n.toNat)) r).data.toList = r.data.toList ++ u8s l := by
    intro l
    induction l with
    | nil => intro r; simp [u8s]
    | cons c l ih =>
      intro r
      rw [List.map_cons, List.foldl_cons, ih]
      simp [u8s, ByteArray.push]
  have := h bs ByteArray.empty
  unfold str
  rw [this]
  rfl
theorem str_eq {x y : List Nat} (hx : ∀ a, a ∈ x → a < 256) (hy : ∀ a, a ∈ y → a < 256) : ((str x).toList == (str y).toList) = decide (x = y) := by
  rw [Lib.toList_data, Lib.toList_data, str_list, str_list]
  rw [Bool.eq_iff_iff, beq_iff_eq, decide_eq_true_iff]
  exact u8s_inj hx hy
theorem str_less {x y : List Nat} (hx : ∀ a, a ∈ x → a < 256) (hy : ∀ a, a ∈ y → a < 256) : Op.bytesLess (str x).toList (str y).toList = decide (cmpB x y < 0) := by
  rw [Lib.toList_data, Lib.toList_data, str_list, str_list]
  exact bytesLess_eq x y hx hy

theorem run_bytes_lies {P : Program} {w : World} {B c : Nat} {A : Option Addr} {bs : List Nat} (hl : Lies w B A (bs.map vb)) : Sem.run P (Extern.Bytes.bytesOf (.slice A bs.length c)) w = .ok (str bs) w := by
  have some_ : ∀ ad : Addr, (∀ j u, (bs.map vb)[j]? = some u → w.cell? (ad.add j) = some u) → Sem.run P (Extern.Bytes.bytesOf (.slice (some ad) bs.length c)) w = .ok (str bs) w := by
    intro ad hc
    have h := Lib.run_loadBytesX (P := P) w (bs.map fun b : Nat => (b : Int)) ad .empty (fun j x hj => by
      rw [List.getElem?_map] at hj
      obtain ⟨n, hn, rfl⟩ := Option.map_eq_some_iff.1 hj
      exact cells_at hc j n hn)
    rw [List.length_map] at h
    show Sem.run P (Extern.Bytes.loadBytes ad bs.length .empty) w = _
    rw [h]
    congr 1
    have e : (str bs).data = (u8s bs).toArray := by rw [← str_list]
    have : ∀ b : ByteArray, b.data = (u8s bs).toArray → (⟨ByteArray.empty.data ++ (Lib.bytesOf (bs.map fun b : Nat => (b : Int))).toArray⟩ : ByteArray) = b := by
      intro b hb
      cases b
      simp only at hb
      subst hb
      congr 1
      simp [Lib.bytesOf, u8s, Function.comp_def]
    exact this _ e
  rcases hl with h0 | ⟨ad, rfl, _, hc⟩
  · have hb : bs = [] := by simpa using h0
    subst hb
    rcases A with _ | ad
    · rfl
    · exact some_ ad (by simp)
  · exact some_ ad hc

theorem bytealg_run (A1 A2 : Option Addr) (c1 c2 B1 B2 : Nat) (x y : List Nat) (w : World) (h1 : Lies w B1 A1 (x.map vb)) (h2 : Lies w B2 A2 (y.map vb)) (hx : ∀ a, a ∈ x → a < 256) (hy : ∀ a, a ∈ y → a < 256) :
    Sem.run Try.prog (callFunc 99 #[.slice A1 x.length c1, .slice A2 y.length c2]) w = .ok (.value (.int .i64 (cmpB x y))) w := by
  rw [run_callFunc_extern Try.func99 (by kernel_rfl) (by kernel_rfl) (by kernel_rfl) (e := Extern.BytealgCompare.compare) (by kernel_rfl)]
  have : Sem.run Try.prog (Extern.BytealgCompare.compare #[.slice A1 x.length c1, .slice A2 y.length c2]) w = .ok (.int .i64 (cmpB x y)) w := by
    change Sem.run Try.prog (do pure (goInt (Extern.BytealgCompare.cmp (← Extern.Bytes.bytesOf (.slice A1 x.length c1)) (← Extern.Bytes.bytesOf (.slice A2 y.length c2))))) w = _
    simp only [Sem.run_bind, run_bytes_lies h1, run_bytes_lies h2, Sem.run_pure, Result.andThen]
    rw [Lib.cmp_eq, str_list, str_list, compareBytes_eq x y hx hy]
    rfl
  rw [this]
  rfl

theorem bcmp_any (A1 A2 : Option Addr) (c1 c2 B1 B2 : Nat) (x y : List Nat) (w : World) (h1 : Lies w B1 A1 (x.map vb)) (h2 : Lies w B2 A2 (y.map vb)) (hx : ∀ a, a ∈ x → a < 256) (hy : ∀ a, a ∈ y → a < 256) :
    Calls Try.prog 77 #[.slice A1 x.length c1, .slice A2 y.length c2] w fun e w' => e = .returned (.int .i64 (cmpB x y)) ∧ w = w' := by
  have hr := bytealg_run A1 A2 c1 c2 B1 B2 x y w h1 h2 hx hy
  clear h1 h2 hx hy
  go_enter Try.func77, Try.ntmps77
  go_wp2
  go_ret
  exact ⟨rfl, rfl⟩

theorem nanu_any (a : Int) (w : World) : Calls Try.prog 100 #[.int .u64 a] w fun e w' => e = .returned (.bool false) ∧ w = w' := by
  go_enter Try.func100, Try.ntmps100
  go_wp2
  go_ret
  exact ⟨by simp, rfl⟩
theorem nani_any (a : Int) (w : World) : Calls Try.prog 101 #[.int .i64 a] w fun e w' => e = .returned (.bool false) ∧ w = w' := by
  go_enter Try.func101, Try.ntmps101
  go_wp2
  go_ret
  exact ⟨by simp, rfl⟩
theorem cmpu_any (a b : Int) (w : World) : Calls Try.prog 78 #[.int .u64 a, .int .u64 b] w fun e w' => e = .returned (.int .i64 (cmp3 a b)) ∧ w = w' := by
  by_cases h1 : a < b
  · have e : cmp3 a b = -1 := by unfold cmp3; rw [if_pos h1]
    rw [e]
    clear e
    go_enter Try.func78, Try.ntmps78
    go_wp2_with (refine (nanu_any _ _).mono ?_; rintro e w' ⟨rfl, rfl⟩)
    go_ret
    exact ⟨rfl, rfl⟩
  · have d1 : decide (a < b) = false := by simpa using h1
    by_cases h2 : b < a
    · have e : cmp3 a b = 1 := by unfold cmp3; rw [if_neg h1, if_pos h2]
      rw [e]
      clear e
      go_enter Try.func78, Try.ntmps78
      go_wp2_with (refine (nanu_any _ _).mono ?_; rintro e w' ⟨rfl, rfl⟩)
      go_ret
      exact ⟨rfl, rfl⟩
    · have d2 : decide (b < a) = false := by simpa using h2
      have e : cmp3 a b = 0 := by unfold cmp3; rw [if_neg h1, if_neg h2]
      rw [e]
      clear e
      go_enter Try.func78, Try.ntmps78
      go_wp2_with (refine (nanu_any _ _).mono ?_; rintro e w' ⟨rfl, rfl⟩)
      go_ret
      exact ⟨rfl, rfl⟩
theorem cmpi_any (a b : Int) (w : World) : Calls Try.prog 79 #[.int .i64 a, .int .i64 b] w fun e w' => e = .returned (.int .i64 (cmp3 a b)) ∧ w = w' := by
  by_cases h1 : a < b
  · have e : cmp3 a b = -1 := by unfold cmp3; rw [if_pos h1]
    rw [e]
    clear e
    go_enter Try.func79, Try.ntmps79
    go_wp2_with (refine (nani_any _ _).mono ?_; rintro e w' ⟨rfl, rfl⟩)
    go_ret
    exact ⟨rfl, rfl⟩
  · have d1 : decide (a < b) = false := by simpa using h1
    by_cases h2 : b < a
    · have e : cmp3 a b = 1 := by unfold cmp3; rw [if_neg h1, if_pos h2]
      rw [e]
      clear e
      go_enter Try.func79, Try.ntmps79
      go_wp2_with (refine (nani_any _ _).mono ?_; rintro e w' ⟨rfl, rfl⟩)
      go_ret
      exact ⟨rfl, rfl⟩
    · have d2 : decide (b < a) = false := by simpa using h2
      have e : cmp3 a b = 0 := by unfold cmp3; rw [if_neg h1, if_neg h2]
      rw [e]
      clear e
      go_enter Try.func79, Try.ntmps79
      go_wp2_with (refine (nani_any _ _).mono ?_; rintro e w' ⟨rfl, rfl⟩)
      go_ret
      exact ⟨rfl, rfl⟩

/-- The first of three numbers that is not 0. -/
def first3 (a b c : Int) : Int := if a ≠ 0 then a else if b ≠ 0 then b else c
set_option maxRecDepth 100000 in
theorem or_any (g : Nat) (a b c : Int) (w : World) (h0 : w.cell? ⟨g, 0, none⟩ = some (.int .i64 a)) (h1 : w.cell? ⟨g, 1, none⟩ = some (.int .i64 b)) (h2 : w.cell? ⟨g, 2, none⟩ = some (.int .i64 c)) :
    Calls Try.prog 76 #[.slice (some ⟨g, 0, none⟩) 3 3] w fun e w' => e = .returned (.int .i64 (first3 a b c)) ∧ w = w' := by
  unfold first3
  by_cases ha : a = 0
  · subst ha
    rw [if_neg (by simp)]
    by_cases hb : b = 0
    · subst hb
      rw [if_neg (by simp)]
      by_cases hc : c = 0
      · subst hc
        go_enter Try.func76, Try.ntmps76
        go_wp2
        refine wp_loop_rounds 4 ?_
        rw [rounds_succ]
        go_wp2
        rw [rounds_succ]
        go_wp2
        rw [rounds_succ]
        go_wp2
        rw [rounds_succ]
        go_wp2
        go_ret
        exact ⟨rfl, rfl⟩
      · have d3 : (c != 0) = true := by simpa using hc
        go_enter Try.func76, Try.ntmps76
        go_wp2
        refine wp_loop_rounds 3 ?_
        rw [rounds_succ]
        go_wp2
        rw [rounds_succ]
        go_wp2
        rw [rounds_succ]
        go_wp2
        go_ret
        exact ⟨rfl, rfl⟩
    · have d2 : (b != 0) = true := by simpa using hb
      rw [if_pos hb]
      go_enter Try.func76, Try.ntmps76
      go_wp2
      refine wp_loop_rounds 2 ?_
      rw [rounds_succ]
      go_wp2
      rw [rounds_succ]
      go_wp2
      go_ret
      exact ⟨rfl, rfl⟩
  · have d1 : (a != 0) = true := by simpa using ha
    rw [if_pos ha]
    go_enter Try.func76, Try.ntmps76
    go_wp2
    refine wp_loop_rounds 1 ?_
    rw [rounds_succ]
    go_wp2
    go_ret
    exact ⟨rfl, rfl⟩
set_option maxRecDepth 100000 in
set_option maxHeartbeats 400000 in
theorem rbcmp_any (A1 A2 : Option Addr) (c1 c2 B1 B2 : Nat) (x y : List Nat) (w : World) (h1 : Lies w B1 A1 (x.map vb)) (h2 : Lies w B2 A2 (y.map vb)) (hc1 : x.length ≤ c1) (hc2 : y.length ≤ c2)
    (hm1 : x.length ≤ maxLen) (hm2 : y.length ≤ maxLen) (hx : ∀ a, a ∈ x → a < 256) (hy : ∀ a, a ∈ y → a < 256) :
    Calls Try.prog 44 #[.slice A1 x.length c1, .slice A2 y.length c2] w fun e w' => e = .returned (.int .i64 (cmpB x y)) ∧ ∃ n, w' = w.drewN n := by
  unfold maxLen at hm1 hm2
  have H1 := Lib.hid h1
  have H2 := Lib.hid h2
  have X8 := Lib.hid hx
  have Y8 := Lib.hid hy
  clear h1 h2 hx hy
  go_enter Try.func44, Try.ntmps44
  go_wp2_with fail
  go_loopw [5] (fun i wr => ∃ k n : Nat, k ≤ x.length ∧ k ≤ y.length ∧ i = .int .i64 k ∧ Hid (wr = w.drewN n) ∧ Hid (cmpB x y = cmpB (x.drop k) (y.drop k))) (fun i _ => x.length + 1 - (intOf i).toNat)
  case atStart => exact ⟨0, 0, by omega, by omega, rfl, Lib.hid rfl, Lib.hid rfl⟩
  case round =>
    obtain ⟨k, n, hk1, hk2, rfl, hd, hv⟩ := hrel
    by_cases hlt : k < x.length ∧ k < y.length
    · obtain ⟨l1, l2⟩ := hlt
      obtain ⟨a1, e1, _, g1⟩ := H1.out.place (by simp; omega)
      obtain ⟨a2, e2, _, g2⟩ := H2.out.place (by simp; omega)
      subst e1
      subst e2
      obtain ⟨a, ha⟩ : ∃ c : Nat, x[k]? = some c := ⟨_, List.getElem?_eq_getElem l1⟩
      obtain ⟨b, hb⟩ : ∃ c : Nat, y[k]? = some c := ⟨_, List.getElem?_eq_getElem l2⟩
      have d1 : wr.cell? (a1.add k) = some (vb a) := by rw [hd.out]; simpa using cells_at g1 k a ha
      have d2 : wr.cell? (a2.add k) = some (vb b) := by rw [hd.out]; simpa using cells_at g2 k b hb
      have hs := cmpB_drop ha hb
      have HS := Lib.hid hs
      clear ha hb g1 g2 hs
      by_cases hab : a < b
      · rw [if_pos hab] at HS
        have t1 : ((a : Int) != (b : Int)) = true := by rw [bne_iff_ne]; omega
        go_wp2_with fail
        go_quiet (fail)
        go_wp2_with fail
        go_quiet (fail)
        go_wp2_with fail
        go_ret
        exact ⟨by rw [hv.out, HS.out]; rfl, _, by rw [hd.out, World.drewN_drewN, World.drewN_drewN]⟩
      · by_cases hba : b < a
        · rw [if_neg hab, if_pos hba] at HS
          have t1 : ((a : Int) != (b : Int)) = true := by rw [bne_iff_ne]; omega
          have t2 : decide ((a : Int) < (b : Int)) = false := by simp; omega
          go_wp2_with fail
          go_quiet (fail)
          go_wp2_with fail
          go_quiet (fail)
          go_wp2_with fail
          go_ret
          exact ⟨by rw [hv.out, HS.out]; rfl, _, by rw [hd.out, World.drewN_drewN, World.drewN_drewN]⟩
        · rw [if_neg hab, if_neg hba] at HS
          obtain rfl : a = b := by omega
          go_wp2_with fail
          go_quiet (fail)
          go_wp2_with fail
          go_roundw
          case rel => exact ⟨k + 1, n + nq, by omega, by omega, by go_num, Lib.hid (by rw [hd.out, World.drewN_drewN]), Lib.hid (by rw [hv.out, HS.out])⟩
          case measure => simp [intOf]; omega
    · have he := cmpB_end (x := x) (y := y) (k := k) (by omega) hk1 hk2
      have HE := Lib.hid he
      clear he
      by_cases l1 : k < x.length
      · have e : cmp3 (x.length : Int) y.length = 1 := by unfold cmp3; rw [if_neg (by omega), if_pos (by omega)]
        have q : Hid (cmpB x y = 1) := Lib.hid (by rw [hv.out, HE.out, e])
        have l2 : k = y.length := by omega
        subst l2
        clear hlt e
        go_wp2_with fail
        go_ret
        exact ⟨by rw [q.out]; rfl, n, hd.out⟩
      · have l2 : k = x.length := by omega
        subst l2
        clear hlt l1
        by_cases l3 : x.length < y.length
        · have e : cmp3 (x.length : Int) y.length = -1 := by unfold cmp3; rw [if_pos (by omega)]
          have q : Hid (cmpB x y = -1) := Lib.hid (by rw [hv.out, HE.out, e])
          clear e
          go_wp2_with fail
          go_ret
          exact ⟨by rw [q.out]; rfl, n, hd.out⟩
        · have e : cmp3 (x.length : Int) y.length = 0 := by unfold cmp3; rw [if_neg (by omega), if_neg (by omega)]
          have q : Hid (cmpB x y = 0) := Lib.hid (by rw [hv.out, HE.out, e])
          clear e
          go_wp2_with fail
          go_ret
          exact ⟨by rw [q.out]; rfl, n, hd.out⟩
end Go.Proofs.Ytobjiamdljjkjaa.Ik
