/- The project's own hash, and the function that goes through a key's places. -/
import Derived.Test.YtndkehadboekbaaLb
import Derived.RangeFuncNested
import Derived.RangeFuncBound
import Derived.RangeFuncCalls
import Derived.RangeFuncLeaves
import Derived.Shelf.Abstract
import Derived.Shelf.RegionOpen
import Derived.WalkKit
import Derived.OwnWalkIn
import Derived.TacticsInMore
import Derived.LoopNIn
import Derived.LoopIn
namespace Go.Proofs.Ytndkehadboekbaa.Bl
set_option linter.unusedVariables false
set_option linter.unusedSimpArgs false
open Go.RowKit Lift Ik Sq
set_option maxRecDepth 100000 in
set_option maxHeartbeats 800000 in
theorem ohsh_at (A : Option Addr) (c B : Nat) (bs : List Nat) (w : World) (hl : Lies w B A (bs.map vb)) (hc : bs.length ≤ c) (hm : c ≤ maxLen) (h8 : ∀ x, x ∈ bs → x < 256) :
    Calls Try.prog 12 #[.slice A bs.length c] w fun e w' => e = .returned (.int .u32 (hsh bs : Nat)) ∧ w = w' := by
  have HL := Lib.hid hl
  have H8 := Lib.hid h8
  unfold maxLen at hm
  clear hl h8
  go_enter Try.func12, Try.ntmps12
  go_wp2_with fail
  go_loop [3, 8] (fun v i => ∃ j H : Nat, j ≤ bs.length ∧ v = .int .u32 (H : Int) ∧ i = .int .i64 (j : Int) ∧ H < 4294967296 ∧ Hid (H = hsh (bs.take j))) (fun _ i => bs.length + 1 - (intOf i).toNat)
  case atStart => exact ⟨0, 2166136261, Nat.zero_le _, rfl, rfl, by omega, Lib.hid rfl⟩
  case round =>
    obtain ⟨j, H, hj, rfl, rfl, hH, hrel⟩ := hrel
    by_cases hlt : j < bs.length
    · obtain ⟨d, hd⟩ : ∃ d, bs[j]? = some d := ⟨_, List.getElem?_eq_getElem hlt⟩
      obtain ⟨ad, rfl, -, hcell⟩ := HL.out.place (by rw [List.length_map]; omega)
      have g0 := cells_at hcell j d hd
      have hd8 := H8.out d (List.mem_of_getElem? hd)
      have e1 := fnv_int hH hd8
      have HN : Hid (fnv H d = hsh (bs.take (j + 1))) := Lib.hid (by rw [hsh_next hd, hrel.out])
      have hf := fnv_lt H d
      clear hcell hd
      generalize fnv H d = F at *
      go_wp2_with fail
      go_round
      case rel => exact ⟨j + 1, F, by omega, by first | rfl | rw [e1], by go_num, hf, HN⟩
      case measure => simp [intOf]; omega
    · obtain rfl : j = bs.length := by omega
      have HN : Hid (H = hsh bs) := Lib.hid (by rw [hrel.out, take_all])
      go_wp2_with fail
      go_ret
      exact ⟨by rw [← HN.out]; rfl, rfl⟩
theorem ohsh_any (A : Option Addr) (c B : Nat) (bs : List Nat) (w : World) (hl : Lies w B A (bs.map vb)) (hB : B ≤ w.heap.size) (hc : bs.length ≤ c) (hm : c ≤ maxLen) (h8 : ∀ x, x ∈ bs → x < 256) :
    Calls Try.prog 12 #[.slice A bs.length c] w fun e w' => e = .returned (.int .u32 (hsh bs : Nat)) ∧ Below w.heap.size w w' :=
  (ohsh_at A c B bs w hl hc hm h8).mono fun e w' ⟨h1, h2⟩ => ⟨h1, h2 ▸ Below.refl _ _⟩
theorem rotl_int {h : Nat} (hh : h < 4294967296) : bits .or .u32 ((h : Int) * 32768 % 4294967296) ((h : Int) / 131072) = ((rot h : Nat) : Int) := by
  have e1 : (h : Int) / 131072 = ((h / 131072 : Nat) : Int) := by omega
  have e2 : (h : Int) * 32768 % 4294967296 = ((h * 32768 % 4294967296 : Nat) : Int) := by omega
  rw [e1, e2, u32_or_nat _ _ (by omega) (by omega), Nat.or_comm]
  rfl
set_option maxRecDepth 100000 in
set_option maxHeartbeats 800000 in
theorem rotl_any {h : Nat} (hh : h < 4294967296) (w : World) : Calls Try.prog 17 #[.int .u32 (h : Int), .int .i64 (-17)] w fun e w' => e = .returned (.int .u32 (rot h : Nat)) ∧ w = w' := by
  have e1 := rotl_int hh
  have e2 : bits .and .u64 (IntKind.u64.wrap (-17)) 31 = 15 := by kernel_rfl
  go_enter Try.func17, Try.ntmps17
  go_wp2_with fail
  go_ret
  exact ⟨by first | rfl | rw [e1], rfl⟩
/-- The world behind a call of places: four variables of its own. -/
def four (w : World) (k size h d : Nat) : World :=
  (((w.alloc (.cells #[.int .i64 (k : Int)] 3)).alloc (.cells #[.int .u64 ((8 * size : Nat) : Int)] 35)).alloc (.cells #[.int .u32 (h : Int)] 28)).alloc (.cells #[.int .u32 (d : Int)] 28)
abbrev box4 (b : Nat) : Array Value := #[.pointer (some ⟨b + 1 + 1, 0, none⟩), .pointer (some ⟨b, 0, none⟩), .pointer (some ⟨b + 1, 0, none⟩), .pointer (some ⟨b + 1 + 1 + 1, 0, none⟩)]
set_option maxRecDepth 100000 in
set_option maxHeartbeats 800000 in
theorem places_any (A : Option Addr) (c B k size : Nat) (ky : List Nat) (w : World) (hl : Lies w B A (ky.map vb)) (hB : B ≤ w.heap.size) (hc : ky.length ≤ c) (hm : c ≤ maxLen) (h8 : ∀ x, x ∈ ky → x < 256) (hs : size ≤ 10000000) (hk : k ≤ 1000) :
    Calls Try.prog 15 #[.slice A ky.length c, .int .i64 (k : Int), .int .i64 (size : Int)] w fun e w' => e = .returned (.func (.func 18) #[] (box4 w.heap.size)) ∧ w' = four w k size (hsh ky) (rot (hsh ky)) := by
  have hb2 := Joins.below_alloc1 w (.cells #[.int .i64 (k : Int)] 3)
  have HH := Lib.hid fun (W : World) (hW : Below w.heap.size w W) => ohsh_at A c w.heap.size ky W ((hl.up hB).below hW) hc hm h8
  have HR := Lib.hid (fun (W : World) => rotl_any (hsh_lt ky) W)
  have hhl := hsh_lt ky
  clear hl h8
  have e1 : (size : Int) * 8 = ((8 * size : Nat) : Int) := by omega
  have HE := Lib.hid e1
  unfold four
  generalize hsh ky = h at *
  generalize rot h = d at *
  generalize hN : 8 * size = N at *
  clear e1
  have e1 : (size : Int) * 8 = (N : Int) := HE.out
  have hN2 : N ≤ 80000000 := by omega
  clear hN
  go_enter Try.func15, Try.ntmps15
  go_wp2_with fail
  refine (HH.out _ ?_).mono ?_
  · exact ((Below.refl _ w).alloc (Nat.le_refl _) _).alloc (by simp) _
  rintro e w' ⟨rfl, rfl⟩
  clear HH
  go_wp2_with fail
  refine (HR.out _).mono ?_
  rintro e w' ⟨rfl, rfl⟩
  clear HR
  go_wp2_with fail
  go_ret
  exact ⟨rfl, rfl⟩
/-- A key's places, as they come. -/
def pls (m k h d : Nat) (hm : 0 < m) : List (Fin m) := (List.range k).map fun j => ⟨nth h d j % m, Nat.mod_lt _ hm⟩
theorem pls_len (m k h d : Nat) (hm : 0 < m) : (pls m k h d hm).length = k := by unfold pls; rw [List.length_map, List.length_range]
theorem pls_at {m k h d : Nat} (hm : 0 < m) {j : Nat} (hj : j < k) : (pls m k h d hm)[j]? = some ⟨nth h d j % m, Nat.mod_lt _ hm⟩ := by unfold pls; rw [List.getElem?_map, List.getElem?_range hj]; rfl
theorem pls_next {m k h d : Nat} (hm : 0 < m) {j : Nat} (hj : j < k) : (pls m k h d hm).take (j + 1) = (pls m k h d hm).take j ++ [⟨nth h d j % m, Nat.mod_lt _ hm⟩] := by
  rw [List.take_add_one, pls_at hm hj]; rfl
/-- What lies in the blocks from lo to below hi stays. -/
def Mid (lo hi : Nat) (W W' : World) : Prop := ∀ p : Addr, lo ≤ p.block → p.block < hi → W'.cell? p = W.cell? p
theorem mid_t {lo hi : Nat} {A B C : World} (h : Mid lo hi A B) (k : Mid lo hi B C) : Mid lo hi A C := fun p h1 h2 => (k p h1 h2).trans (h p h1 h2)
theorem mid_refl (lo hi : Nat) (W : World) : Mid lo hi W W := fun _ _ _ => rfl
theorem mid_of {lo hi : Nat} {W W' : World} (h : Below hi W W') : Mid lo hi W W' := fun p _ h2 => h.cell h2
theorem mid_b {lo hi : Nat} {w : World} (hn : hi ≤ w.heap.size) (W : World) (l : Nat) (o o' : Obj) (hl : w.heap.size ≤ l) (h : W.heap[l]? = some o) (h2 : o.isCells = false) (h3 : o.isWalk = false) : Mid lo hi W (W.putObj l o') :=
  mid_of (belowK_b hn W l o o' hl h h2 h3)
set_option maxRecDepth 100000 in
set_option maxHeartbeats 1600000 in
/-- The function that goes through a key's places, whatever is done in a round that leaves its four variables alone. -/
theorem pls_in (n lo k m h d l : Nat) (hm : 0 < m) (hm8 : m ≤ 80000000) (hk : k ≤ 1000) (hh : h < 4294967296) (hd : d < 4294967296) (hn : 1 ≤ n) (J Jx : List (Fin m) → World → Prop)
    (hY : ∀ pre (x : Fin m) W, J pre W → pre.length < k → YieldAt Fence.wide (n - 1) Try.prog l #[.int .u64 ((x.val : Nat) : Int)] W fun e W' =>
      (e = .returned (.bool true) ∧ J (pre ++ [x]) W' ∧ Mid lo (lo + 4) W W') ∨ (e = .returned (.bool false) ∧ Jx (pre ++ [x]) W'))
    (W : World) (c0 : W.cell? ⟨lo, 0, none⟩ = some (.int .i64 (k : Int))) (c1 : W.cell? ⟨lo + 1, 0, none⟩ = some (.int .u64 (m : Int))) (c2 : W.cell? ⟨lo + 1 + 1, 0, none⟩ = some (.int .u32 (h : Int))) (c3 : W.cell? ⟨lo + 1 + 1 + 1, 0, none⟩ = some (.int .u32 (d : Int))) (h0 : J [] W) :
    CallsIn Fence.wide n Try.prog 18 (#[.func (.yield l) #[] #[]] ++ box4 lo) W fun e W' => (∃ v, e = .returned v) ∧
      ((∃ ys, ys = pls m k h d hm ∧ J ys W') ∨ (∃ pre, pre <+: pls m k h d hm ∧ Jx pre W')) := by
  have HZ := Lib.hid (nth_zero (h := h) (d := d) hh)
  have HY := Lib.hid hY
  have HC : Hid (W.cell? ⟨lo + 1, 0, none⟩ = some (.int .u64 (m : Int)) ∧ W.cell? ⟨lo + 1 + 1 + 1, 0, none⟩ = some (.int .u32 (d : Int))) := Lib.hid ⟨c1, c3⟩
  clear hY c1 c3
  refine callsIn_of_wp Try.func18 rfl trivial ?_ rfl
  simp only [Try.ntmps18, box4, List.size_toArray, List.length_cons, List.length_nil, Nat.reduceAdd, Nat.reduceSub, Array.replicate_succ, Array.replicate_zero, List.push_toArray, List.append_toArray, List.nil_append, List.cons_append]
  gi_wp2
  gi_loopw [6, 9] (fun at' i wr => ∃ j : Nat, j ≤ k ∧ at' = .int .u32 ((nth h d j : Nat) : Int) ∧ i = .int .i64 (j : Int) ∧ Hid (J ((pls m k h d hm).take j) wr) ∧ Hid (Mid lo (lo + 4) W wr)) (fun _ i _ => k + 1 - (intOf i).toNat)
  case atStart => exact ⟨0, Nat.zero_le _, by rw [HZ.out], rfl, Lib.hid h0, Lib.hid (mid_refl _ _ _)⟩
  case round =>
    obtain ⟨j, hj, rfl, rfl, hJ, hM⟩ := hrel
    by_cases hlt : j < k
    · obtain ⟨H, hH⟩ : ∃ H, H = nth h d j := ⟨_, rfl⟩
      have hXm : H % m < m := Nat.mod_lt _ hm
      obtain ⟨X, hX⟩ : ∃ X, X = H % m := ⟨_, rfl⟩
      have hXl : X < m := by rw [hX]; exact hXm
      have hnext : Hid ((pls m k h d hm).take (j + 1) = (pls m k h d hm).take j ++ [⟨X, hXl⟩]) := Lib.hid (by
        rw [pls_next hm hlt]
        simp only [hX, hH])
      have q0 : (H : Int) % (m : Int) = (X : Int) := by rw [hX]; exact (Int.natCast_emod _ _).symm
      have hH32 : H < 4294967296 := by rw [hH]; exact nth_lt _ _ _
      have e9 : ((H : Int) + (d : Int)) % 4294967296 = ((nth h d (j + 1) : Nat) : Int) := by rw [← nth_next, ← hH]; omega
      have c1 : wr.cell? ⟨lo + 1, 0, none⟩ = some (.int .u64 (m : Int)) := (hM.out ⟨lo + 1, 0, none⟩ (by show lo ≤ lo + 1; omega) (by show lo + 1 < lo + 4; omega)).trans HC.out.1
      have HM := hM
      have n0 : ¬ (m : Int) = 0 := by omega
      have hyy := HY.out _ ⟨X, hXl⟩ wr hJ.out (by rw [List.length_take, pls_len]; omega)
      rw [← hnext.out] at hyy
      have hN := Lib.hid (pls_len m k h d hm)
      rw [← hH]
      have HE := Lib.hid e9
      have hX32 : X < 4294967296 := by rw [hX]; exact Nat.lt_of_le_of_lt (Nat.mod_le _ _) hH32
      obtain ⟨fn, tmps, assign, body, hy, hR⟩ := hyy
      dsimp only at hy
      clear hX e9 hH
      gi_wp2
      refine hR.mono ?_
      rintro e W3 (⟨rfl, hJ3, hk3⟩ | ⟨rfl, hJx3⟩)
      · have c3 : W3.cell? ⟨lo + 1 + 1 + 1, 0, none⟩ = some (.int .u32 (d : Int)) := ((hk3 ⟨lo + 1 + 1 + 1, 0, none⟩ (by show lo ≤ lo + 1 + 1 + 1; omega) (by show lo + 1 + 1 + 1 < lo + 4; omega)).trans (hM.out ⟨lo + 1 + 1 + 1, 0, none⟩ (by show lo ≤ lo + 1 + 1 + 1; omega) (by show lo + 1 + 1 + 1 < lo + 4; omega))).trans HC.out.2
        have HK3 := Lib.hid (mid_t hM.out hk3)
        have HJ3 := Lib.hid hJ3
        clear hJ3 hk3
        have e9 := HE.out
        gi_wp2
        go_roundw
        case rel => exact ⟨j + 1, by omega, by first | rfl | rw [e9], by go_num, HJ3, HK3⟩
        case measure => simp [intOf]; omega
      · gi_wp2
        refine bodyPost_ret (results_none rfl _ _ _) rfl ?_
        exact ⟨⟨_, rfl⟩, .inr ⟨_, List.take_prefix _ _, hJx3⟩⟩
    · obtain rfl : j = k := by omega
      have hall : (pls m j h d hm).take j = pls m j h d hm := List.take_of_length_le (by rw [pls_len]; exact Nat.le_refl _)
      have hJ2 := hJ.out
      rw [hall] at hJ2
      have HJ2 := Lib.hid hJ2
      clear hJ2 hall
      gi_wp2
      go_end0
      exact ⟨⟨_, rfl⟩, .inl ⟨_, rfl, HJ2.out⟩⟩
theorem pls_stops (n lo k m h d : Nat) (hm : 0 < m) (hm8 : m ≤ 80000000) (hk : k ≤ 1000) (hh : h < 4294967296) (hd : d < 4294967296) (hn : 1 ≤ n) (w : World) (hw : lo + 4 ≤ w.heap.size)
    (c0 : w.cell? ⟨lo, 0, none⟩ = some (.int .i64 (k : Int))) (c1 : w.cell? ⟨lo + 1, 0, none⟩ = some (.int .u64 (m : Int))) (c2 : w.cell? ⟨lo + 1 + 1, 0, none⟩ = some (.int .u32 (h : Int))) (c3 : w.cell? ⟨lo + 1 + 1 + 1, 0, none⟩ = some (.int .u32 (d : Int))) :
    SeqStopsK Fence.wide n Try.prog 18 (box4 lo) (fun x : Fin m => #[Value.int .u64 ((x.val : Nat) : Int)]) (Mid lo (lo + 4)) (fun ys => ys = pls m k h d hm) (fun pre => pre <+: pls m k h d hm) k w := fun l J Jx W hW _ _ hY h0 =>
  pls_in n lo k m h d l hm hm8 hk hh hd hn J Jx hY W ((hW.cell (p := ⟨lo, 0, none⟩) (by show lo < _; omega)).trans c0) ((hW.cell (p := ⟨lo + 1, 0, none⟩) (by show lo + 1 < _; omega)).trans c1) ((hW.cell (p := ⟨lo + 1 + 1, 0, none⟩) (by show lo + 1 + 1 < _; omega)).trans c2)
    ((hW.cell (p := ⟨lo + 1 + 1 + 1, 0, none⟩) (by show lo + 1 + 1 + 1 < _; omega)).trans c3) h0
/-- The four variables, as they lie behind the call. -/
theorem four_cells (w : World) (k size h d : Nat) : (four w k size h d).cell? ⟨w.heap.size, 0, none⟩ = some (.int .i64 (k : Int)) ∧ (four w k size h d).cell? ⟨w.heap.size + 1, 0, none⟩ = some (.int .u64 ((8 * size : Nat) : Int)) ∧
    (four w k size h d).cell? ⟨w.heap.size + 1 + 1, 0, none⟩ = some (.int .u32 (h : Int)) ∧ (four w k size h d).cell? ⟨w.heap.size + 1 + 1 + 1, 0, none⟩ = some (.int .u32 (d : Int)) ∧ (four w k size h d).heap.size = w.heap.size + 4 ∧ Below w.heap.size w (four w k size h d) := by
  have one (W : World) (v : Value) (t : TypeId) : (W.alloc (.cells #[v] t)).cell? ⟨W.heap.size, 0, none⟩ = some v := (Boxed.new W t v).cell
  have keep (W : World) (a : Addr) (v : Value) (o : Obj) (h : W.cell? a = some v) : (W.alloc o).cell? a = some v := cell_kept h (World.grownBy_alloc W o none) (fun r e => by cases e)
  unfold four
  obtain ⟨w1, h1⟩ : ∃ w1, w1 = w.alloc (.cells #[.int .i64 (k : Int)] 3) := ⟨_, rfl⟩
  have s1 : w1.heap.size = w.heap.size + 1 := by rw [h1, World.size_alloc]
  obtain ⟨w2, h2⟩ : ∃ w2, w2 = w1.alloc (.cells #[.int .u64 ((8 * size : Nat) : Int)] 35) := ⟨_, rfl⟩
  have s2 : w2.heap.size = w.heap.size + 1 + 1 := by rw [h2, World.size_alloc, s1]
  obtain ⟨w3, h3⟩ : ∃ w3, w3 = w2.alloc (.cells #[.int .u32 (h : Int)] 28) := ⟨_, rfl⟩
  have s3 : w3.heap.size = w.heap.size + 1 + 1 + 1 := by rw [h3, World.size_alloc, s2]
  rw [← h1, ← h2, ← h3]
  have o0 := one w (.int .i64 (k : Int)) 3
  have o1 := one w1 (.int .u64 ((8 * size : Nat) : Int)) 35
  have o2 := one w2 (.int .u32 (h : Int)) 28
  have o3 := one w3 (.int .u32 (d : Int)) 28
  rw [s1, ← h2] at o1
  rw [s2, ← h3] at o2
  rw [s3] at o3
  rw [← h1] at o0
  refine ⟨keep _ _ _ _ ?_, keep _ _ _ _ ?_, keep _ _ _ _ o2, o3, by rw [World.size_alloc, s3], ?_⟩
  · rw [h3]; refine keep _ _ _ _ ?_; rw [h2]; exact keep _ _ _ _ o0
  · rw [h3]; exact keep _ _ _ _ o1
  · rw [h3, h2, h1]
    exact ((((Below.refl _ w).alloc (Nat.le_refl _) _).alloc (by simp) _).alloc (by simp; omega) _).alloc (by simp; omega) _
end Go.Proofs.Ytndkehadboekbaa.Bl
