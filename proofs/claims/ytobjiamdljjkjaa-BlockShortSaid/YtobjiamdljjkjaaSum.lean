/- What Sum of package crc answers, by a table of 256 numbers and by any other. -/
import Derived.Test.YtobjiamdljjkjaaTab
import Derived.Laws.Cover3
namespace Go.Proofs.Ytobjiamdljjkjaa.Crc
set_option linter.unusedVariables false
open Go.RowKit Lift
/-- A byte. -/
abbrev vb (c : Nat) : Value := .int .u8 (c : Int)
theorem cells_at {w : World} {ad : Addr} {f : Nat → Value} {bs : List Nat} (h : ∀ (j : Nat) (u : Value), (bs.map f)[j]? = some u → w.cell? (ad.add j) = some u) :
    ∀ (j c : Nat), bs[j]? = some c → w.cell? (ad.add j) = some (f c) :=
  fun j c hj => h j _ (by rw [List.getElem?_map, hj]; rfl)
theorem take_snoc {bs : List Nat} {k c : Nat} (h : bs[k]? = some c) : bs.take (k + 1) = bs.take k ++ [c] := by
  rw [List.take_add_one, h]; rfl
/-- What stands in a table. -/
def look (ts : List Nat) (x : Nat) : Nat := (ts[x]?).getD 0
theorem look_at {ts : List Nat} {x v : Nat} (h : ts[x]? = some v) : v = look ts x := by unfold look; rw [h]; rfl
/-- Where in the table it is looked. -/
def spot (r c : Nat) : Nat := r % 256 ^^^ c
theorem spot_int {r c : Nat} (hc : c < 256) : bits .xor .u8 ((r : Int) % 256) (c : Int) = ((spot r c : Nat) : Int) := by
  have h := u8_xor_nat (r % 256) c (Nat.mod_lt _ (by decide)) hc
  rw [← show ((r % 256 : Nat) : Int) = (r : Int) % 256 from rfl, h]; rfl
theorem spot_lt {r c : Nat} (hc : c < 256) : spot r c < 256 := xor_lt8 (Nat.mod_lt _ (by decide)) hc
theorem turn_int {T : Nat → Nat} {r c v : Nat} (hr : r < 4294967296) (hv : v < 4294967296) (h : v = T (spot r c)) : bits .xor .u32 ((r : Int) / 256) (v : Int) = ((turn T r c : Nat) : Int) := by
  have h2 := u32_xor_nat (r / 256) v (by omega) hv
  rw [← show ((r / 256 : Nat) : Int) = (r : Int) / 256 from rfl, h2, h]; rfl
theorem turn_lt32 {T : Nat → Nat} {r c v : Nat} (hr : r < 4294967296) (hv : v < 4294967296) (h : v = T (spot r c)) : turn T r c < 4294967296 := by
  unfold turn
  exact xor_lt (by omega) (by have h' : v = T (r % 256 ^^^ c) := h; rw [← h']; exact hv)
theorem not_int {r : Nat} (hr : r < 4294967296) : bits .xor .u32 IntKind.u32.max (r : Int) = ((4294967295 - r : Nat) : Int) := by
  rw [not_xor hr, ← u32_xor_nat 4294967295 r (by decide) hr]
  rfl

set_option maxRecDepth 100000 in
set_option maxHeartbeats 400000 in
theorem sum_tab (ad : Addr) (Ab : Option Addr) (ct cb B : Nat) (ts bs : List Nat) (w : World) (ht : ts.length = 256) (hct : 256 ≤ ct) (hl : ∀ j u, (ts.map vw)[j]? = some u → w.cell? (ad.add j) = some u)
    (hb : Lies w B Ab (bs.map vb)) (hcb : bs.length ≤ cb) (hm : bs.length ≤ maxLen) (t32 : ∀ x, x ∈ ts → x < 4294967296) (b8 : ∀ c, c ∈ bs → c < 256) :
    Calls Try.prog 59 #[.slice (some ad) 256 ct, .slice Ab bs.length cb] w fun e w' => e = .returned (.int .u32 (crc (look ts) bs : Nat)) ∧ w = w' := by
  unfold maxLen at hm
  have HT := Lib.hid (cells_at hl)
  have HB := Lib.hid hb
  have T32 := Lib.hid t32
  have B8 := Lib.hid b8
  have HL := Lib.hid ht
  clear ht hl hb t32 b8
  have hat := run_arrayAt (P := Try.prog) w 176 66 256 (some ad) 256 ct Try.underlying176 (by omega)
  go_enter Try.func59, Try.ntmps59
  go_wp2_with fail
  go_loop [6, 17] (fun x i => ∃ k r : Nat, k ≤ bs.length ∧ r ≤ 4294967295 ∧ i = .int .i64 k ∧ x = .int .u32 r ∧ Hid (r = reg (look ts) 4294967295 (bs.take k))) (fun _ i => bs.length + 1 - (intOf i).toNat)
  case atStart => exact ⟨0, 4294967295, by omega, by omega, rfl, rfl, Lib.hid rfl⟩
  case round =>
    obtain ⟨k, r, hk, hr, rfl, rfl, hd⟩ := hrel
    by_cases hlt : k < bs.length
    · obtain ⟨ab, hab, _, hcell⟩ := HB.out.place (by simp; omega)
      subst hab
      obtain ⟨c, hc⟩ : ∃ c : Nat, bs[k]? = some c := ⟨_, List.getElem?_eq_getElem hlt⟩
      have c8 := B8.out c (List.mem_of_getElem? hc)
      have hs := spot_lt (r := r) c8
      obtain ⟨v, hv0⟩ : ∃ v : Nat, ts[spot r c]? = some v := ⟨_, List.getElem?_eq_getElem (by rw [HL.out]; exact hs)⟩
      have v32 := T32.out v (List.mem_of_getElem? hv0)
      have h2 := HT.out _ v hv0
      have hv := look_at hv0
      clear hv0
      have h1 := cells_at hcell k c hc
      have e := spot_int (r := r) c8
      have HC := Lib.hid hc
      have HV := Lib.hid hv
      clear hcell hc hv
      go_wp2_with fail
      go_round
      case rel =>
        have hr2 := turn_lt32 (T := (look ts)) (r := r) (c := c) (by omega) v32 HV.out
        exact ⟨k + 1, turn (look ts) r c, by omega, by omega, by go_num, by rw [turn_int (by omega) v32 HV.out], Lib.hid (by rw [take_snoc HC.out, reg_snoc, hd.out])⟩
      case measure => simp [intOf]; omega
    · have hk2 : k = bs.length := by omega
      have HK := Lib.hid hk2
      clear hk2
      go_wp2_with fail
      go_ret
      exact ⟨ret_u32 (by rw [not_int (by omega), hd.out, HK.out, List.take_length]; rfl), rfl⟩

theorem tab_look : ∀ x, x < 256 → look tab x = ent x := fun x h => by unfold look; rw [tab_at x h]; rfl
theorem tab32 : ∀ x, x ∈ tab → x < 4294967296 := fun x h => by
  obtain ⟨y, hy, rfl⟩ := List.mem_map.1 h
  exact ent_ok y (by simpa using hy)

set_option maxRecDepth 100000 in
set_option maxHeartbeats 400000 in
theorem sum_no (At Ab : Option Addr) (n ct cb B : Nat) (bs : List Nat) (w : World) (hn : n ≠ 256)
    (hb : Lies w B Ab (bs.map vb)) (hB : B ≤ w.heap.size) (hcb : bs.length ≤ cb) (hm : bs.length ≤ maxLen) (b8 : ∀ c, c ∈ bs → c < 256) :
    Calls Try.prog 59 #[.slice At n ct, .slice Ab bs.length cb] w fun e w' => e = .returned (.int .u32 (crc ent bs : Nat)) ∧ Below w.heap.size w w' := by
  unfold maxLen at hm
  have HB0 := Lib.hid (hb.up hB)
  have B8 := Lib.hid b8
  have hne : ((n : Int) != 256) = true := by rw [bne_iff_ne]; omega
  clear hb hB b8 hn
  go_enter Try.func59, Try.ntmps59
  go_wp2_with fail
  refine (table_any w).mono ?_
  intro e w1 hmade
  obtain ⟨A1, c1, rfl, hc1, hm1, hl1, hb1⟩ := hmade.parts
  clear hmade
  rw [tab_length] at hc1 ⊢
  obtain ⟨ad, rfl, _, hcells⟩ := hl1.place (by rw [List.length_map, tab_length]; decide)
  have HT := Lib.hid (cells_at hcells)
  have HB := Lib.hid (HB0.out.below hb1)
  have HB1 := Lib.hid hb1
  clear hl1 hcells hb1
  have hat := run_arrayAt (P := Try.prog) w1 176 66 256 (some ad) 256 c1 Try.underlying176 (by omega)
  go_wp2_with fail
  go_loop [6, 17] (fun x i => ∃ k r : Nat, k ≤ bs.length ∧ r ≤ 4294967295 ∧ i = .int .i64 k ∧ x = .int .u32 r ∧ Hid (r = reg ent 4294967295 (bs.take k))) (fun _ i => bs.length + 1 - (intOf i).toNat)
  case atStart => exact ⟨0, 4294967295, by omega, by omega, rfl, rfl, Lib.hid rfl⟩
  case round =>
    obtain ⟨k, r, hk, hr, rfl, rfl, hd⟩ := hrel
    by_cases hlt : k < bs.length
    · obtain ⟨ab, hab, _, hcell⟩ := HB.out.place (by simp; omega)
      subst hab
      obtain ⟨c, hc⟩ : ∃ c : Nat, bs[k]? = some c := ⟨_, List.getElem?_eq_getElem hlt⟩
      have c8 := B8.out c (List.mem_of_getElem? hc)
      have hs := spot_lt (r := r) c8
      obtain ⟨v, rfl⟩ : ∃ v : Nat, v = ent (spot r c) := ⟨_, rfl⟩
      have v32 := ent_ok _ hs
      have h2 := HT.out _ _ (tab_at _ hs)
      have hv : ent (spot r c) = ent (spot r c) := rfl
      have h1 := cells_at hcell k c hc
      have e := spot_int (r := r) c8
      have HC := Lib.hid hc
      have HV := Lib.hid hv
      clear hcell hc hv
      go_wp2_with fail
      go_round
      case rel =>
        have hr2 := turn_lt32 (T := ent) (r := r) (c := c) (by omega) v32 HV.out
        exact ⟨k + 1, turn ent r c, by omega, by omega, by go_num, by rw [turn_int (by omega) v32 HV.out], Lib.hid (by rw [take_snoc HC.out, reg_snoc, hd.out])⟩
      case measure => simp [intOf]; omega
    · have hk2 : k = bs.length := by omega
      have HK := Lib.hid hk2
      clear hk2
      go_wp2_with fail
      go_ret
      exact ⟨ret_u32 (by rw [not_int (by omega), hd.out, HK.out, List.take_length]; rfl), HB1.out⟩
end Go.Proofs.Ytobjiamdljjkjaa.Crc
