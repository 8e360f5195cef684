/- Proved: for any kinds and any number, SkipNewest of butterylaw9 answers true (Get returns the newest entry of a key at every sequence number), and its arguments read as before. Conditions: none beyond what the given row states. -/
import Derived.Test.YtnhpocfjmmnnmaaSlaw9
import Derived.Deep.RegionHeld3
import Derived.Deep.QuietTactic
import Derived.BigQuiet
namespace Go.Proofs.Ytnhpocfjmmnnmaa.skipNewest
set_option linter.unusedVariables false
set_option linter.unusedSimpArgs false
open Go.ChangeShapes Go.WideShapes Go.ChangeAt Go.RowKit Lift Sk Ik

theorem own : ownKnob Try.prog.godebug = none := by kernel_rfl

theorem i64_and1 (n : Int) : bits .and .i64 n 1 = n % 2 := by
  have h7 : (BitVec.ofInt 64 1).toNat = 2 ^ 1 - 1 := by decide
  have key : (BitVec.ofInt 64 n &&& BitVec.ofInt 64 1).toNat = (n % ((2 ^ 64 : Nat) : Int)).toNat % 2 ^ 1 := by
    rw [BitVec.toNat_and, BitVec.toNat_ofInt, h7, Nat.and_two_pow_sub_one_eq_mod]
  show IntKind.i64.wrap ((BitVec.ofInt 64 n &&& BitVec.ofInt 64 1).toNat : Nat) = n % 2
  rw [key, IntKind.wrap_i64]
  omega
theorem i64_and3 (n : Int) : bits .and .i64 n 3 = n % 4 := by
  have h7 : (BitVec.ofInt 64 3).toNat = 2 ^ 2 - 1 := by decide
  have key : (BitVec.ofInt 64 n &&& BitVec.ofInt 64 3).toNat = (n % ((2 ^ 64 : Nat) : Int)).toNat % 2 ^ 2 := by
    rw [BitVec.toNat_and, BitVec.toNat_ofInt, h7, Nat.and_two_pow_sub_one_eq_mod]
  show IntKind.i64.wrap ((BitVec.ofInt 64 n &&& BitVec.ofInt 64 3).toNat : Nat) = n % 4
  rw [key, IntKind.wrap_i64]
  omega
/-- The entry of a round. -/
def tN (ks : List Int) (i : Nat) : T := ⟨⟨[107], i + 1, ks.getD i 0 % 2⟩, if ks.getD i 0 % 2 = 1 then [i] else []⟩
def fN (ks : List Int) (i : Nat) : T × Int := (tN ks i, ks.getD i 0 / 2 % 4)
theorem tN_ok (ks : List Int) {i : Nat} (h : i ≤ 40) : okT (tN ks i) = true := by
  unfold okT okB tN
  generalize ks.getD i 0 = v
  have h2 : v % 2 = 0 ∨ v % 2 = 1 := by omega
  rcases h2 with h2 | h2
  · simp [h2]; omega
  · simp [h2]; omega
theorem rows_N (ks : List Int) : ∀ j, j ≤ 40 → Sorted rk (rows (fN ks) j) ∧ ∀ r, r ∈ rows (fN ks) j ↔ ∃ i, i < j ∧ r = (tN ks i, hgt (fN ks i).2)
  | 0, _ => ⟨List.Pairwise.nil, fun r => by simp [rows]⟩
  | j + 1, hj => by
    obtain ⟨h1, h2⟩ := rows_N ks j (by omega)
    have hn : ¬ twice (rows (fN ks) j) (tN ks j).k := by
      rintro ⟨r, v, h3, h4⟩
      have hr : r ∈ rows (fN ks) j := by rw [← bef_aft (f := rk) (rows (fN ks) j) (tN ks j).k, h3]; simp
      obtain ⟨i, hi, rfl⟩ := (h2 r).1 hr
      have := congrArg K.seq (K.eq h4)
      simp only [tN] at this
      omega
    have he : rows (fN ks) (j + 1) = insR (rows (fN ks) j) (tN ks j) (hgt (fN ks j).2) := by
      show insT _ (tN ks j) _ = _
      have hE : insE (rows (fN ks) j) (tN ks j) = 0 := by unfold insE; rw [if_neg (by rw [tN_ok ks (by omega)]; decide), if_neg hn]
      unfold insT
      rw [if_pos hE]
    rw [he]
    refine ⟨insR_sorted h1 hn, fun r => ?_⟩
    rw [insR_mem, h2 r]
    constructor
    · rintro (h | ⟨i, hi, h⟩)
      · exact ⟨j, Nat.lt_succ_self _, h⟩
      · exact ⟨i, by omega, h⟩
    · rintro ⟨i, hi, h⟩
      by_cases hij : i = j
      · subst hij; exact .inl h
      · exact .inr ⟨i, by omega, h⟩
theorem get_zero (ks : List Int) {n : Nat} (hn : n ≤ 40) : getR (rows (fN ks) n) [107] 0 = none := by
  unfold getR
  rw [List.find?_eq_none.2]
  · rfl
  · intro r hr
    obtain ⟨i, hi, rfl⟩ := ((rows_N ks n hn).2 r).1 hr
    simp [tN]
theorem get_at (ks : List Int) {n a m : Nat} (hn : n ≤ 40) (hm : m < n) (ha : m + 1 ≤ a) (hx : m + 1 = a ∨ m + 1 = n) : getR (rows (fN ks) n) [107] a = some (tN ks m) := by
  obtain ⟨hs, hmem⟩ := rows_N ks n hn
  have hx1 : (tN ks m, hgt (fN ks m).2) ∈ rows (fN ks) n := (hmem _).2 ⟨m, hm, rfl⟩
  unfold getR
  cases hf : (rows (fN ks) n).find? (fun r => decide (r.1.k.key = [107] ∧ r.1.k.seq ≤ a)) with
  | none =>
    have := List.find?_eq_none.1 hf _ hx1
    simp [tN] at this
    omega
  | some r =>
    obtain ⟨hp, l1, l2, he, has⟩ := List.find?_eq_some_iff_append.1 hf
    have hr : r ∈ rows (fN ks) n := by rw [he]; simp
    obtain ⟨i, hi, rfl⟩ := (hmem r).1 hr
    have hia : i + 1 ≤ a := by simpa [tN] using hp
    have him : i ≤ m := by omega
    rw [he] at hx1
    have : i = m := by
      rcases List.mem_append.1 hx1 with h | h
      · have := has _ h
        simp [tN] at this
        omega
      · rcases List.mem_cons.1 h with h | h
        · injection h with h _
          have := congrArg (fun t : T => t.k.seq) h
          simp only [tN] at this
          omega
        · rw [he] at hs
          have h3 := (List.pairwise_cons.1 (List.pairwise_append.1 hs).2.1).1 _ h
          apply Classical.byContradiction
          intro hne
          refine lt_asymm h3 ?_
          rw [lt_of_neg, cmpK_lt]
          exact .inr ⟨rfl, .inl (by show i + 1 < m + 1; omega)⟩
    rw [this]
    rfl
set_option maxRecDepth 100000 in
set_option maxHeartbeats 8000000 in
theorem walk (A1 : Option Addr) (c1 : Nat) (ks : List Int) (at' : Int) (w : World) (h1 : Lies w w.heap.size A1 (ks.map (Value.int .i64))) (hc1 : ks.length ≤ c1) (hm1 : c1 ≤ maxLen) (hw : ∀ x, x ∈ ks → (Lit.int .i64 x).wf = true) (hat : -9223372036854775808 ≤ at' ∧ at' ≤ 9223372036854775807) :
    Calls Try.prog 5 #[.slice A1 ks.length c1, .int .i64 at'] w (Sk.Yes w) := by
  have H1 := Lib.hid h1
  have HW := Lib.hid hw
  unfold maxLen at hm1
  clear h1 hw
  go_enter Try.func5, Try.ntmps5
  go_wp2_with fail
  refine (alive_any _).mono ?_
  rintro e W1 ⟨rfl, hb1⟩
  have HB1 := Lib.hid hb1
  clear hb1
  by_cases k1 : ks.length < 1
  · go_wp2_with fail
    go_ret
    exact ⟨rfl, HB1.out⟩
  · by_cases k2 : 40 < ks.length
    · go_wp2_with fail
      go_ret
      exact ⟨rfl, HB1.out⟩
    · by_cases k3 : at' < 0
      · go_wp2_with fail
        go_ret
        exact ⟨rfl, HB1.out⟩
      · obtain ⟨a, rfl⟩ : ∃ a : Nat, at' = (a : Int) := ⟨at'.toNat, by omega⟩
        obtain ⟨ad, hA, -, -⟩ := H1.out.place (by rw [List.length_map]; omega)
        subst hA
        go_wp2_with fail
        refine (new_any W1).mono ?_
        rintro e W2 ⟨rfl, hs2, hb2⟩
        obtain ⟨g, hgd⟩ : ∃ g, g = W1.heap.size := ⟨_, rfl⟩
        rw [← hgd] at hs2 ⊢
        have HOW : Hid (Own w g (rows (fN ks) 0) W2) := Lib.hid ⟨_, hs2, HB1.out.trans (hb2.mono HB1.out.size), fun k hk => by rw [hk, hgd]; exact HB1.out.size⟩
        clear hs2 hb2 hgd
        go_wp2_with fail
        go_loopw [7, 8] (fun i x1 wr => ∃ j : Nat, j ≤ ks.length ∧ i = .int .i64 j ∧ Hid (Own w g (rows (fN ks) j) wr)) (fun i _ _ => 50 - (intOf i).toNat)
        case atStart => exact ⟨0, by omega, rfl, HOW⟩
        case round =>
          obtain ⟨j, hj, rfl, how⟩ := hrel
          clear HOW
          by_cases hlt : j < ks.length
          · obtain ⟨S, hsl, hbw, hss⟩ := how.out
            obtain ⟨k, hk⟩ : ∃ k, ks[j]? = some k := ⟨_, List.getElem?_eq_getElem hlt⟩
            have hkd : ks.getD j 0 = k := by rw [List.getD_eq_getElem?_getD, hk]; rfl
            have kb := i64_of (HW.out k (List.mem_of_getElem? hk))
            have p0 : wr.cell? (ad.add j) = some (.int .i64 k) := by
              obtain ⟨ad', hA, -, hcell⟩ := (H1.out.below hbw).place (by rw [List.length_map]; omega)
              injection hA with hA
              subst hA
              exact hcell j _ (by rw [List.getElem?_map, hk]; rfl)
            have p1 := fun o => Lib.cell?_alloc_marked (W := wr) o p0
            have HSL0 := Lib.hid hsl
            have HBW0 := Lib.hid hbw
            have HSS := Lib.hid hss
            have HJK := Lib.hid hk
            have HKD := Lib.hid hkd
            have HJ1 := Lib.hid (show rows (fN ks) (j + 1) = insT (rows (fN ks) j) (tN ks j) (hgt (k / 2 % 4)) by show insT _ (tN ks j) (hgt (ks.getD j 0 / 2 % 4)) = _; rw [hkd])
            have HRL := Lib.hid (rows_len (fN ks) j)
            have kc := fun (W : World) (C : Array Value) (n c : Nat) => Lib.run_convert_bytes_const (P := Try.prog) W 31 5 C n c Try.underlying31 Try.underlying5
            have qA := i64_and1
            clear how hsl hbw hss hk hkd
            by_cases hodd : k % 2 = 1
            · go_wp2_with fail
              obtain ⟨dn, hdn⟩ : ∃ dn : D, dn = ⟨some ⟨wr.heap.size, 0, none⟩, 1, ⟨[107], j + 1, 1⟩, some ⟨wr.heap.size + 1 + 1, 0, none⟩, 1, [j]⟩ := ⟨_, rfl⟩
              obtain ⟨Wa, hWa⟩ : ∃ Wa, Wa = (wr.alloc (.cells #[.int .u8 107] 5 (1, 2))) := ⟨_, rfl⟩
              obtain ⟨Wb, hWb⟩ : ∃ Wb, Wb = Wa.alloc (ebox dn) := ⟨_, rfl⟩
              have sa : Wa.heap.size = wr.heap.size + 1 := by rw [hWa]; simp
              have sb : Wb.heap.size = wr.heap.size + 1 + 1 := by rw [hWb, World.size_alloc, sa]
              have ba : Below wr.heap.size wr Wa := by rw [hWa]; exact Joins.below_alloc1 _ _
              have bb : Below wr.heap.size wr Wb := by rw [hWb]; exact ba.trans ((below_box Wa dn).mono ba.size)
              have ca : Wa.cell? ⟨wr.heap.size, 0, none⟩ = some (.int .u8 107) := by rw [hWa]; exact World.cell?_alloc_mark wr #[.int .u8 107] 5 (1, 2) 0
              have xb : Bx Wb (wr.heap.size + 1) dn := by rw [← sa, hWb]; exact Bx.new Wa dn

              obtain ⟨Wn, hWn⟩ : ∃ Wn, Wn = Wb.alloc (.cells #[.int .u8 (j : Int)] 5) := ⟨_, rfl⟩
              have sn : Wn.heap.size = wr.heap.size + 1 + 1 + 1 := by rw [hWn, World.size_alloc, sb]
              have bn : Below wr.heap.size wr Wn := by rw [hWn]; exact bb.trans ((Joins.below_alloc1 Wb _).mono bb.size)
              have xn : Bx Wn (wr.heap.size + 1) dn := by rw [hWn]; exact xb.alloc _
              have ban : Below Wa.heap.size Wa Wn := by rw [hWn, hWb]; exact (below_box Wa dn).trans ((Joins.below_alloc1 _ _).mono (by simp))
              have cn : Wn.cell? ⟨wr.heap.size, 0, none⟩ = some (.int .u8 107) := (ban.cell (p := ⟨wr.heap.size, 0, none⟩) (by rw [sa]; simp)).trans ca
              have cv : Wn.cell? ⟨wr.heap.size + 1 + 1, 0, none⟩ = some (.int .u8 (j : Int)) := by
                rw [← sb, hWn]
                exact World.cell?_alloc_new Wb #[.int .u8 (j : Int)] 5 0

              have okn : dn.Ok Wn (· < Wn.heap.size) := by
                rw [hdn]
                refine ⟨.inr ⟨_, rfl, by rw [sn]; simp; omega, fun i u hu => by
                  rcases i with _ | i
                  · simp at hu; subst hu; exact cn
                  · simp at hu⟩, Nat.le_refl _, (by show (1 : Nat) ≤ maxLen; decide), ⟨by simp, by simp only; omega, by simp only; decide, by simp only; decide⟩, .inr ⟨_, rfl, by rw [sn]; simp, fun i u hu => by
                  rcases i with _ | i
                  · simp at hu; subst hu; exact cv
                  · simp at hu⟩, Nat.le_refl _, (by show (1 : Nat) ≤ maxLen; decide), by simp; omega⟩
              have HDN := Lib.hid okn
              have HBX := Lib.hid xn
              have HDT : Hid (dn.t = tN ks j) := Lib.hid (by rw [hdn]; unfold tN D.t; rw [HKD.out]; rw [hodd]; simp)
              have HNS : Hid (¬ S (wr.heap.size + 1)) := Lib.hid fun h => by have := HSL0.out.lt _ h; omega
              have HSL := Lib.hid (HSL0.out.below bn)
              have HBW := Lib.hid (HBW0.out.trans (bn.mono HBW0.out.size))
              have HWF : Hid (∀ h, h = k / 2 % 4 → (Lit.int .i64 h).wf = true) := Lib.hid fun h e => by
                have h4 : h = 0 ∨ h = 1 ∨ h = 2 ∨ h = 3 := by omega
                rcases h4 with rfl | rfl | rfl | rfl <;> decide
              change Code.wp _ _ _ _ (((wr.alloc (.cells #[.int .u8 107] 5 (1, 2))).alloc (ebox ⟨some ⟨wr.heap.size, 0, none⟩, 1, ⟨[107], j + 1, 1⟩, some ⟨wr.heap.size + 1 + 1, 0, none⟩, 1, [j]⟩)).alloc (.cells #[.int .u8 (j : Int)] 5))
              rw [← hdn, ← hWa, ← hWb, ← hWn]
              clear hWa hWb hWn sa sb sn ba bb bn ca xb xn ban cn cv okn p0 p1 kc hdn
              refine wp_region_held_drew (S := fun w' => Hid (Keep S Wn w')) (by kernel_rfl) (Lib.hid (Keep.refl _ _).drew) (fun hS => ?_)
              refine wpAnyH_take (i := 0) (v := ?_) rfl (by kernel_rfl) (by kernel_rfl) (by kernel_rfl) (fun _ _ _ h => h) (Or.inl ⟨by rfl, ?_⟩) hS ?_
              rotate_left
              · intro w hw
                go_simp
                try with_reducible rfl
              try simp only [Act.put, List.getElem_toArray, List.getElem_cons_succ, List.getElem_cons_zero, List.setIfInBounds_toArray, List.set_cons_zero, List.set_cons_succ]
              refine wpAnyH_take (i := 1) (v := ?_) rfl (by kernel_rfl) (by kernel_rfl) (by kernel_rfl) (fun _ _ _ h => h) (Or.inl ⟨by rfl, ?_⟩) hS ?_
              rotate_left
              · intro w hw
                have hbx := HBX.out.keep hw.out HNS.out
                obtain ⟨y0, y1, y2, y3, -, -, -, -⟩ := (show Bx w _ dn from hbx).facts
                clear hbx
                go_simp
                try with_reducible rfl
              try simp only [Act.put, List.getElem_toArray, List.getElem_cons_succ, List.getElem_cons_zero, List.setIfInBounds_toArray, List.set_cons_zero, List.set_cons_succ]
              refine wpAnyH_take (i := 2) (v := ?_) rfl (by kernel_rfl) (by kernel_rfl) (by kernel_rfl) (fun _ _ _ h => h) (Or.inl ⟨by rfl, ?_⟩) hS ?_
              rotate_left
              · intro w hw
                go_simp
                try with_reducible rfl
              try simp only [Act.put, List.getElem_toArray, List.getElem_cons_succ, List.getElem_cons_zero, List.setIfInBounds_toArray, List.set_cons_zero, List.set_cons_succ]
              refine wpAnyH_take (i := 3) (v := ?_) rfl (by kernel_rfl) (by kernel_rfl) (by kernel_rfl) (fun _ _ _ h => h) (Or.inl ⟨by rfl, ?_⟩) hS ?_
              rotate_left
              · intro w hw
                go_simp
                try with_reducible rfl
              try simp only [Act.put, List.getElem_toArray, List.getElem_cons_succ, List.getElem_cons_zero, List.setIfInBounds_toArray, List.set_cons_zero, List.set_cons_succ]
              refine wpAnyH_take (i := 4) (v := ?_) rfl (by kernel_rfl) (by kernel_rfl) (by kernel_rfl) (fun _ _ _ h => h) (Or.inl ⟨by rfl, ?_⟩) hS ?_
              rotate_left
              · intro w hw
                have hbw := HBW.out.trans (hw.out.below HBW.out.size HSS.out)
                obtain ⟨ad', hA, -, hcell⟩ := (H1.out.below hbw).place (by rw [List.length_map]; omega)
                injection hA with hA
                subst hA
                have p0 := hcell j _ (by rw [List.getElem?_map, HJK.out]; rfl)
                clear hcell hbw
                go_simp
                try with_reducible rfl
              try simp only [Act.put, List.getElem_toArray, List.getElem_cons_succ, List.getElem_cons_zero, List.setIfInBounds_toArray, List.set_cons_zero, List.set_cons_succ]
              refine wpAnyH_take (i := 5) (v := ?_) rfl (by kernel_rfl) (by kernel_rfl) (by kernel_rfl) (fun _ _ _ h => h) (Or.inl ⟨by rfl, ?_⟩) hS ?_
              rotate_left
              · intro w hw
                have hbw := HBW.out.trans (hw.out.below HBW.out.size HSS.out)
                obtain ⟨ad', hA, -, hcell⟩ := (H1.out.below hbw).place (by rw [List.length_map]; omega)
                injection hA with hA
                subst hA
                have p0 := hcell j _ (by rw [List.getElem?_map, HJK.out]; rfl)
                clear hcell hbw
                go_simp
                try with_reducible rfl
              try simp only [Act.put, List.getElem_toArray, List.getElem_cons_succ, List.getElem_cons_zero, List.setIfInBounds_toArray, List.set_cons_zero, List.set_cons_succ]
              refine wpAnyH_take (i := 6) (v := ?_) rfl (by kernel_rfl) (by kernel_rfl) (by kernel_rfl) (fun _ _ _ h => h) (Or.inl ⟨by rfl, ?_⟩) hS ?_
              rotate_left
              · intro w hw
                go_simp
                try with_reducible rfl
              try simp only [Act.put, List.getElem_toArray, List.getElem_cons_succ, List.getElem_cons_zero, List.setIfInBounds_toArray, List.set_cons_zero, List.set_cons_succ]
              refine wpAnyH_take (i := 7) (v := ?_) rfl (by kernel_rfl) (by kernel_rfl) (by kernel_rfl) (fun _ _ _ h => h) (Or.inl ⟨by rfl, ?_⟩) hS ?_
              rotate_left
              · intro w hw
                have qA := i64_and3
                go_simp
                try with_reducible rfl
              try simp only [Act.put, List.getElem_toArray, List.getElem_cons_succ, List.getElem_cons_zero, List.setIfInBounds_toArray, List.set_cons_zero, List.set_cons_succ]
              refine wpAnyH_ready (rs := [8]) (by kernel_rfl) (by simp) ?_
              refine (AllReadyH.cons rfl (fun K hK => ?_) AllReadyH.nil)
              go_simp
              have hwr : Below Wn.heap.size Wn Wn.drew := (Below.refl _ _).drew
              refine (insert_any dn _ (HSL.out.below hwr) (HDN.out.next hwr) (HWF.out _ rfl) (by have := HRL.out; omega)).mono ?_
              rintro e W3 hi
              have hk3 : Keep S Wn W3 := by
                obtain ⟨_, _, _, h3, _⟩ := hi
                exact (below_keep (S := S) hwr).trans h3 fun _ _ h => h
              obtain ⟨rfl, how⟩ := own_insd (w0 := w) (HBW.out.trans (hwr.mono HBW.out.size)) HSS.out hi
              rw [HDT.out, ← HJ1.out] at how
              have HOW := Lib.hid how
              have HK3 := Lib.hid hk3
              clear hi hk3 how hwr
              go_wp2_with fail
              refine hK.out _ _ HK3 (fun hS => ?_)
              clear hK K
              try simp only [Act.put, List.getElem_toArray, List.getElem_cons_succ, List.getElem_cons_zero, List.setIfInBounds_toArray, List.set_cons_zero, List.set_cons_succ]
              refine wpAnyH_done (by kernel_rfl) ?_ _
              go_wp2_with fail
              go_roundw
              case rel => exact ⟨j + 1, by omega, by go_num, HOW⟩
              case measure => simp [intOf]; omega
            · have hev : k % 2 = 0 := by omega
              go_wp2_with fail
              obtain ⟨dn, hdn⟩ : ∃ dn : D, dn = ⟨some ⟨wr.heap.size, 0, none⟩, 1, ⟨[107], j + 1, 0⟩, none, 0, []⟩ := ⟨_, rfl⟩
              obtain ⟨Wa, hWa⟩ : ∃ Wa, Wa = (wr.alloc (.cells #[.int .u8 107] 5 (1, 2))) := ⟨_, rfl⟩
              obtain ⟨Wb, hWb⟩ : ∃ Wb, Wb = Wa.alloc (ebox dn) := ⟨_, rfl⟩
              have sa : Wa.heap.size = wr.heap.size + 1 := by rw [hWa]; simp
              have sb : Wb.heap.size = wr.heap.size + 1 + 1 := by rw [hWb, World.size_alloc, sa]
              have ba : Below wr.heap.size wr Wa := by rw [hWa]; exact Joins.below_alloc1 _ _
              have bb : Below wr.heap.size wr Wb := by rw [hWb]; exact ba.trans ((below_box Wa dn).mono ba.size)
              have ca : Wa.cell? ⟨wr.heap.size, 0, none⟩ = some (.int .u8 107) := by rw [hWa]; exact World.cell?_alloc_mark wr #[.int .u8 107] 5 (1, 2) 0
              have xb : Bx Wb (wr.heap.size + 1) dn := by rw [← sa, hWb]; exact Bx.new Wa dn

              obtain ⟨Wn, hWn⟩ : ∃ Wn, Wn = Wb := ⟨_, rfl⟩
              have sn : Wn.heap.size = wr.heap.size + 1 + 1 := by rw [hWn, sb]
              have bn : Below wr.heap.size wr Wn := by rw [hWn]; exact bb
              have xn : Bx Wn (wr.heap.size + 1) dn := by rw [hWn]; exact xb
              have cn : Wn.cell? ⟨wr.heap.size, 0, none⟩ = some (.int .u8 107) := by
                rw [hWn, hWb]
                exact ((below_box Wa dn).cell (p := ⟨wr.heap.size, 0, none⟩) (by rw [sa]; simp)).trans ca

              have okn : dn.Ok Wn (· < Wn.heap.size) := by
                rw [hdn]
                refine ⟨.inr ⟨_, rfl, by rw [sn]; simp; omega, fun i u hu => by
                  rcases i with _ | i
                  · simp at hu; subst hu; exact cn
                  · simp at hu⟩, Nat.le_refl _, (by show (1 : Nat) ≤ maxLen; decide), ⟨by simp, by simp only; omega, by simp only; decide, by simp only; decide⟩, .inl rfl, Nat.le_refl _, (by show (0 : Nat) ≤ maxLen; decide), by simp⟩
              have HDN := Lib.hid okn
              have HBX := Lib.hid xn
              have HDT : Hid (dn.t = tN ks j) := Lib.hid (by rw [hdn]; unfold tN D.t; rw [HKD.out]; rw [hev]; simp)
              have HNS : Hid (¬ S (wr.heap.size + 1)) := Lib.hid fun h => by have := HSL0.out.lt _ h; omega
              have HSL := Lib.hid (HSL0.out.below bn)
              have HBW := Lib.hid (HBW0.out.trans (bn.mono HBW0.out.size))
              have HWF : Hid (∀ h, h = k / 2 % 4 → (Lit.int .i64 h).wf = true) := Lib.hid fun h e => by
                have h4 : h = 0 ∨ h = 1 ∨ h = 2 ∨ h = 3 := by omega
                rcases h4 with rfl | rfl | rfl | rfl <;> decide
              change Code.wp _ _ _ _ ((wr.alloc (.cells #[.int .u8 107] 5 (1, 2))).alloc (ebox ⟨some ⟨wr.heap.size, 0, none⟩, 1, ⟨[107], j + 1, 0⟩, none, 0, []⟩))
              rw [← hdn, ← hWa, ← hWb, ← hWn]
              clear hWa hWb hWn sa sb sn ba bb bn ca xb xn cn okn p0 p1 kc hdn
              refine wp_region_held_drew (S := fun w' => Hid (Keep S Wn w')) (by kernel_rfl) (Lib.hid (Keep.refl _ _).drew) (fun hS => ?_)
              refine wpAnyH_take (i := 0) (v := ?_) rfl (by kernel_rfl) (by kernel_rfl) (by kernel_rfl) (fun _ _ _ h => h) (Or.inl ⟨by rfl, ?_⟩) hS ?_
              rotate_left
              · intro w hw
                go_simp
                try with_reducible rfl
              try simp only [Act.put, List.getElem_toArray, List.getElem_cons_succ, List.getElem_cons_zero, List.setIfInBounds_toArray, List.set_cons_zero, List.set_cons_succ]
              refine wpAnyH_take (i := 1) (v := ?_) rfl (by kernel_rfl) (by kernel_rfl) (by kernel_rfl) (fun _ _ _ h => h) (Or.inl ⟨by rfl, ?_⟩) hS ?_
              rotate_left
              · intro w hw
                have hbx := HBX.out.keep hw.out HNS.out
                obtain ⟨y0, y1, y2, y3, -, -, -, -⟩ := (show Bx w _ dn from hbx).facts
                clear hbx
                go_simp
                try with_reducible rfl
              try simp only [Act.put, List.getElem_toArray, List.getElem_cons_succ, List.getElem_cons_zero, List.setIfInBounds_toArray, List.set_cons_zero, List.set_cons_succ]
              refine wpAnyH_take (i := 2) (v := ?_) rfl (by kernel_rfl) (by kernel_rfl) (by kernel_rfl) (fun _ _ _ h => h) (Or.inl ⟨by rfl, ?_⟩) hS ?_
              rotate_left
              · intro w hw
                go_simp
                try with_reducible rfl
              try simp only [Act.put, List.getElem_toArray, List.getElem_cons_succ, List.getElem_cons_zero, List.setIfInBounds_toArray, List.set_cons_zero, List.set_cons_succ]
              refine wpAnyH_take (i := 3) (v := ?_) rfl (by kernel_rfl) (by kernel_rfl) (by kernel_rfl) (fun _ _ _ h => h) (Or.inl ⟨by rfl, ?_⟩) hS ?_
              rotate_left
              · intro w hw
                go_simp
                try with_reducible rfl
              try simp only [Act.put, List.getElem_toArray, List.getElem_cons_succ, List.getElem_cons_zero, List.setIfInBounds_toArray, List.set_cons_zero, List.set_cons_succ]
              refine wpAnyH_take (i := 4) (v := ?_) rfl (by kernel_rfl) (by kernel_rfl) (by kernel_rfl) (fun _ _ _ h => h) (Or.inl ⟨by rfl, ?_⟩) hS ?_
              rotate_left
              · intro w hw
                have hbw := HBW.out.trans (hw.out.below HBW.out.size HSS.out)
                obtain ⟨ad', hA, -, hcell⟩ := (H1.out.below hbw).place (by rw [List.length_map]; omega)
                injection hA with hA
                subst hA
                have p0 := hcell j _ (by rw [List.getElem?_map, HJK.out]; rfl)
                clear hcell hbw
                go_simp
                try with_reducible rfl
              try simp only [Act.put, List.getElem_toArray, List.getElem_cons_succ, List.getElem_cons_zero, List.setIfInBounds_toArray, List.set_cons_zero, List.set_cons_succ]
              refine wpAnyH_take (i := 5) (v := ?_) rfl (by kernel_rfl) (by kernel_rfl) (by kernel_rfl) (fun _ _ _ h => h) (Or.inl ⟨by rfl, ?_⟩) hS ?_
              rotate_left
              · intro w hw
                have hbw := HBW.out.trans (hw.out.below HBW.out.size HSS.out)
                obtain ⟨ad', hA, -, hcell⟩ := (H1.out.below hbw).place (by rw [List.length_map]; omega)
                injection hA with hA
                subst hA
                have p0 := hcell j _ (by rw [List.getElem?_map, HJK.out]; rfl)
                clear hcell hbw
                go_simp
                try with_reducible rfl
              try simp only [Act.put, List.getElem_toArray, List.getElem_cons_succ, List.getElem_cons_zero, List.setIfInBounds_toArray, List.set_cons_zero, List.set_cons_succ]
              refine wpAnyH_take (i := 6) (v := ?_) rfl (by kernel_rfl) (by kernel_rfl) (by kernel_rfl) (fun _ _ _ h => h) (Or.inl ⟨by rfl, ?_⟩) hS ?_
              rotate_left
              · intro w hw
                go_simp
                try with_reducible rfl
              try simp only [Act.put, List.getElem_toArray, List.getElem_cons_succ, List.getElem_cons_zero, List.setIfInBounds_toArray, List.set_cons_zero, List.set_cons_succ]
              refine wpAnyH_take (i := 7) (v := ?_) rfl (by kernel_rfl) (by kernel_rfl) (by kernel_rfl) (fun _ _ _ h => h) (Or.inl ⟨by rfl, ?_⟩) hS ?_
              rotate_left
              · intro w hw
                have qA := i64_and3
                go_simp
                try with_reducible rfl
              try simp only [Act.put, List.getElem_toArray, List.getElem_cons_succ, List.getElem_cons_zero, List.setIfInBounds_toArray, List.set_cons_zero, List.set_cons_succ]
              refine wpAnyH_ready (rs := [8]) (by kernel_rfl) (by simp) ?_
              refine (AllReadyH.cons rfl (fun K hK => ?_) AllReadyH.nil)
              go_simp
              have hwr : Below Wn.heap.size Wn Wn.drew := (Below.refl _ _).drew
              refine (insert_any dn _ (HSL.out.below hwr) (HDN.out.next hwr) (HWF.out _ rfl) (by have := HRL.out; omega)).mono ?_
              rintro e W3 hi
              have hk3 : Keep S Wn W3 := by
                obtain ⟨_, _, _, h3, _⟩ := hi
                exact (below_keep (S := S) hwr).trans h3 fun _ _ h => h
              obtain ⟨rfl, how⟩ := own_insd (w0 := w) (HBW.out.trans (hwr.mono HBW.out.size)) HSS.out hi
              rw [HDT.out, ← HJ1.out] at how
              have HOW := Lib.hid how
              have HK3 := Lib.hid hk3
              clear hi hk3 how hwr
              go_wp2_with fail
              refine hK.out _ _ HK3 (fun hS => ?_)
              clear hK K
              try simp only [Act.put, List.getElem_toArray, List.getElem_cons_succ, List.getElem_cons_zero, List.setIfInBounds_toArray, List.set_cons_zero, List.set_cons_succ]
              refine wpAnyH_done (by kernel_rfl) ?_ _
              go_wp2_with fail
              go_roundw
              case rel => exact ⟨j + 1, by omega, by go_num, HOW⟩
              case measure => simp [intOf]; omega
          · obtain rfl : j = ks.length := by omega
            obtain ⟨n, hn⟩ : ∃ n, n = ks.length := ⟨_, rfl⟩
            have hR : rows (fN ks) ks.length = rows (fN ks) n := by rw [hn]
            rw [hR] at how
            obtain ⟨R, hRd⟩ : ∃ R, R = rows (fN ks) n := ⟨_, rfl⟩
            rw [← hRd] at how
            obtain ⟨S, hsl, hbw, hss⟩ := how.out
            have HSL := Lib.hid hsl
            have HBW := Lib.hid hbw
            obtain ⟨q, hq⟩ : ∃ q, q = a % (n + 2) := ⟨_, rfl⟩
            have hql : q ≤ n + 1 := by have := Nat.mod_lt a (show 0 < n + 2 by omega); omega
            have er : Int.tmod (a : Int) ((n : Int) + 2) = ((q : Nat) : Int) := by
              rw [hq]
              have h1 : ((n : Int) + 2) = ((n + 2 : Nat) : Int) := by omega
              rw [h1]
              rfl
            have hn40 : n ≤ 40 := by omega
            have hn1 : 1 ≤ n := by omega
            have hb5 := Joins.below_alloc1 wr (.cells #[.int .u8 107] 5 (1, 2))
            obtain ⟨W5, hW5⟩ : ∃ W5, W5 = wr.alloc (.cells #[.int .u8 107] 5 (1, 2)) := ⟨_, rfl⟩
            rw [← hW5] at hb5
            have hkey : At W5 W5.heap.size (some ⟨wr.heap.size, 0, none⟩) 1 ⟨[107], q, 1⟩ :=
              ⟨.inr ⟨_, rfl, by rw [hW5]; simp, fun i u hu => by
                rcases i with _ | i
                · simp at hu
                  subst hu
                  rw [hW5]
                  exact World.cell?_alloc_mark wr #[.int .u8 107] 5 (1, 2) 0
                · simp at hu⟩, Nat.le_refl _, (by show (1 : Nat) ≤ maxLen; decide), ⟨by simp, by simp only; omega, by simp only; decide, by simp only; decide⟩⟩
            have HG := Lib.hid (get_any (HSL.out.below hb5) hkey)
            have HB5 := Lib.hid (HBW.out.trans (hb5.mono HBW.out.size))
            have HOR : Hid ((q = 0 ∧ getR R [107] q = none) ∨ ∃ m, m < n ∧ m + 1 ≤ q ∧ (m + 1 = q ∨ (m + 1 = n ∧ q = n + 1)) ∧ getR R [107] q = some (tN ks m)) := Lib.hid (by
              rw [hRd]
              by_cases h0 : q = 0
              · rw [h0]; exact .inl ⟨rfl, get_zero ks hn40⟩
              · by_cases h1 : q = n + 1
                · exact .inr ⟨n - 1, by omega, by omega, .inr ⟨by omega, h1⟩, get_at ks hn40 (by omega) (by omega) (.inr (by omega))⟩
                · exact .inr ⟨q - 1, by omega, by omega, .inl (by omega), get_at ks hn40 (by omega) (by omega) (.inl (by omega))⟩)
            have kc := fun (W : World) (C : Array Value) (n c : Nat) => Lib.run_convert_bytes_const (P := Try.prog) W 31 5 C n c Try.underlying31 Try.underlying5
            generalize getR R [107] q = o at HG HOR
            have HQ := Lib.hid hq
            have HHN := Lib.hid hn
            have em : (a : Int) % ((ks.length : Int) + 2) = ((q : Nat) : Int) := by
              rw [← hn, hq]
              have h1 : ((n : Int) + 2) = ((n + 2 : Nat) : Int) := by omega
              rw [h1]
              rfl
            have hql2 : q ≤ ks.length + 1 := by omega
            clear how hsl hbw hss hR hRd hb5 hkey hq hj hlt er
            have hk40 : ks.length ≤ 40 := by omega
            have HNB := Lib.hid (And.intro hn1 hn40)
            clear hn hql hn40 hn1
            go_wp2_with fail
            rw [← hW5]
            refine HG.out.mono ?_
            rintro e W6 ⟨d6, rfl, ht6, hd6, hb6⟩
            have HB6 := Lib.hid (HB5.out.trans (hb6.mono HB5.out.size))
            have HT6 := Lib.hid ht6
            have HB7 := Lib.hid (HB6.out.trans ((below_box W6 d6).mono HB6.out.size))
            clear hb6 hd6 ht6 HG hW5
            rcases HOR.out with ⟨h0, ho⟩ | ⟨m, hmn, hmq, hmc, ho⟩
            · rw [ho]
              rw [h0]
              rw [h0] at em
              clear HOR ho
              go_wp2_with fail
              go_ret
              exact ⟨rfl, HB7.out⟩
            · rw [ho]
              have htd : d6.t = tN ks m := by have := HT6.out; rw [ho] at this; exact this
              have hdk : d6.k = ⟨[107], m + 1, ks.getD m 0 % 2⟩ := t_k htd
              have hseq : d6.k.seq = m + 1 := by rw [hdk]
              have hml : m < ks.length := by rw [← HHN.out]; exact hmn
              obtain ⟨km, hkm⟩ : ∃ km, ks[m]? = some km := ⟨_, List.getElem?_eq_getElem hml⟩
              have hkind : d6.k.kind = km % 2 := by rw [hdk, List.getD_eq_getElem?_getD, hkm]; rfl
              have pm : (W6.alloc (ebox d6)).cell? (ad.add m) = some (.int .i64 km) := by
                obtain ⟨ad', hA, -, hcell⟩ := (H1.out.below HB7.out).place (by rw [List.length_map]; omega)
                injection hA with hA
                subst hA
                exact hcell m _ (by rw [List.getElem?_map, hkm]; rfl)
              have pm6 : W6.cell? (ad.add m) = some (.int .i64 km) := by
                obtain ⟨ad', hA, -, hcell⟩ := (H1.out.below HB6.out).place (by rw [List.length_map]; omega)
                injection hA with hA
                subst hA
                exact hcell m _ (by rw [List.getElem?_map, hkm]; rfl)
              have HHN2 := HHN.out
              have HSQ := Lib.hid hseq
              have HKI := Lib.hid hkind
              have PM := Lib.hid pm
              have HX7 : Hid (Bx (W6.alloc (ebox d6)) W6.heap.size d6) := Lib.hid (Bx.new W6 d6)
              clear HOR ho htd hdk hkm hseq hkind pm pm6
              obtain ⟨W7, hW7⟩ : ∃ W7, W7 = W6.alloc (ebox d6) := ⟨_, rfl⟩
              rcases hmc with hmc | ⟨hmc, hqn⟩
              · have hq1 : ¬ ks.length < q := by omega
                have HTM : Hid (q = m + 1) := Lib.hid hmc.symm
                have hq0 : ((q : Int) == 0) = false := by rw [beq_eq_false_iff_ne]; omega
                clear hmq hql2 HHN2 hmc
                go_wp2_with fail
                change Code.wp _ _ _ _ (W6.alloc (ebox d6))
                rw [← hW7] at PM HX7 HB7 ⊢
                clear hW7
                refine wp_region_held_drew (S := fun w' => Hid (Below W7.heap.size W7 w')) (by kernel_rfl) (Lib.hid (Below.refl _ _).drew) (fun hS => ?_)
                refine wpAnyH_take (i := 0) (v := ?_) rfl (by kernel_rfl) (by kernel_rfl) (by kernel_rfl) (fun _ _ _ h => h) (Or.inl ⟨by rfl, ?_⟩) hS ?_
                rotate_left
                · intro w hw
                  go_simp
                  try with_reducible rfl
                try simp only [Act.put, List.getElem_toArray, List.getElem_cons_succ, List.getElem_cons_zero, List.setIfInBounds_toArray, List.set_cons_zero, List.set_cons_succ]
                refine wpAnyH_take (i := 1) (v := ?_) rfl (by kernel_rfl) (by kernel_rfl) (by kernel_rfl) (fun _ _ _ h => h) (Or.inl ⟨by rfl, ?_⟩) hS ?_
                rotate_left
                · intro w hw
                  go_simp
                  try with_reducible rfl
                try simp only [Act.put, List.getElem_toArray, List.getElem_cons_succ, List.getElem_cons_zero, List.setIfInBounds_toArray, List.set_cons_zero, List.set_cons_succ]
                refine wpAnyH_take (i := 2) (v := ?_) rfl (by kernel_rfl) (by kernel_rfl) (by kernel_rfl) (fun _ _ _ h => h) (Or.inl ⟨by rfl, ?_⟩) hS ?_
                rotate_left
                · intro w hw
                  go_simp
                  try with_reducible rfl
                try simp only [Act.put, List.getElem_toArray, List.getElem_cons_succ, List.getElem_cons_zero, List.setIfInBounds_toArray, List.set_cons_zero, List.set_cons_succ]
                refine wpAnyH_take (i := 3) (v := ?_) rfl (by kernel_rfl) (by kernel_rfl) (by kernel_rfl) (fun _ _ _ h => h) (Or.inl ⟨by rfl, ?_⟩) hS ?_
                rotate_left
                · intro w hw
                  go_simp
                  try with_reducible rfl
                try simp only [Act.put, List.getElem_toArray, List.getElem_cons_succ, List.getElem_cons_zero, List.setIfInBounds_toArray, List.set_cons_zero, List.set_cons_succ]
                refine wpAnyH_take (i := 4) (v := ?_) rfl (by kernel_rfl) (by kernel_rfl) (by kernel_rfl) (fun _ _ _ h => h) (Or.inl ⟨by rfl, ?_⟩) hS ?_
                rotate_left
                · intro w hw
                  obtain ⟨y0, y1, y2, y3, -, -, -, -⟩ := (show Bx w _ d6 from HX7.out.below hw.out HX7.out.lt).facts
                  have hs : ((d6.k.seq : Nat) : Int) = ((q : Nat) : Int) := by rw [HSQ.out, HTM.out]
                  go_simp
                  try with_reducible rfl
                try simp only [Act.put, List.getElem_toArray, List.getElem_cons_succ, List.getElem_cons_zero, List.setIfInBounds_toArray, List.set_cons_zero, List.set_cons_succ]
                refine wpAnyH_take (i := 5) (v := ?_) rfl (by kernel_rfl) (by kernel_rfl) (by kernel_rfl) (fun _ _ _ h => h) (Or.inl ⟨by rfl, ?_⟩) hS ?_
                rotate_left
                · intro w hw
                  go_simp
                  try with_reducible rfl
                try simp only [Act.put, List.getElem_toArray, List.getElem_cons_succ, List.getElem_cons_zero, List.setIfInBounds_toArray, List.set_cons_zero, List.set_cons_succ]
                refine wpAnyH_take (i := 6) (v := ?_) rfl (by kernel_rfl) (by kernel_rfl) (by kernel_rfl) (fun _ _ _ h => h) (Or.inl ⟨by rfl, ?_⟩) hS ?_
                rotate_left
                · intro w hw
                  have ew : IntKind.u64.wrap ((q : Nat) : Int) = ((q : Nat) : Int) := IntWalk.u64_in _ (by omega)
                  go_simp
                  try with_reducible rfl
                try simp only [Act.put, List.getElem_toArray, List.getElem_cons_succ, List.getElem_cons_zero, List.setIfInBounds_toArray, List.set_cons_zero, List.set_cons_succ]
                refine wpAnyH_take (i := 7) (v := ?_) rfl (by kernel_rfl) (by kernel_rfl) (by kernel_rfl) (fun _ _ _ h => h) (Or.inl ⟨by rfl, ?_⟩) hS ?_
                rotate_left
                · intro w hw
                  go_simp
                  try with_reducible rfl
                try simp only [Act.put, List.getElem_toArray, List.getElem_cons_succ, List.getElem_cons_zero, List.setIfInBounds_toArray, List.set_cons_zero, List.set_cons_succ]
                refine wpAnyH_take (i := 8) (v := ?_) rfl (by kernel_rfl) (by kernel_rfl) (by kernel_rfl) (fun _ _ _ h => h) (Or.inl ⟨by rfl, ?_⟩) hS ?_
                rotate_left
                · intro w hw
                  go_simp
                  try with_reducible rfl
                try simp only [Act.put, List.getElem_toArray, List.getElem_cons_succ, List.getElem_cons_zero, List.setIfInBounds_toArray, List.set_cons_zero, List.set_cons_succ]
                refine wpAnyH_take (i := 9) (v := ?_) rfl (by kernel_rfl) (by kernel_rfl) (by kernel_rfl) (fun _ _ _ h => h) (Or.inl ⟨by rfl, ?_⟩) hS ?_
                rotate_left
                · intro w hw
                  go_simp
                  try with_reducible rfl
                try simp only [Act.put, List.getElem_toArray, List.getElem_cons_succ, List.getElem_cons_zero, List.setIfInBounds_toArray, List.set_cons_zero, List.set_cons_succ]
                refine wpAnyH_take (i := 10) (v := ?_) rfl (by kernel_rfl) (by kernel_rfl) (by kernel_rfl) (fun _ _ _ h => h) (Or.inl ⟨by rfl, ?_⟩) hS ?_
                rotate_left
                · intro w hw
                  go_simp
                  try with_reducible rfl
                try simp only [Act.put, List.getElem_toArray, List.getElem_cons_succ, List.getElem_cons_zero, List.setIfInBounds_toArray, List.set_cons_zero, List.set_cons_succ]
                refine wpAnyH_take (i := 11) (v := ?_) rfl (by kernel_rfl) (by kernel_rfl) (by kernel_rfl) (fun _ _ _ h => h) (Or.inl ⟨by rfl, ?_⟩) hS ?_
                rotate_left
                · intro w hw
                  go_simp
                  try with_reducible rfl
                try simp only [Act.put, List.getElem_toArray, List.getElem_cons_succ, List.getElem_cons_zero, List.setIfInBounds_toArray, List.set_cons_zero, List.set_cons_succ]
                refine wpAnyH_take (i := 12) (v := ?_) rfl (by kernel_rfl) (by kernel_rfl) (by kernel_rfl) (fun _ _ _ h => h) (Or.inl ⟨by rfl, ?_⟩) hS ?_
                rotate_left
                · intro w hw
                  obtain ⟨y0, y1, y2, y3, -, -, -, -⟩ := (show Bx w _ d6 from HX7.out.below hw.out HX7.out.lt).facts
                  have hk := HKI.out
                  go_simp
                  try with_reducible rfl
                try simp only [Act.put, List.getElem_toArray, List.getElem_cons_succ, List.getElem_cons_zero, List.setIfInBounds_toArray, List.set_cons_zero, List.set_cons_succ]
                refine wpAnyH_take (i := 13) (v := ?_) rfl (by kernel_rfl) (by kernel_rfl) (by kernel_rfl) (fun _ _ _ h => h) (Or.inl ⟨by rfl, ?_⟩) hS ?_
                rotate_left
                · intro w hw
                  go_simp
                  try with_reducible rfl
                try simp only [Act.put, List.getElem_toArray, List.getElem_cons_succ, List.getElem_cons_zero, List.setIfInBounds_toArray, List.set_cons_zero, List.set_cons_succ]
                refine wpAnyH_take (i := 14) (v := ?_) rfl (by kernel_rfl) (by kernel_rfl) (by kernel_rfl) (fun _ _ _ h => h) (Or.inl ⟨by rfl, ?_⟩) hS ?_
                rotate_left
                · intro w hw
                  go_simp
                  try with_reducible rfl
                try simp only [Act.put, List.getElem_toArray, List.getElem_cons_succ, List.getElem_cons_zero, List.setIfInBounds_toArray, List.set_cons_zero, List.set_cons_succ]
                refine wpAnyH_take (i := 15) (v := ?_) rfl (by kernel_rfl) (by kernel_rfl) (by kernel_rfl) (fun _ _ _ h => h) (Or.inl ⟨by rfl, ?_⟩) hS ?_
                rotate_left
                · intro w hw
                  have ej : ((q : Nat) : Int) - 1 = (m : Int) := by rw [HTM.out]; omega
                  have ew : IntKind.i64.wrap (m : Int) = (m : Int) := IntWalk.i64_in _ (by omega)
                  go_simp
                  try with_reducible rfl
                try simp only [Act.put, List.getElem_toArray, List.getElem_cons_succ, List.getElem_cons_zero, List.setIfInBounds_toArray, List.set_cons_zero, List.set_cons_succ]
                refine wpAnyH_take (i := 16) (v := ?_) rfl (by kernel_rfl) (by kernel_rfl) (by kernel_rfl) (fun _ _ _ h => h) (Or.inl ⟨by rfl, ?_⟩) hS ?_
                rotate_left
                · intro w hw
                  go_simp
                  try with_reducible rfl
                try simp only [Act.put, List.getElem_toArray, List.getElem_cons_succ, List.getElem_cons_zero, List.setIfInBounds_toArray, List.set_cons_zero, List.set_cons_succ]
                refine wpAnyH_take (i := 17) (v := ?_) rfl (by kernel_rfl) (by kernel_rfl) (by kernel_rfl) (fun _ _ _ h => h) (Or.inl ⟨by rfl, ?_⟩) hS ?_
                rotate_left
                · intro w hw
                  have pmw : w.cell? (ad.add m) = some (.int .i64 km) := (hw.out.cell (block_lt_of_cell PM.out)).trans PM.out
                  go_simp
                  try with_reducible rfl
                try simp only [Act.put, List.getElem_toArray, List.getElem_cons_succ, List.getElem_cons_zero, List.setIfInBounds_toArray, List.set_cons_zero, List.set_cons_succ]
                refine wpAnyH_take (i := 18) (v := ?_) rfl (by kernel_rfl) (by kernel_rfl) (by kernel_rfl) (fun _ _ _ h => h) (Or.inl ⟨by rfl, ?_⟩) hS ?_
                rotate_left
                · intro w hw
                  have qA := i64_and1
                  go_simp
                  try with_reducible rfl
                try simp only [Act.put, List.getElem_toArray, List.getElem_cons_succ, List.getElem_cons_zero, List.setIfInBounds_toArray, List.set_cons_zero, List.set_cons_succ]
                refine wpAnyH_take (i := 19) (v := ?_) rfl (by kernel_rfl) (by kernel_rfl) (by kernel_rfl) (fun _ _ _ h => h) (Or.inl ⟨by rfl, ?_⟩) hS ?_
                rotate_left
                · intro w hw
                  go_simp
                  try with_reducible rfl
                try simp only [Act.put, List.getElem_toArray, List.getElem_cons_succ, List.getElem_cons_zero, List.setIfInBounds_toArray, List.set_cons_zero, List.set_cons_succ]
                refine wpAnyH_take (i := 20) (v := ?_) rfl (by kernel_rfl) (by kernel_rfl) (by kernel_rfl) (fun _ _ _ h => h) (Or.inl ⟨by rfl, ?_⟩) hS ?_
                rotate_left
                · intro w hw
                  go_simp
                  try with_reducible rfl
                try simp only [Act.put, List.getElem_toArray, List.getElem_cons_succ, List.getElem_cons_zero, List.setIfInBounds_toArray, List.set_cons_zero, List.set_cons_succ]
                refine wpAnyH_take (i := 21) (v := ?_) rfl (by kernel_rfl) (by kernel_rfl) (by kernel_rfl) (fun _ _ _ h => h) (Or.inl ⟨by rfl, ?_⟩) hS ?_
                rotate_left
                · intro w hw
                  go_simp
                  try with_reducible rfl
                try simp only [Act.put, List.getElem_toArray, List.getElem_cons_succ, List.getElem_cons_zero, List.setIfInBounds_toArray, List.set_cons_zero, List.set_cons_succ]
                refine wpAnyH_done (by kernel_rfl) ?_ _
                have HF := Lib.hid (HB7.out.trans (hS.out.mono HB7.out.size))
                go_wp2_with fail
                go_ret
                exact ⟨rfl, HF.out⟩
              · have hq1 : ks.length < q := by omega
                have HTM : Hid (ks.length = m + 1) := Lib.hid (by omega)
                have hq0 : ((q : Int) == 0) = false := by rw [beq_eq_false_iff_ne]; omega
                clear hmq hql2 HHN2 hmc hqn
                go_wp2_with fail
                change Code.wp _ _ _ _ (W6.alloc (ebox d6))
                rw [← hW7] at PM HX7 HB7 ⊢
                clear hW7
                refine wp_region_held_drew (S := fun w' => Hid (Below W7.heap.size W7 w')) (by kernel_rfl) (Lib.hid (Below.refl _ _).drew) (fun hS => ?_)
                refine wpAnyH_take (i := 0) (v := ?_) rfl (by kernel_rfl) (by kernel_rfl) (by kernel_rfl) (fun _ _ _ h => h) (Or.inl ⟨by rfl, ?_⟩) hS ?_
                rotate_left
                · intro w hw
                  go_simp
                  try with_reducible rfl
                try simp only [Act.put, List.getElem_toArray, List.getElem_cons_succ, List.getElem_cons_zero, List.setIfInBounds_toArray, List.set_cons_zero, List.set_cons_succ]
                refine wpAnyH_take (i := 1) (v := ?_) rfl (by kernel_rfl) (by kernel_rfl) (by kernel_rfl) (fun _ _ _ h => h) (Or.inl ⟨by rfl, ?_⟩) hS ?_
                rotate_left
                · intro w hw
                  go_simp
                  try with_reducible rfl
                try simp only [Act.put, List.getElem_toArray, List.getElem_cons_succ, List.getElem_cons_zero, List.setIfInBounds_toArray, List.set_cons_zero, List.set_cons_succ]
                refine wpAnyH_take (i := 2) (v := ?_) rfl (by kernel_rfl) (by kernel_rfl) (by kernel_rfl) (fun _ _ _ h => h) (Or.inl ⟨by rfl, ?_⟩) hS ?_
                rotate_left
                · intro w hw
                  go_simp
                  try with_reducible rfl
                try simp only [Act.put, List.getElem_toArray, List.getElem_cons_succ, List.getElem_cons_zero, List.setIfInBounds_toArray, List.set_cons_zero, List.set_cons_succ]
                refine wpAnyH_take (i := 3) (v := ?_) rfl (by kernel_rfl) (by kernel_rfl) (by kernel_rfl) (fun _ _ _ h => h) (Or.inl ⟨by rfl, ?_⟩) hS ?_
                rotate_left
                · intro w hw
                  go_simp
                  try with_reducible rfl
                try simp only [Act.put, List.getElem_toArray, List.getElem_cons_succ, List.getElem_cons_zero, List.setIfInBounds_toArray, List.set_cons_zero, List.set_cons_succ]
                refine wpAnyH_take (i := 4) (v := ?_) rfl (by kernel_rfl) (by kernel_rfl) (by kernel_rfl) (fun _ _ _ h => h) (Or.inl ⟨by rfl, ?_⟩) hS ?_
                rotate_left
                · intro w hw
                  obtain ⟨y0, y1, y2, y3, -, -, -, -⟩ := (show Bx w _ d6 from HX7.out.below hw.out HX7.out.lt).facts
                  have hs : ((d6.k.seq : Nat) : Int) = ((ks.length : Nat) : Int) := by rw [HSQ.out, HTM.out]
                  go_simp
                  try with_reducible rfl
                try simp only [Act.put, List.getElem_toArray, List.getElem_cons_succ, List.getElem_cons_zero, List.setIfInBounds_toArray, List.set_cons_zero, List.set_cons_succ]
                refine wpAnyH_take (i := 5) (v := ?_) rfl (by kernel_rfl) (by kernel_rfl) (by kernel_rfl) (fun _ _ _ h => h) (Or.inl ⟨by rfl, ?_⟩) hS ?_
                rotate_left
                · intro w hw
                  go_simp
                  try with_reducible rfl
                try simp only [Act.put, List.getElem_toArray, List.getElem_cons_succ, List.getElem_cons_zero, List.setIfInBounds_toArray, List.set_cons_zero, List.set_cons_succ]
                refine wpAnyH_take (i := 6) (v := ?_) rfl (by kernel_rfl) (by kernel_rfl) (by kernel_rfl) (fun _ _ _ h => h) (Or.inl ⟨by rfl, ?_⟩) hS ?_
                rotate_left
                · intro w hw
                  have ew : IntKind.u64.wrap ((ks.length : Nat) : Int) = ((ks.length : Nat) : Int) := IntWalk.u64_in _ (by omega)
                  go_simp
                  try with_reducible rfl
                try simp only [Act.put, List.getElem_toArray, List.getElem_cons_succ, List.getElem_cons_zero, List.setIfInBounds_toArray, List.set_cons_zero, List.set_cons_succ]
                refine wpAnyH_take (i := 7) (v := ?_) rfl (by kernel_rfl) (by kernel_rfl) (by kernel_rfl) (fun _ _ _ h => h) (Or.inl ⟨by rfl, ?_⟩) hS ?_
                rotate_left
                · intro w hw
                  go_simp
                  try with_reducible rfl
                try simp only [Act.put, List.getElem_toArray, List.getElem_cons_succ, List.getElem_cons_zero, List.setIfInBounds_toArray, List.set_cons_zero, List.set_cons_succ]
                refine wpAnyH_take (i := 8) (v := ?_) rfl (by kernel_rfl) (by kernel_rfl) (by kernel_rfl) (fun _ _ _ h => h) (Or.inl ⟨by rfl, ?_⟩) hS ?_
                rotate_left
                · intro w hw
                  go_simp
                  try with_reducible rfl
                try simp only [Act.put, List.getElem_toArray, List.getElem_cons_succ, List.getElem_cons_zero, List.setIfInBounds_toArray, List.set_cons_zero, List.set_cons_succ]
                refine wpAnyH_take (i := 9) (v := ?_) rfl (by kernel_rfl) (by kernel_rfl) (by kernel_rfl) (fun _ _ _ h => h) (Or.inl ⟨by rfl, ?_⟩) hS ?_
                rotate_left
                · intro w hw
                  go_simp
                  try with_reducible rfl
                try simp only [Act.put, List.getElem_toArray, List.getElem_cons_succ, List.getElem_cons_zero, List.setIfInBounds_toArray, List.set_cons_zero, List.set_cons_succ]
                refine wpAnyH_take (i := 10) (v := ?_) rfl (by kernel_rfl) (by kernel_rfl) (by kernel_rfl) (fun _ _ _ h => h) (Or.inl ⟨by rfl, ?_⟩) hS ?_
                rotate_left
                · intro w hw
                  go_simp
                  try with_reducible rfl
                try simp only [Act.put, List.getElem_toArray, List.getElem_cons_succ, List.getElem_cons_zero, List.setIfInBounds_toArray, List.set_cons_zero, List.set_cons_succ]
                refine wpAnyH_take (i := 11) (v := ?_) rfl (by kernel_rfl) (by kernel_rfl) (by kernel_rfl) (fun _ _ _ h => h) (Or.inl ⟨by rfl, ?_⟩) hS ?_
                rotate_left
                · intro w hw
                  go_simp
                  try with_reducible rfl
                try simp only [Act.put, List.getElem_toArray, List.getElem_cons_succ, List.getElem_cons_zero, List.setIfInBounds_toArray, List.set_cons_zero, List.set_cons_succ]
                refine wpAnyH_take (i := 12) (v := ?_) rfl (by kernel_rfl) (by kernel_rfl) (by kernel_rfl) (fun _ _ _ h => h) (Or.inl ⟨by rfl, ?_⟩) hS ?_
                rotate_left
                · intro w hw
                  obtain ⟨y0, y1, y2, y3, -, -, -, -⟩ := (show Bx w _ d6 from HX7.out.below hw.out HX7.out.lt).facts
                  have hk := HKI.out
                  go_simp
                  try with_reducible rfl
                try simp only [Act.put, List.getElem_toArray, List.getElem_cons_succ, List.getElem_cons_zero, List.setIfInBounds_toArray, List.set_cons_zero, List.set_cons_succ]
                refine wpAnyH_take (i := 13) (v := ?_) rfl (by kernel_rfl) (by kernel_rfl) (by kernel_rfl) (fun _ _ _ h => h) (Or.inl ⟨by rfl, ?_⟩) hS ?_
                rotate_left
                · intro w hw
                  go_simp
                  try with_reducible rfl
                try simp only [Act.put, List.getElem_toArray, List.getElem_cons_succ, List.getElem_cons_zero, List.setIfInBounds_toArray, List.set_cons_zero, List.set_cons_succ]
                refine wpAnyH_take (i := 14) (v := ?_) rfl (by kernel_rfl) (by kernel_rfl) (by kernel_rfl) (fun _ _ _ h => h) (Or.inl ⟨by rfl, ?_⟩) hS ?_
                rotate_left
                · intro w hw
                  go_simp
                  try with_reducible rfl
                try simp only [Act.put, List.getElem_toArray, List.getElem_cons_succ, List.getElem_cons_zero, List.setIfInBounds_toArray, List.set_cons_zero, List.set_cons_succ]
                refine wpAnyH_take (i := 15) (v := ?_) rfl (by kernel_rfl) (by kernel_rfl) (by kernel_rfl) (fun _ _ _ h => h) (Or.inl ⟨by rfl, ?_⟩) hS ?_
                rotate_left
                · intro w hw
                  have ej : ((ks.length : Nat) : Int) - 1 = (m : Int) := by rw [HTM.out]; omega
                  have ew : IntKind.i64.wrap (m : Int) = (m : Int) := IntWalk.i64_in _ (by omega)
                  go_simp
                  try with_reducible rfl
                try simp only [Act.put, List.getElem_toArray, List.getElem_cons_succ, List.getElem_cons_zero, List.setIfInBounds_toArray, List.set_cons_zero, List.set_cons_succ]
                refine wpAnyH_take (i := 16) (v := ?_) rfl (by kernel_rfl) (by kernel_rfl) (by kernel_rfl) (fun _ _ _ h => h) (Or.inl ⟨by rfl, ?_⟩) hS ?_
                rotate_left
                · intro w hw
                  go_simp
                  try with_reducible rfl
                try simp only [Act.put, List.getElem_toArray, List.getElem_cons_succ, List.getElem_cons_zero, List.setIfInBounds_toArray, List.set_cons_zero, List.set_cons_succ]
                refine wpAnyH_take (i := 17) (v := ?_) rfl (by kernel_rfl) (by kernel_rfl) (by kernel_rfl) (fun _ _ _ h => h) (Or.inl ⟨by rfl, ?_⟩) hS ?_
                rotate_left
                · intro w hw
                  have pmw : w.cell? (ad.add m) = some (.int .i64 km) := (hw.out.cell (block_lt_of_cell PM.out)).trans PM.out
                  go_simp
                  try with_reducible rfl
                try simp only [Act.put, List.getElem_toArray, List.getElem_cons_succ, List.getElem_cons_zero, List.setIfInBounds_toArray, List.set_cons_zero, List.set_cons_succ]
                refine wpAnyH_take (i := 18) (v := ?_) rfl (by kernel_rfl) (by kernel_rfl) (by kernel_rfl) (fun _ _ _ h => h) (Or.inl ⟨by rfl, ?_⟩) hS ?_
                rotate_left
                · intro w hw
                  have qA := i64_and1
                  go_simp
                  try with_reducible rfl
                try simp only [Act.put, List.getElem_toArray, List.getElem_cons_succ, List.getElem_cons_zero, List.setIfInBounds_toArray, List.set_cons_zero, List.set_cons_succ]
                refine wpAnyH_take (i := 19) (v := ?_) rfl (by kernel_rfl) (by kernel_rfl) (by kernel_rfl) (fun _ _ _ h => h) (Or.inl ⟨by rfl, ?_⟩) hS ?_
                rotate_left
                · intro w hw
                  go_simp
                  try with_reducible rfl
                try simp only [Act.put, List.getElem_toArray, List.getElem_cons_succ, List.getElem_cons_zero, List.setIfInBounds_toArray, List.set_cons_zero, List.set_cons_succ]
                refine wpAnyH_take (i := 20) (v := ?_) rfl (by kernel_rfl) (by kernel_rfl) (by kernel_rfl) (fun _ _ _ h => h) (Or.inl ⟨by rfl, ?_⟩) hS ?_
                rotate_left
                · intro w hw
                  go_simp
                  try with_reducible rfl
                try simp only [Act.put, List.getElem_toArray, List.getElem_cons_succ, List.getElem_cons_zero, List.setIfInBounds_toArray, List.set_cons_zero, List.set_cons_succ]
                refine wpAnyH_take (i := 21) (v := ?_) rfl (by kernel_rfl) (by kernel_rfl) (by kernel_rfl) (fun _ _ _ h => h) (Or.inl ⟨by rfl, ?_⟩) hS ?_
                rotate_left
                · intro w hw
                  go_simp
                  try with_reducible rfl
                try simp only [Act.put, List.getElem_toArray, List.getElem_cons_succ, List.getElem_cons_zero, List.setIfInBounds_toArray, List.set_cons_zero, List.set_cons_succ]
                refine wpAnyH_done (by kernel_rfl) ?_ _
                have HF := Lib.hid (HB7.out.trans (hS.out.mono HB7.out.size))
                go_wp2_with fail
                go_ret
                exact ⟨rfl, HF.out⟩

set_option maxRecDepth 100000 in
theorem lifted (os : Os) (started : os.Started) (H : Type) (enc : TypeId × Value → H) :
    ReturnsInHanded {} Try.checked os 5 .any (Rows.skipNewestSpec.pre6 enc Try.prog Try.f5 Rows.skipNewestRow.domain false) (Rows.skipNewestSpec.post enc Try.prog Try.f5 false true false false) := by
  refine lift_true (C := Try.checked) own started (by kernel_rfl) Try.func5
    (ChangeSpec.witness6 (enc := enc) (C := Try.checked) false ⟨#[], #[.slice none 0 0, .int .i64 0], []⟩ 8 (by kernel_rfl) (by kernel_rfl) (by kernel_rfl) (by kernel_rfl))
    (by kernel_rfl) (by kernel_rfl) (by kernel_rfl) Try.underlying4 rfl ?_ ?_
  · intro ds hds
    match ds, hds with
    | [d1, d2], _ => exact ⟨rfl, rfl, rfl⟩
  · intro W base args ds p hval0 hA0 hlt _
    have hval : ∀ (j : Nat) t v, Try.f5.params[j]? = some t → args[j]? = some v → Value.okWide Try.prog W .any base t v := hval0
    have hA : DataW.TrodAll enc Try.prog W 0 (fun _ => true) true Try.f5.params.toList args.toList ds p := hA0
    rw [Try.params5] at hA hval
    obtain ⟨v0, vs0, d0, ds0, p0, q0, hargs, rfl, rfl, h0, r0⟩ := trodAll_cons hA
    obtain ⟨v1, vs1, d1, ds1, p1, q1, rfl, rfl, rfl, h1, r1⟩ := trodAll_cons r0
    obtain ⟨rfl, rfl, rfl⟩ := trodAll_nil r1
    obtain rfl : args = #[v0, v1] := by cases args; simp_all
    obtain ⟨A0, c0, zs0, rfl, hc0, hm0, hl0, hw0⟩ := open_nums Try.underlying23 Try.underlying3 (by kernel_rfl) (hval 0 _ v0 rfl rfl) h0 (fun x hx => hlt x (by simp [hx]))
    obtain ⟨a1, rfl, rfl, rfl, w1⟩ := open_int Try.underlying3 (hval 1 _ v1 rfl rfl) h1
    have b1 := i64_of w1
    exact walk A0 c0 zs0 a1 W hl0 hc0 hm0 hw0 b1

theorem over : Rows.skipNewestRow.holds Try.pinned (OpenSpec.ofChange Rows.skipNewestSpec) :=
  OpenClaim.holds_of_wide 5 Try.f5 rfl rfl rfl rfl rfl rfl rfl ⟨rfl, rfl, rfl, rfl, rfl⟩ rfl rfl rfl rfl rfl (by kernel_rfl) Try.func5 (by kernel_rfl)
    (of_decide_eq_true (by kernel_rfl)) (by unfold Func.isWrapper; first | (rw [if_pos (by decide +kernel)]; kernel_rfl) | (rw [if_neg (by decide +kernel)]; exact ⟨rfl, rfl⟩))
    (fun os started H enc _ => lifted os started H enc)

theorem proved : Rows.SkipNewestSaid :=
  over
#print axioms proved
end Go.Proofs.Ytnhpocfjmmnnmaa.skipNewest
