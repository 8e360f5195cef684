/- Proved: for any entries, heights and turn, SkipSorts of butterylaw9 answers true (All is ascending and does not depend on the order of insertion, and each level contains the entries of the level above it), and its arguments read as before. Conditions: none beyond what the given row states. -/
import Derived.Test.YtnhpocfjmmnnmaaSsort
import Derived.Deep.RegionHeld3
import Derived.Deep.QuietTactic
import Derived.BigQuiet
namespace Go.Proofs.Ytnhpocfjmmnnmaa.skipSorts
set_option linter.unusedVariables false
set_option linter.unusedSimpArgs false
open Go.ChangeShapes Go.WideShapes Go.ChangeAt Go.RowKit Lift Sk Ik

theorem own : ownKnob Try.prog.godebug = none := by kernel_rfl

/-- What the loop puts in. -/
def fL (L : List D) (hs : List Int) (i : Nat) : T × Int := ((L[i]?.map D.t).getD ⟨⟨[], 0, 0⟩, []⟩, hs[i]?.getD 0)
theorem fL_at {L : List D} {hs : List Int} {i : Nat} {d : D} {h : Int} (h1 : L[i]? = some d) (h2 : hs[i]? = some h) : fL L hs i = (d.t, h) := by simp [fL, h1, h2]
/-- The same, begun at another place. -/
def rot (f : Nat → T × Int) (t n : Nat) (i : Nat) : T × Int := f ((i + t) % n)
/-- Two lists of the call's own, apart. -/
def Two (w0 : World) (g g' : Nat) (R R' : Row) (w : World) : Prop := ∃ S S' : Nat → Prop, SL w g S R ∧ SL w g' S' R' ∧ Below w0.heap.size w0 w ∧ (∀ k, S k → w0.heap.size ≤ k) ∧ (∀ k, S' k → w0.heap.size ≤ k) ∧ ∀ k, S k → ¬ S' k
theorem rows_keys (f : Nat → T × Int) : ∀ j x, x ∈ (rows f j).map rk ↔ ∃ i, i < j ∧ okT (f i).1 = true ∧ (f i).1.k = x
  | 0, x => by simp [rows]
  | j + 1, x => by
    have ih := rows_keys f j x
    have step : x ∈ (rows f (j + 1)).map rk ↔ x ∈ (rows f j).map rk ∨ (okT (f j).1 = true ∧ (f j).1.k = x) := by
      show x ∈ (insT (rows f j) (f j).1 (hgt (f j).2)).map rk ↔ _
      unfold insT insE
      cases ho : okT (f j).1 with
      | false => simp
      | true =>
        by_cases ht : twice (rows f j) (f j).1.k
        · simp only [if_neg (show ¬ true = false by decide), if_pos ht, if_neg (show ¬ (9 : Nat) = 0 by decide)]
          constructor
          · exact .inl
          · rintro (h | ⟨_, rfl⟩)
            · exact h
            · obtain ⟨r, v, h1, h2⟩ := ht
              have hr : r ∈ rows f j := by rw [← bef_aft (f := rk) (rows f j) (f j).1.k, h1]; simp
              exact List.mem_map.2 ⟨r, hr, K.eq h2⟩
        · simp only [if_neg (show ¬ true = false by decide), if_neg ht, if_pos (show (0 : Nat) = 0 from rfl)]
          constructor
          · intro h
            obtain ⟨r, hr, rfl⟩ := List.mem_map.1 h
            rcases insR_mem.1 hr with rfl | hr
            · exact .inr ⟨trivial, rfl⟩
            · exact .inl (List.mem_map.2 ⟨r, hr, rfl⟩)
          · rintro (h | ⟨_, rfl⟩)
            · obtain ⟨r, hr, rfl⟩ := List.mem_map.1 h
              exact List.mem_map.2 ⟨r, insR_mem.2 (.inr hr), rfl⟩
            · exact List.mem_map.2 ⟨_, insR_mem.2 (.inl rfl), rfl⟩
    rw [step, ih]
    constructor
    · rintro (⟨i, h1, h2⟩ | h)
      · exact ⟨i, by omega, h2⟩
      · exact ⟨j, by omega, h⟩
    · rintro ⟨i, h1, h2⟩
      by_cases h : i = j
      · subst h; exact .inr h2
      · exact .inl ⟨i, by omega, h2⟩
theorem keys_same {f : Nat → T × Int} {t n : Nat} (ht : t < n) (h1 : Sorted rk (rows f n)) (h2 : Sorted rk (rows (rot f t n) n)) : (rows f n).map rk = (rows (rot f t n) n).map rk := by
  refine sorted_ext (List.pairwise_map.2 h1) (List.pairwise_map.2 h2) fun x => ?_
  rw [rows_keys, rows_keys]
  constructor
  · rintro ⟨i, hi, h⟩
    refine ⟨(i + (n - t)) % n, Nat.mod_lt _ (by omega), ?_⟩
    have e : ((i + (n - t)) % n + t) % n = i := by
      rw [Nat.mod_add_mod, show i + (n - t) + t = i + n by omega, Nat.add_mod_right, Nat.mod_eq_of_lt hi]
    unfold rot
    rw [e]
    exact h
  · rintro ⟨i, hi, h⟩
    exact ⟨(i + t) % n, Nat.mod_lt _ (by omega), h⟩
set_option maxRecDepth 100000 in
set_option maxHeartbeats 8000000 in
theorem walk (A1 A2 : Option Addr) (c1 c2 : Nat) (L : List D) (hs : List Int) (turn : Int) (w : World) (h1 : Ents w (· < w.heap.size) A1 c1 L) (h2 : Lies w w.heap.size A2 (hs.map (Value.int .i64))) (hc2 : hs.length ≤ c2) (hm2 : c2 ≤ maxLen) (hw : ∀ x, x ∈ hs → (Lit.int .i64 x).wf = true) (hturn : -9223372036854775808 ≤ turn ∧ turn ≤ 9223372036854775807) :
    Calls Try.prog 4 #[.slice A1 L.length c1, .slice A2 hs.length c2, .int .i64 turn] w (Sk.Yes w) := by
  have H1 := Lib.hid h1
  have H2 := Lib.hid h2
  have HW := Lib.hid hw
  have hc1 := h1.len
  have hm1 := h1.cap
  unfold maxLen at hm1 hm2
  clear h1 h2 hw
  go_enter Try.func4, Try.ntmps4
  go_wp2_with fail
  refine (alive_any _).mono ?_
  rintro e W1 ⟨rfl, hb1⟩
  have HB1 := Lib.hid hb1
  clear hb1
  go_wp2_with fail
  refine (big_any A1 c1 _ L W1 (H1.out.below HB1.out)).mono ?_
  rintro e W2 ⟨rfl, rfl⟩
  cases hg : bigL L
  · by_cases hlen : hs.length < L.length
    · go_wp2_with fail
      go_ret
      exact ⟨rfl, HB1.out⟩
    · by_cases hone : L.length < 1
      · go_wp2_with fail
        go_ret
        exact ⟨rfl, HB1.out⟩
      · by_cases hneg : turn < 0
        · go_wp2_with fail
          go_ret
          exact ⟨rfl, HB1.out⟩
        · obtain ⟨hn60, hsm⟩ := big_no hg
          obtain ⟨tt, rfl⟩ : ∃ tt : Nat, turn = (tt : Int) := ⟨turn.toNat, by omega⟩
          clear hg hsm
          go_wp2_with fail
          refine (new_any W1).mono ?_
          rintro e W2 ⟨rfl, hs2, hb2⟩
          have HS2 := Lib.hid hs2
          have HB2 := Lib.hid hb2
          clear hs2 hb2
          go_wp2_with fail
          refine (new_any W2).mono ?_
          rintro e W3 ⟨rfl, hs3, hb3⟩
          obtain ⟨g, hgd⟩ : ∃ g, g = W1.heap.size := ⟨_, rfl⟩
          obtain ⟨g', hgd'⟩ : ∃ g', g' = W2.heap.size := ⟨_, rfl⟩
          obtain ⟨t0, ht0⟩ : ∃ t0, t0 = tt % L.length := ⟨_, rfl⟩
          have HTT : Hid (Two w g g' (rows (fL L hs) 0) (rows (rot (fL L hs) t0 L.length) 0) W3) := Lib.hid (by
            rw [hgd, hgd']
            refine ⟨_, _, HS2.out.below hb3, hs3, HB1.out.trans ((HB2.out.trans (hb3.mono HB2.out.size)).mono HB1.out.size), fun k hk => by rw [hk]; exact HB1.out.size, fun k hk => by rw [hk]; exact Nat.le_trans HB1.out.size HB2.out.size, fun k hk hk2 => ?_⟩
            have h1 := HS2.out.lt k hk
            omega)
          have HT0 := Lib.hid ht0
          rw [← hgd, ← hgd']
          clear hs3 hb3 hgd hgd' ht0 HS2
          go_wp2_with fail
          go_loopw [11, 12] (fun i x1 wr => ∃ j : Nat, j ≤ L.length ∧ i = .int .i64 j ∧ Hid (Two w g g' (rows (fL L hs) j) (rows (rot (fL L hs) t0 L.length) j) wr)) (fun i _ _ => 70 - (intOf i).toNat)
          case atStart => exact ⟨0, by omega, rfl, HTT⟩
          case round =>
          obtain ⟨j, hj, rfl, htw⟩ := hrel
          clear HTT
          by_cases hlt : j < L.length
          · obtain ⟨S, S', hsl, hsl', hbw, hss, hss', hdj⟩ := htw.out
            obtain ⟨d, hd⟩ : ∃ d, L[j]? = some d := ⟨_, List.getElem?_eq_getElem hlt⟩
            obtain ⟨h, hh⟩ : ∃ h, hs[j]? = some h := ⟨_, List.getElem?_eq_getElem (by omega)⟩
            obtain ⟨kk, hkk⟩ : ∃ kk, kk = (j + t0) % L.length := ⟨_, rfl⟩
            have hkl : kk < L.length := by rw [hkk]; exact Nat.mod_lt _ (by omega)
            obtain ⟨d2, hd2⟩ : ∃ d, L[kk]? = some d := ⟨_, List.getElem?_eq_getElem hkl⟩
            obtain ⟨h2, hh2⟩ : ∃ h, hs[kk]? = some h := ⟨_, List.getElem?_eq_getElem (by omega)⟩
            have HSL := Lib.hid hsl
            have HSL' := Lib.hid hsl'
            have HBW := Lib.hid hbw
            have HSS := Lib.hid hss
            have HSS2 := Lib.hid hss'
            have HDJ := Lib.hid hdj
            have HJD := Lib.hid hd
            have HJH := Lib.hid hh
            have HJD2 := Lib.hid hd2
            have HJH2 := Lib.hid hh2
            have HJ1 := Lib.hid (show rows (fL L hs) (j + 1) = insT (rows (fL L hs) j) d.t (hgt h) by show insT _ (fL L hs j).1 (hgt (fL L hs j).2) = _; rw [fL_at hd hh])
            have HJ2 := Lib.hid (show rows (rot (fL L hs) t0 L.length) (j + 1) = insT (rows (rot (fL L hs) t0 L.length) j) d2.t (hgt h2) by
              show insT _ (fL L hs ((j + t0) % L.length)).1 (hgt (fL L hs ((j + t0) % L.length)).2) = _
              rw [← hkk, fL_at hd2 hh2])
            have HRL := Lib.hid (rows_len (fL L hs) j)
            have HRL2 := Lib.hid (rows_len (rot (fL L hs) t0 L.length) j)
            have HDW := Lib.hid (H1.out.ok d (List.mem_of_getElem? hd))
            have HHW := Lib.hid (HW.out h (List.mem_of_getElem? hh))
            have HDW2 := Lib.hid (H1.out.ok d2 (List.mem_of_getElem? hd2))
            have HHW2 := Lib.hid (HW.out h2 (List.mem_of_getElem? hh2))
            have em : (tt : Int) % (L.length : Int) = ((t0 : Nat) : Int) := by rw [HT0.out]; rfl
            have ht0l : t0 < L.length := by rw [HT0.out]; exact Nat.mod_lt _ (by omega)
            have ek : ((j : Int) + (t0 : Int)) % (L.length : Int) = ((kk : Nat) : Int) := by rw [hkk]; rfl
            obtain ⟨ad, p, hA, hpb, hp, -⟩ := H1.out.place hd
            subst hA
            obtain ⟨ad3, pa2, hA3, -, hpa2, -⟩ := H1.out.place hd2
            injection hA3 with hA3
            subst hA3
            obtain ⟨ad2, hA2, -, -⟩ := H2.out.place (by rw [List.length_map]; omega)
            subst hA2
            have HPA := Lib.hid hpa2
            clear htw hsl hsl' hbw hss hss' hdj hd hh hd2 hh2 hpb hkk hpa2
            go_wp2_with fail
            refine wp_region_held_drew (S := fun w' => Hid (Keep S wr w')) (by kernel_rfl) (Lib.hid (Keep.refl _ _).drew) (fun hS => ?_)
            refine wpAnyH_take (i := 0) (v := ?_) rfl (by kernel_rfl) (by kernel_rfl) (by kernel_rfl) (fun _ _ _ h => h) (Or.inl ⟨by rfl, ?_⟩) hS ?_
            rotate_left
            · intro w hw
              go_simp
              try with_reducible rfl
            try simp only [Act.put, List.getElem_toArray, List.getElem_cons_succ, List.getElem_cons_zero, List.setIfInBounds_toArray, List.set_cons_zero, List.set_cons_succ]
            refine wpAnyH_take (i := 1) (v := ?_) rfl (by kernel_rfl) (by kernel_rfl) (by kernel_rfl) (fun _ _ _ h => h) (Or.inl ⟨by rfl, ?_⟩) hS ?_
            rotate_left
            · intro w hw
              go_simp
              try with_reducible rfl
            try simp only [Act.put, List.getElem_toArray, List.getElem_cons_succ, List.getElem_cons_zero, List.setIfInBounds_toArray, List.set_cons_zero, List.set_cons_succ]
            refine wpAnyH_take (i := 2) (v := ?_) rfl (by kernel_rfl) (by kernel_rfl) (by kernel_rfl) (fun _ _ _ h => h) (Or.inl ⟨by rfl, ?_⟩) hS ?_
            rotate_left
            · intro w hw
              go_simp
              try with_reducible rfl
            try simp only [Act.put, List.getElem_toArray, List.getElem_cons_succ, List.getElem_cons_zero, List.setIfInBounds_toArray, List.set_cons_zero, List.set_cons_succ]
            refine wpAnyH_take (i := 3) (v := ?_) rfl (by kernel_rfl) (by kernel_rfl) (by kernel_rfl) (fun _ _ _ h => h) (Or.inl ⟨by rfl, ?_⟩) hS ?_
            rotate_left
            · intro w hw
              go_simp
              try with_reducible rfl
            try simp only [Act.put, List.getElem_toArray, List.getElem_cons_succ, List.getElem_cons_zero, List.setIfInBounds_toArray, List.set_cons_zero, List.set_cons_succ]
            refine wpAnyH_take (i := 4) (v := ?_) rfl (by kernel_rfl) (by kernel_rfl) (by kernel_rfl) (fun _ _ _ h => h) (Or.inl ⟨by rfl, ?_⟩) hS ?_
            rotate_left
            · intro w hw
              have hbw := HBW.out.trans (hw.out.below HBW.out.size HSS.out)
              obtain ⟨ad', p', hA, -, hp', p0, p1, p2, p3⟩ := (H1.out.below hbw).place HJD.out
              injection hA with hA
              subst hA
              obtain rfl : p' = p := hp'.symm.trans hp
              have hld := D.load p0 p1 p2 p3
              clear hbw
              go_simp
              try with_reducible rfl
            try simp only [Act.put, List.getElem_toArray, List.getElem_cons_succ, List.getElem_cons_zero, List.setIfInBounds_toArray, List.set_cons_zero, List.set_cons_succ]
            refine wpAnyH_take (i := 5) (v := ?_) rfl (by kernel_rfl) (by kernel_rfl) (by kernel_rfl) (fun _ _ _ h => h) (Or.inl ⟨by rfl, ?_⟩) hS ?_
            rotate_left
            · intro w hw
              go_simp
              try with_reducible rfl
            try simp only [Act.put, List.getElem_toArray, List.getElem_cons_succ, List.getElem_cons_zero, List.setIfInBounds_toArray, List.set_cons_zero, List.set_cons_succ]
            refine wpAnyH_take (i := 6) (v := ?_) rfl (by kernel_rfl) (by kernel_rfl) (by kernel_rfl) (fun _ _ _ h => h) (Or.inl ⟨by rfl, ?_⟩) hS ?_
            rotate_left
            · intro w hw
              go_simp
              try with_reducible rfl
            try simp only [Act.put, List.getElem_toArray, List.getElem_cons_succ, List.getElem_cons_zero, List.setIfInBounds_toArray, List.set_cons_zero, List.set_cons_succ]
            refine wpAnyH_take (i := 7) (v := ?_) rfl (by kernel_rfl) (by kernel_rfl) (by kernel_rfl) (fun _ _ _ h => h) (Or.inl ⟨by rfl, ?_⟩) hS ?_
            rotate_left
            · intro w hw
              have hbw := HBW.out.trans (hw.out.below HBW.out.size HSS.out)
              obtain ⟨ad', hA, -, hcell⟩ := (H2.out.below hbw).place (by have := (List.getElem?_eq_some_iff.1 HJH.out).1; rw [List.length_map]; omega)
              injection hA with hA
              subst hA
              have p0 := hcell j _ (by rw [List.getElem?_map, HJH.out]; rfl)
              clear hcell hbw
              have hjl := (List.getElem?_eq_some_iff.1 HJH.out).1
              go_simp
              try with_reducible rfl
            try simp only [Act.put, List.getElem_toArray, List.getElem_cons_succ, List.getElem_cons_zero, List.setIfInBounds_toArray, List.set_cons_zero, List.set_cons_succ]
            refine wpAnyH_take (i := 8) (v := ?_) rfl (by kernel_rfl) (by kernel_rfl) (by kernel_rfl) (fun _ _ _ h => h) (Or.inl ⟨by rfl, ?_⟩) hS ?_
            rotate_left
            · intro w hw
              have hbw := HBW.out.trans (hw.out.below HBW.out.size HSS.out)
              obtain ⟨ad', hA, -, hcell⟩ := (H2.out.below hbw).place (by have := (List.getElem?_eq_some_iff.1 HJH.out).1; rw [List.length_map]; omega)
              injection hA with hA
              subst hA
              have p0 := hcell j _ (by rw [List.getElem?_map, HJH.out]; rfl)
              clear hcell hbw
              have hjl := (List.getElem?_eq_some_iff.1 HJH.out).1
              go_simp
              try with_reducible rfl
            try simp only [Act.put, List.getElem_toArray, List.getElem_cons_succ, List.getElem_cons_zero, List.setIfInBounds_toArray, List.set_cons_zero, List.set_cons_succ]
            refine wpAnyH_ready (rs := [9]) (by kernel_rfl) (by simp) ?_
            refine (AllReadyH.cons rfl (fun K hK => ?_) AllReadyH.nil)
            go_simp
            have hwr : Below wr.heap.size wr wr.drew := (Below.refl _ _).drew
            refine (insert_any d h (HSL.out.below hwr) ((HDW.out.below (HBW.out.trans (hwr.mono HBW.out.size))).mono fun k hk => Nat.lt_of_lt_of_le hk HBW.out.size) HHW.out (by have := HRL.out; omega)).mono ?_
            rintro e W3 hi
            obtain ⟨S3, rfl, hsl3, hk3, hS3⟩ := hi
            have hkw : Keep S wr W3 := (below_keep (S := S) hwr).trans hk3 fun _ _ h => h
            have HK3 := Lib.hid hkw
            have HSL3 := Lib.hid (show SL W3 g S3 (rows (fL L hs) (j + 1)) by rw [HJ1.out]; exact hsl3)
            have HSLy := Lib.hid (HSL'.out.keep hkw fun k hk hs => HDJ.out k hs hk)
            have HBW2 := Lib.hid (HBW.out.trans (hkw.below HBW.out.size HSS.out))
            have HS3 : Hid (∀ k, S3 k → S k ∨ wr.heap.size ≤ k) := Lib.hid fun k hk => (hS3 k hk).imp id fun h => Nat.le_trans hwr.size h
            clear hsl3 hk3 hS3 hkw hwr
            go_wp2_with fail
            refine hK.out _ _ HK3 (fun hS => ?_)
            clear hK K
            try simp only [Act.put, List.getElem_toArray, List.getElem_cons_succ, List.getElem_cons_zero, List.setIfInBounds_toArray, List.set_cons_zero, List.set_cons_succ]
            refine wpAnyH_done (by kernel_rfl) ?_ _
            go_wp2_with fail
            have hpa2 := HPA.out
            clear hp
            refine wp_region_held_drew (S := fun w' => Hid (Keep S' W3 w')) (by kernel_rfl) (Lib.hid (Keep.refl _ _).drew) (fun hS => ?_)
            refine wpAnyH_take (i := 0) (v := ?_) rfl (by kernel_rfl) (by kernel_rfl) (by kernel_rfl) (fun _ _ _ h => h) (Or.inl ⟨by rfl, ?_⟩) hS ?_
            rotate_left
            · intro w hw
              go_simp
              try with_reducible rfl
            try simp only [Act.put, List.getElem_toArray, List.getElem_cons_succ, List.getElem_cons_zero, List.setIfInBounds_toArray, List.set_cons_zero, List.set_cons_succ]
            refine wpAnyH_take (i := 1) (v := ?_) rfl (by kernel_rfl) (by kernel_rfl) (by kernel_rfl) (fun _ _ _ h => h) (Or.inl ⟨by rfl, ?_⟩) hS ?_
            rotate_left
            · intro w hw
              go_simp
              try with_reducible rfl
            try simp only [Act.put, List.getElem_toArray, List.getElem_cons_succ, List.getElem_cons_zero, List.setIfInBounds_toArray, List.set_cons_zero, List.set_cons_succ]
            refine wpAnyH_take (i := 2) (v := ?_) rfl (by kernel_rfl) (by kernel_rfl) (by kernel_rfl) (fun _ _ _ h => h) (Or.inl ⟨by rfl, ?_⟩) hS ?_
            rotate_left
            · intro w hw
              go_simp
              try with_reducible rfl
            try simp only [Act.put, List.getElem_toArray, List.getElem_cons_succ, List.getElem_cons_zero, List.setIfInBounds_toArray, List.set_cons_zero, List.set_cons_succ]
            refine wpAnyH_take (i := 3) (v := ?_) rfl (by kernel_rfl) (by kernel_rfl) (by kernel_rfl) (fun _ _ _ h => h) (Or.inl ⟨by rfl, ?_⟩) hS ?_
            rotate_left
            · intro w hw
              go_simp
              try with_reducible rfl
            try simp only [Act.put, List.getElem_toArray, List.getElem_cons_succ, List.getElem_cons_zero, List.setIfInBounds_toArray, List.set_cons_zero, List.set_cons_succ]
            refine wpAnyH_take (i := 4) (v := ?_) rfl (by kernel_rfl) (by kernel_rfl) (by kernel_rfl) (fun _ _ _ h => h) (Or.inl ⟨by rfl, ?_⟩) hS ?_
            rotate_left
            · intro w hw
              have hbw := HBW2.out.trans (hw.out.below HBW2.out.size HSS2.out)
              obtain ⟨ad', p', hA, -, hp', p0, p1, p2, p3⟩ := (H1.out.below hbw).place HJD2.out
              injection hA with hA
              subst hA
              obtain rfl : p' = pa2 := hp'.symm.trans hpa2
              have hld := D.load p0 p1 p2 p3
              clear hbw
              go_simp
              try with_reducible rfl
            try simp only [Act.put, List.getElem_toArray, List.getElem_cons_succ, List.getElem_cons_zero, List.setIfInBounds_toArray, List.set_cons_zero, List.set_cons_succ]
            refine wpAnyH_take (i := 5) (v := ?_) rfl (by kernel_rfl) (by kernel_rfl) (by kernel_rfl) (fun _ _ _ h => h) (Or.inl ⟨by rfl, ?_⟩) hS ?_
            rotate_left
            · intro w hw
              go_simp
              try with_reducible rfl
            try simp only [Act.put, List.getElem_toArray, List.getElem_cons_succ, List.getElem_cons_zero, List.setIfInBounds_toArray, List.set_cons_zero, List.set_cons_succ]
            refine wpAnyH_take (i := 6) (v := ?_) rfl (by kernel_rfl) (by kernel_rfl) (by kernel_rfl) (fun _ _ _ h => h) (Or.inl ⟨by rfl, ?_⟩) hS ?_
            rotate_left
            · intro w hw
              go_simp
              try with_reducible rfl
            try simp only [Act.put, List.getElem_toArray, List.getElem_cons_succ, List.getElem_cons_zero, List.setIfInBounds_toArray, List.set_cons_zero, List.set_cons_succ]
            refine wpAnyH_take (i := 7) (v := ?_) rfl (by kernel_rfl) (by kernel_rfl) (by kernel_rfl) (fun _ _ _ h => h) (Or.inl ⟨by rfl, ?_⟩) hS ?_
            rotate_left
            · intro w hw
              have hbw := HBW2.out.trans (hw.out.below HBW2.out.size HSS2.out)
              obtain ⟨ad', hA, -, hcell⟩ := (H2.out.below hbw).place (by have := (List.getElem?_eq_some_iff.1 HJH2.out).1; rw [List.length_map]; omega)
              injection hA with hA
              subst hA
              have p0 := hcell kk _ (by rw [List.getElem?_map, HJH2.out]; rfl)
              clear hcell hbw
              have hjl := (List.getElem?_eq_some_iff.1 HJH2.out).1
              go_simp
              try with_reducible rfl
            try simp only [Act.put, List.getElem_toArray, List.getElem_cons_succ, List.getElem_cons_zero, List.setIfInBounds_toArray, List.set_cons_zero, List.set_cons_succ]
            refine wpAnyH_take (i := 8) (v := ?_) rfl (by kernel_rfl) (by kernel_rfl) (by kernel_rfl) (fun _ _ _ h => h) (Or.inl ⟨by rfl, ?_⟩) hS ?_
            rotate_left
            · intro w hw
              have hbw := HBW2.out.trans (hw.out.below HBW2.out.size HSS2.out)
              obtain ⟨ad', hA, -, hcell⟩ := (H2.out.below hbw).place (by have := (List.getElem?_eq_some_iff.1 HJH2.out).1; rw [List.length_map]; omega)
              injection hA with hA
              subst hA
              have p0 := hcell kk _ (by rw [List.getElem?_map, HJH2.out]; rfl)
              clear hcell hbw
              have hjl := (List.getElem?_eq_some_iff.1 HJH2.out).1
              go_simp
              try with_reducible rfl
            try simp only [Act.put, List.getElem_toArray, List.getElem_cons_succ, List.getElem_cons_zero, List.setIfInBounds_toArray, List.set_cons_zero, List.set_cons_succ]
            refine wpAnyH_ready (rs := [9]) (by kernel_rfl) (by simp) ?_
            refine (AllReadyH.cons rfl (fun K hK => ?_) AllReadyH.nil)
            go_simp
            have hwr : Below W3.heap.size W3 W3.drew := (Below.refl _ _).drew
            refine (insert_any d2 h2 (HSLy.out.below hwr) ((HDW2.out.below (HBW2.out.trans (hwr.mono HBW2.out.size))).mono fun k hk => Nat.lt_of_lt_of_le hk HBW2.out.size) HHW2.out (by have := HRL2.out; omega)).mono ?_
            rintro e W5 hi
            obtain ⟨S5, rfl, hsl5, hk5, hS5⟩ := hi
            have hkw : Keep S' W3 W5 := (below_keep (S := S') hwr).trans hk5 fun _ _ h => h
            have HK5 := Lib.hid hkw
            have hd3 : ∀ k, S3 k → ¬ S' k := fun k hk hs => by
              rcases HS3.out k hk with h | h
              · exact HDJ.out k h hs
              · have := HSL'.out.lt k hs; omega
            have HTW : Hid (Two w g g' (rows (fL L hs) (j + 1)) (rows (rot (fL L hs) t0 L.length) (j + 1)) W5) := Lib.hid (by
              refine ⟨S3, S5, HSL3.out.keep hkw hd3, by rw [HJ2.out]; exact hsl5, HBW2.out.trans (hkw.below HBW2.out.size HSS2.out), fun k hk => ?_, fun k hk => ?_, fun k hk hs => ?_⟩
              · exact (HS3.out k hk).elim (HSS.out k) fun h => Nat.le_trans HBW.out.size h
              · exact (hS5 k hk).elim (HSS2.out k) fun h => Nat.le_trans HBW2.out.size (Nat.le_trans hwr.size h)
              · rcases hS5 k hs with h | h
                · exact hd3 k hk h
                · have h1 := HSL3.out.lt k hk; have h2 := hwr.size; omega)
            clear hsl5 hk5 hS5 hkw hwr hd3
            go_wp2_with fail
            refine hK.out _ _ HK5 (fun hS => ?_)
            clear hK K
            try simp only [Act.put, List.getElem_toArray, List.getElem_cons_succ, List.getElem_cons_zero, List.setIfInBounds_toArray, List.set_cons_zero, List.set_cons_succ]
            refine wpAnyH_done (by kernel_rfl) ?_ _
            go_wp2_with fail
            go_roundw
            case rel => exact ⟨j + 1, by omega, by go_num, HTW⟩
            case measure => simp [intOf]; omega
          · obtain rfl : j = L.length := by omega
            obtain ⟨R, hR⟩ : ∃ R, R = rows (fL L hs) L.length := ⟨_, rfl⟩
            obtain ⟨R2, hR2⟩ : ∃ R2, R2 = rows (rot (fL L hs) t0 L.length) L.length := ⟨_, rfl⟩
            have ht0l : t0 < L.length := by rw [HT0.out]; exact Nat.mod_lt _ (by omega)
            have hks : R.map rk = R2.map rk := by
              obtain ⟨S, S', hsl, hsl', -⟩ := htw.out
              rw [hR, hR2]
              exact keys_same ht0l hsl.sorted hsl'.sorted
            have hRl : R.length ≤ 60 := by rw [hR]; exact Nat.le_trans (rows_len _ _) hn60
            rw [← hR, ← hR2] at htw
            obtain ⟨S, S', hsl, hsl', hbw, -⟩ := htw.out
            have HKS := Lib.hid hks
            have HLR := Lib.hid (show R2.length = R.length by have := congrArg List.length hks; simpa using this.symm)
            have HSL := Lib.hid hsl
            have HSLy := Lib.hid hsl'
            have HBW := Lib.hid hbw
            clear htw hsl hsl' hbw hR hR2 ht0l hks
            go_wp2_with fail
            refine (all_any HSL.out).mono ?_
            rintro e W4 ⟨Aa, ca, La, rfl, hta, hea, hb4⟩
            have HLA := Lib.hid (show La.length = R.length by have := congrArg List.length hta; simpa using this)
            have HTA := Lib.hid hta
            have HEA4 := Lib.hid (hea.mono (R' := (· < W4.heap.size)) fun k hk => hk.2)
            have HSX4 := Lib.hid (HSL.out.below hb4)
            have HSY4 := Lib.hid (HSLy.out.below hb4)
            have HB4 := Lib.hid (HBW.out.trans (hb4.mono HBW.out.size))
            have hsrt : Sorted D.k La := by
              have h1 : (La.map D.t).map T.k = (R.map (·.1)).map T.k := by rw [hta]
              have h2 : Sorted id (R.map rk) := List.pairwise_map.2 HSL.out.sorted
              rw [List.map_map, List.map_map] at h1
              have h3 : La.map D.k = R.map rk := h1
              rw [← h3] at h2
              exact List.pairwise_map.1 h2
            have HRIS := Lib.hid (rising_any Aa ca La W4 HEA4.out hsrt (by rw [HLA.out]; omega))
            have hca := hea.len
            have hma := hea.cap
            unfold maxLen at hma
            clear hta hea hb4 HSL HSLy HBW hsrt
            go_wp2_with fail
            refine HRIS.out.mono ?_
            rintro e W5 ⟨rfl, hb5⟩
            have HSX5 := Lib.hid (HSX4.out.below hb5)
            have HSY5 := Lib.hid (HSY4.out.below hb5)
            have HB5 := Lib.hid (HB4.out.trans (hb5.mono HB4.out.size))
            have HEA5 := Lib.hid (HEA4.out.next hb5)
            have HLX := Lib.hid (len_any HSX5.out)
            have HLY := Lib.hid (len_any HSY5.out)
            rw [HLR.out] at HLY
            clear hb5 HRIS
            go_wp2_with fail
            refine HLX.out.mono ?_
            rintro e w' ⟨rfl, rfl⟩
            go_wp2_with fail
            refine HLY.out.mono ?_
            rintro e w' ⟨rfl, rfl⟩
            go_wp2_with fail
            refine HLX.out.mono ?_
            rintro e w' ⟨rfl, rfl⟩
            have hla0 : ((La.length : Int) != (R.length : Int)) = false := by rw [HLA.out]; simp
            go_wp2_with fail
            refine (all_any HSY5.out).mono ?_
            rintro e W6 ⟨Ab, cb, Lb, rfl, htb, heb, hb6⟩
            have HLB := Lib.hid (show Lb.length = R.length by have := congrArg List.length htb; rw [← HLR.out]; simpa using this)
            have HTB := Lib.hid htb
            have HEb := Lib.hid (heb.mono (R' := (· < W6.heap.size)) fun k hk => hk.2)
            have HEa := Lib.hid (HEA5.out.next hb6)
            have HSX6 := Lib.hid (HSX5.out.below hb6)
            have HB6 := Lib.hid (HB5.out.trans (hb6.mono HB5.out.size))
            have hcb := heb.len
            have hmb := heb.cap
            unfold maxLen at hmb
            clear htb heb hb6 HLX HLY hla0
            go_wp2_with fail
            go_loopw [15] (fun i wr => ∃ j : Nat, j ≤ La.length ∧ i = .int .i64 j ∧ Hid (Below W6.heap.size W6 wr)) (fun i _ => 70 - (intOf i).toNat)
            case atStart => exact ⟨0, by omega, rfl, Lib.hid (Below.refl _ _)⟩
            case round =>
            obtain ⟨j, hj2, rfl, hb⟩ := hrel
            have hla60 : La.length ≤ 60 := by rw [HLA.out]; exact hRl
            by_cases hlt2 : j < La.length
            · have hjb : j < Lb.length := by rw [HLB.out, ← HLA.out]; exact hlt2
              obtain ⟨da, hda⟩ : ∃ d, La[j]? = some d := ⟨_, List.getElem?_eq_getElem hlt2⟩
              obtain ⟨db, hdb⟩ : ∃ d, Lb[j]? = some d := ⟨_, List.getElem?_eq_getElem hjb⟩
              have hc0 : cmpK da.k db.k = 0 := by
                have h1 : (La.map D.t).map T.k = (Lb.map D.t).map T.k := by rw [HTA.out, HTB.out, List.map_map, List.map_map]; exact HKS.out
                have h2 : ((La.map D.t).map T.k)[j]? = ((Lb.map D.t).map T.k)[j]? := by rw [h1]
                simp only [List.getElem?_map, hda, hdb, Option.map_some] at h2
                injection h2 with h2
                have h3 : da.k = db.k := h2
                rw [h3, cmpK_self]
              obtain ⟨ad1, p1, hA1, -, hp1, -⟩ := HEa.out.place hda
              subst hA1
              obtain ⟨ad2, p2, hA2, -, hp2, -⟩ := HEb.out.place hdb
              subst hA2
              have HC0 := Lib.hid hc0
              have HJB := Lib.hid hjb
              have HDA := Lib.hid hda
              have HDB := Lib.hid hdb
              have HP1 := Lib.hid hp1
              have HP2 := Lib.hid hp2
              have HOA := Lib.hid (HEa.out.ok da (List.mem_of_getElem? hda))
              have HOB := Lib.hid (HEb.out.ok db (List.mem_of_getElem? hdb))
              clear hc0 hjb hda hdb hp1 hp2 hlt hj
              go_wp2_with fail
              refine wp_region_held_drew (S := fun w' => Hid (Below wr.heap.size wr w')) (by kernel_rfl) (Lib.hid (Below.refl _ _).drew) (fun hS => ?_)
              refine wpAnyH_take (i := 0) (v := ?_) rfl (by kernel_rfl) (by kernel_rfl) (by kernel_rfl) (fun _ _ _ h => h) (Or.inl ⟨by rfl, ?_⟩) hS ?_
              rotate_left
              · intro w hw
                go_simp
                try with_reducible rfl
              try simp only [Act.put, List.getElem_toArray, List.getElem_cons_succ, List.getElem_cons_zero, List.setIfInBounds_toArray, List.set_cons_zero, List.set_cons_succ]
              refine wpAnyH_take (i := 1) (v := ?_) rfl (by kernel_rfl) (by kernel_rfl) (by kernel_rfl) (fun _ _ _ h => h) (Or.inl ⟨by rfl, ?_⟩) hS ?_
              rotate_left
              · intro w hw
                go_simp
                try with_reducible rfl
              try simp only [Act.put, List.getElem_toArray, List.getElem_cons_succ, List.getElem_cons_zero, List.setIfInBounds_toArray, List.set_cons_zero, List.set_cons_succ]
              refine wpAnyH_take (i := 2) (v := ?_) rfl (by kernel_rfl) (by kernel_rfl) (by kernel_rfl) (fun _ _ _ h => h) (Or.inl ⟨by rfl, ?_⟩) hS ?_
              rotate_left
              · intro w hw
                have hp1 := HP1.out
                go_simp
                try with_reducible rfl
              try simp only [Act.put, List.getElem_toArray, List.getElem_cons_succ, List.getElem_cons_zero, List.setIfInBounds_toArray, List.set_cons_zero, List.set_cons_succ]
              refine wpAnyH_take (i := 3) (v := ?_) rfl (by kernel_rfl) (by kernel_rfl) (by kernel_rfl) (fun _ _ _ h => h) (Or.inl ⟨by rfl, ?_⟩) hS ?_
              rotate_left
              · intro w hw
                go_simp
                try with_reducible rfl
              try simp only [Act.put, List.getElem_toArray, List.getElem_cons_succ, List.getElem_cons_zero, List.setIfInBounds_toArray, List.set_cons_zero, List.set_cons_succ]
              refine wpAnyH_take (i := 4) (v := ?_) rfl (by kernel_rfl) (by kernel_rfl) (by kernel_rfl) (fun _ _ _ h => h) (Or.inl ⟨by rfl, ?_⟩) hS ?_
              rotate_left
              · intro w hw
                obtain ⟨ad', pi, hA, -, hpi, q0, q1, q2, q3⟩ := (HEa.out.below (hb.out.trans (hw.out.mono hb.out.size))).place HDA.out
                injection hA with hA
                subst hA
                obtain rfl : pi = p1 := hpi.symm.trans HP1.out
                go_simp
                try with_reducible rfl
              try simp only [Act.put, List.getElem_toArray, List.getElem_cons_succ, List.getElem_cons_zero, List.setIfInBounds_toArray, List.set_cons_zero, List.set_cons_succ]
              refine wpAnyH_take (i := 5) (v := ?_) rfl (by kernel_rfl) (by kernel_rfl) (by kernel_rfl) (fun _ _ _ h => h) (Or.inl ⟨by rfl, ?_⟩) hS ?_
              rotate_left
              · intro w hw
                go_simp
                try with_reducible rfl
              try simp only [Act.put, List.getElem_toArray, List.getElem_cons_succ, List.getElem_cons_zero, List.setIfInBounds_toArray, List.set_cons_zero, List.set_cons_succ]
              refine wpAnyH_take (i := 6) (v := ?_) rfl (by kernel_rfl) (by kernel_rfl) (by kernel_rfl) (fun _ _ _ h => h) (Or.inl ⟨by rfl, ?_⟩) hS ?_
              rotate_left
              · intro w hw
                go_simp
                try with_reducible rfl
              try simp only [Act.put, List.getElem_toArray, List.getElem_cons_succ, List.getElem_cons_zero, List.setIfInBounds_toArray, List.set_cons_zero, List.set_cons_succ]
              refine wpAnyH_take (i := 7) (v := ?_) rfl (by kernel_rfl) (by kernel_rfl) (by kernel_rfl) (fun _ _ _ h => h) (Or.inl ⟨by rfl, ?_⟩) hS ?_
              rotate_left
              · intro w hw
                have hp2 := HP2.out
                have hjb := HJB.out
                go_simp
                try with_reducible rfl
              try simp only [Act.put, List.getElem_toArray, List.getElem_cons_succ, List.getElem_cons_zero, List.setIfInBounds_toArray, List.set_cons_zero, List.set_cons_succ]
              refine wpAnyH_take (i := 8) (v := ?_) rfl (by kernel_rfl) (by kernel_rfl) (by kernel_rfl) (fun _ _ _ h => h) (Or.inl ⟨by rfl, ?_⟩) hS ?_
              rotate_left
              · intro w hw
                go_simp
                try with_reducible rfl
              try simp only [Act.put, List.getElem_toArray, List.getElem_cons_succ, List.getElem_cons_zero, List.setIfInBounds_toArray, List.set_cons_zero, List.set_cons_succ]
              refine wpAnyH_take (i := 9) (v := ?_) rfl (by kernel_rfl) (by kernel_rfl) (by kernel_rfl) (fun _ _ _ h => h) (Or.inl ⟨by rfl, ?_⟩) hS ?_
              rotate_left
              · intro w hw
                obtain ⟨ad', pi, hA, -, hpi, q0, q1, q2, q3⟩ := (HEb.out.below (hb.out.trans (hw.out.mono hb.out.size))).place HDB.out
                injection hA with hA
                subst hA
                obtain rfl : pi = p2 := hpi.symm.trans HP2.out
                go_simp
                try with_reducible rfl
              try simp only [Act.put, List.getElem_toArray, List.getElem_cons_succ, List.getElem_cons_zero, List.setIfInBounds_toArray, List.set_cons_zero, List.set_cons_succ]
              refine wpAnyH_ready (rs := [10]) (by kernel_rfl) (by simp) ?_
              refine AllReadyH.cons rfl (fun K hK => ?_) AllReadyH.nil
              go_simp
              have hb7 := hS.out
              have hb8 := hb.out.trans (hb7.mono hb.out.size)
              refine (rcmp_any da.ka db.ka da.kc db.kc da.k db.k _ ((HOA.out.next hb8).at' fun k hk => hk) ((HOB.out.next hb8).at' fun k hk => hk)).mono ?_
              rintro e W8 ⟨rfl, hb9⟩
              rw [HC0.out]
              have HB8 := Lib.hid (hb7.trans (hb9.mono hb7.size))
              clear hb7 hb8 hb9
              go_wp2_with fail
              refine hK.out _ _ HB8 (fun _ => ?_)
              clear hK K hS
              refine wpAnyH_other (S' := fun w' => Hid (Below W8.heap.size W8 w')) (fun w hw => Lib.hid (HB8.out.trans (hw.out.mono HB8.out.size))) _ _ _ _ ?_
              have hS : Hid (Below W8.heap.size W8 W8) := Lib.hid (Below.refl _ _)
              try simp only [Act.put, List.getElem_toArray, List.getElem_cons_succ, List.getElem_cons_zero, List.setIfInBounds_toArray, List.set_cons_zero, List.set_cons_succ]
              refine wpAnyH_take (i := 11) (v := ?_) rfl (by kernel_rfl) (by kernel_rfl) (by kernel_rfl) (fun _ _ _ h => h) (Or.inl ⟨by rfl, ?_⟩) hS ?_
              rotate_left
              · intro w hw
                go_simp
                try with_reducible rfl
              try simp only [Act.put, List.getElem_toArray, List.getElem_cons_succ, List.getElem_cons_zero, List.setIfInBounds_toArray, List.set_cons_zero, List.set_cons_succ]
              refine wpAnyH_done (by kernel_rfl) ?_ _
              have HREL := Lib.hid (hb.out.trans (HB8.out.mono hb.out.size))
              go_wp2_with fail
              go_roundw
              case rel => exact ⟨j + 1, by omega, by go_num, HREL⟩
              case measure => simp [intOf]; omega
            · obtain rfl : j = La.length := by omega
              have HB6b := Lib.hid (HB6.out.trans (hb.out.mono HB6.out.size))
              have HSXb := Lib.hid (HSX6.out.below hb.out)
              obtain ⟨Wz, hWz⟩ : ∃ Wz, Wz = wr := ⟨_, rfl⟩
              rw [← hWz] at HB6b HSXb ⊢
              clear hWz hlt hj
              go_wp2_with fail
              go_loopw [16, 17, 18] (fun i x1 x2 wr => ∃ j : Nat, j ≤ 12 ∧ i = .int .i64 j ∧ Hid (Below Wz.heap.size Wz wr)) (fun i _ _ _ => 70 - (intOf i).toNat)
              case atStart => exact ⟨0, by omega, rfl, Lib.hid (Below.refl _ _)⟩
              case round =>
              obtain ⟨i, hi, rfl, hbz⟩ := hrel
              by_cases hi12 : i < 12
              · have hwf : (Lit.int .i64 ((i : Int) + 1)).wf = true ∧ (Lit.int .i64 (i : Int)).wf = true := by
                  have : i = 0 ∨ i = 1 ∨ i = 2 ∨ i = 3 ∨ i = 4 ∨ i = 5 ∨ i = 6 ∨ i = 7 ∨ i = 8 ∨ i = 9 ∨ i = 10 ∨ i = 11 := by omega
                  rcases this with rfl | rfl | rfl | rfl | rfl | rfl | rfl | rfl | rfl | rfl | rfl | rfl <;> decide
                have e1 : levI R ((i : Int) + 1) = levR R (i + 1) := by unfold levI; rw [if_neg (by omega), show ((i : Int) + 1).toNat = i + 1 by omega]
                have e2 : levI R (i : Int) = levR R i := by unfold levI; rw [if_neg (by omega), Int.toNat_natCast]
                have HU := Lib.hid (level_any ((i : Int) + 1) (HSXb.out.below hbz.out) hwf.1)
                have HWF := Lib.hid hwf
                have HE1 := Lib.hid e1
                have HE2 := Lib.hid e2
                clear hwf e1 e2
                go_wp2_with fail
                refine HU.out.mono ?_
                rintro e Wu ⟨Au, cu, Lu, rfl, htu, heu, hbu⟩
                have hbzu := hbz.out.trans (hbu.mono hbz.out.size)
                have HD := Lib.hid (level_any (i : Int) (HSXb.out.below hbzu) HWF.out.2)
                have HTU := Lib.hid (htu.trans HE1.out)
                have HEU := Lib.hid (heu.mono (R' := (· < Wu.heap.size)) fun k hk => hk.2)
                have HBU := Lib.hid hbzu
                clear htu heu hbu hbzu HU
                go_wp2_with fail
                refine HD.out.mono ?_
                rintro e Wd ⟨Ad, cd, Ld, rfl, htd, hed, hbd⟩
                have htd2 := htd.trans HE2.out
                have hsub : (Lu.map D.t).Sublist (Ld.map D.t) := by rw [HTU.out, htd2]; exact lev_sub R i
                have hle : Lu.length ≤ Ld.length := by have := hsub.length_le; simpa using this
                have hld : Ld.length ≤ 1000 := by
                  have h1 := congrArg List.length htd2
                  rw [List.length_map] at h1
                  have h2 : (levR R i).length ≤ R.length := by unfold levR; rw [List.length_map]; exact List.length_filter_le _ _
                  omega
                have HWI := Lib.hid (within_any Au Ad cu cd Lu Ld Wd (HEU.out.next hbd) (hed.mono fun k hk => hk.2) hsub hld)
                have HBD := Lib.hid (HBU.out.trans (hbd.mono HBU.out.size))
                have hnl : ¬ Ld.length < Lu.length := by omega
                clear htd hed hbd htd2 hsub hle hld HD
                go_wp2_with fail
                refine HWI.out.mono ?_
                rintro e Wf ⟨rfl, hbf⟩
                have HREL := Lib.hid (HBD.out.trans (hbf.mono HBD.out.size))
                clear hbf HWI
                go_wp2_with fail
                go_roundw
                case rel => exact ⟨i + 1, by omega, by go_num, HREL⟩
                case measure => simp [intOf]; omega
              · go_wp2_with fail
                go_ret
                exact ⟨rfl, HB6b.out.trans (hbz.out.mono HB6b.out.size)⟩
  · go_wp2_with fail
    go_ret
    exact ⟨rfl, HB1.out⟩

set_option maxRecDepth 100000 in
theorem lifted (os : Os) (started : os.Started) (H : Type) (enc : TypeId × Value → H) :
    ReturnsInHanded {} Try.checked os 4 .any (Rows.skipSortsSpec.pre6 enc Try.prog Try.f4 Rows.skipSortsRow.domain false) (Rows.skipSortsSpec.post enc Try.prog Try.f4 false true false false) := by
  refine lift_true (C := Try.checked) own started (by kernel_rfl) Try.func4
    (ChangeSpec.witness6 (enc := enc) (C := Try.checked) false ⟨#[], #[.slice none 0 0, .slice none 0 0, .int .i64 0], []⟩ 8 (by kernel_rfl) (by kernel_rfl) (by kernel_rfl) (by kernel_rfl))
    (by kernel_rfl) (by kernel_rfl) (by kernel_rfl) Try.underlying4 rfl ?_ ?_
  · intro ds hds
    match ds, hds with
    | [d1, d2, d3], _ => exact ⟨rfl, rfl, rfl⟩
  · intro W base args ds p hval0 hA0 hlt _
    have hval : ∀ (j : Nat) t v, Try.f4.params[j]? = some t → args[j]? = some v → Value.okWide Try.prog W .any base t v := hval0
    have hA : DataW.TrodAll enc Try.prog W 0 (fun _ => true) true Try.f4.params.toList args.toList ds p := hA0
    rw [Try.params4] at hA hval
    obtain ⟨v0, vs0, d0, ds0, p0, q0, hargs, rfl, rfl, h0, r0⟩ := trodAll_cons hA
    obtain ⟨v1, vs1, d1, ds1, p1, q1, rfl, rfl, rfl, h1, r1⟩ := trodAll_cons r0
    obtain ⟨v2, vs2, d2, ds2, p2, q2, rfl, rfl, rfl, h2, r2⟩ := trodAll_cons r1
    obtain ⟨rfl, rfl, rfl⟩ := trodAll_nil r2
    obtain rfl : args = #[v0, v1, v2] := by cases args; simp_all
    obtain ⟨A0, c0, L0, rfl, hN0⟩ := Sk.open_ents (hval 0 _ v0 rfl rfl) h0 (fun x hx => hlt x (by simp [hx]))
    obtain ⟨A1, c1, zs1, rfl, hc1, hm1, hl1, hw1⟩ := open_nums Try.underlying23 Try.underlying3 (by kernel_rfl) (hval 1 _ v1 rfl rfl) h1 (fun x hx => hlt x (by simp [hx]))
    obtain ⟨a2, rfl, rfl, rfl, w2⟩ := open_int Try.underlying3 (hval 2 _ v2 rfl rfl) h2
    have b2 := i64_of w2
    exact walk A0 A1 c0 c1 L0 zs1 a2 W hN0 hl1 hc1 hm1 hw1 b2

theorem over : Rows.skipSortsRow.holds Try.pinned (OpenSpec.ofChange Rows.skipSortsSpec) :=
  OpenClaim.holds_of_wide 4 Try.f4 rfl rfl rfl rfl rfl rfl rfl ⟨rfl, rfl, rfl, rfl, rfl⟩ rfl rfl rfl rfl rfl (by kernel_rfl) Try.func4 (by kernel_rfl)
    (of_decide_eq_true (by kernel_rfl)) (by unfold Func.isWrapper; first | (rw [if_pos (by decide +kernel)]; kernel_rfl) | (rw [if_neg (by decide +kernel)]; exact ⟨rfl, rfl⟩))
    (fun os started H enc _ => lifted os started H enc)

theorem proved : Rows.SkipSortsSaid :=
  over
#print axioms proved
end Go.Proofs.Ytnhpocfjmmnnmaa.skipSorts
