/- Proved: for any entries and heights, SkipSeeks of butterylaw9 answers true (Seek finds each entry, and Before finds the entry before it), and its arguments read as before. Conditions: none beyond what the given row states. -/
import Derived.Test.YtnhpocfjmmnnmaaSlaw9
import Derived.Deep.RegionHeld3
import Derived.Deep.QuietTactic
import Derived.BigQuiet
namespace Go.Proofs.Ytnhpocfjmmnnmaa.skipSeeks
set_option linter.unusedVariables false
set_option linter.unusedSimpArgs false
open Go.ChangeShapes Go.WideShapes Go.ChangeAt Go.RowKit Lift Sk Ik

theorem own : ownKnob Try.prog.godebug = none := by kernel_rfl

/-- What the loop puts in. -/
def fL (L : List D) (hs : List Int) (i : Nat) : T × Int := ((L[i]?.map D.t).getD ⟨⟨[], 0, 0⟩, []⟩, hs[i]?.getD 0)
theorem fL_at {L : List D} {hs : List Int} {i : Nat} {d : D} {h : Int} (h1 : L[i]? = some d) (h2 : hs[i]? = some h) : fL L hs i = (d.t, h) := by simp [fL, h1, h2]
set_option maxRecDepth 100000 in
set_option maxHeartbeats 8000000 in
theorem walk (A1 A2 : Option Addr) (c1 c2 : Nat) (L : List D) (hs : List Int) (w : World) (h1 : Ents w (· < w.heap.size) A1 c1 L) (h2 : Lies w w.heap.size A2 (hs.map (Value.int .i64))) (hc2 : hs.length ≤ c2) (hm2 : c2 ≤ maxLen) (hw : ∀ x, x ∈ hs → (Lit.int .i64 x).wf = true) :
    Calls Try.prog 6 #[.slice A1 L.length c1, .slice A2 hs.length c2] w (Sk.Yes w) := by
  have H1 := Lib.hid h1
  have H2 := Lib.hid h2
  have HW := Lib.hid hw
  have hc1 := h1.len
  have hm1 := h1.cap
  unfold maxLen at hm1 hm2
  clear h1 h2 hw
  go_enter Try.func6, Try.ntmps6
  go_wp2_with fail
  refine (alive_any _).mono ?_
  rintro e W1 ⟨rfl, hb1⟩
  have HB1 := Lib.hid hb1
  clear hb1
  go_wp2_with fail
  refine (big_any A1 c1 _ L W1 (H1.out.below HB1.out)).mono ?_
  rintro e W2 ⟨rfl, rfl⟩
  cases hg : bigL L
  · by_cases hlen : hs.length < L.length
    · go_wp2_with fail
      go_ret
      exact ⟨rfl, HB1.out⟩
    · obtain ⟨hn60, hsm⟩ := big_no hg
      clear hg hsm
      go_wp2_with fail
      refine (new_any W1).mono ?_
      rintro e W2 ⟨rfl, hs2, hb2⟩
      obtain ⟨g, hgd⟩ : ∃ g, g = W1.heap.size := ⟨_, rfl⟩
      rw [← hgd] at hs2 ⊢
      have HOW : Hid (Own w g (rows (fL L hs) 0) W2) := Lib.hid ⟨_, hs2, HB1.out.trans (hb2.mono HB1.out.size), fun k hk => by rw [hk, hgd]; exact HB1.out.size⟩
      clear hs2 hb2 hgd
      go_wp2_with fail
      go_loopw [8] (fun i wr => ∃ j : Nat, j ≤ L.length ∧ i = .int .i64 j ∧ Hid (Own w g (rows (fL L hs) j) wr)) (fun i _ => 70 - (intOf i).toNat)
      case atStart => exact ⟨0, by omega, rfl, HOW⟩
      case round =>
        obtain ⟨j, hj, rfl, how⟩ := hrel
        clear HOW
        by_cases hlt : j < L.length
        · obtain ⟨S, hsl, hbw, hss⟩ := how.out
          obtain ⟨d, hd⟩ : ∃ d, L[j]? = some d := ⟨_, List.getElem?_eq_getElem hlt⟩
          obtain ⟨h, hh⟩ : ∃ h, hs[j]? = some h := ⟨_, List.getElem?_eq_getElem (by omega)⟩
          have HSL := Lib.hid hsl
          have HBW := Lib.hid hbw
          have HSS := Lib.hid hss
          have HJD := Lib.hid hd
          have HJH := Lib.hid hh
          have HJ1 := Lib.hid (show rows (fL L hs) (j + 1) = insT (rows (fL L hs) j) d.t (hgt h) by show insT _ (fL L hs j).1 (hgt (fL L hs j).2) = _; rw [fL_at hd hh])
          have HRL := Lib.hid (rows_len (fL L hs) j)
          have HDW := Lib.hid (H1.out.ok d (List.mem_of_getElem? hd))
          have HHW := Lib.hid (HW.out h (List.mem_of_getElem? hh))
          obtain ⟨ad, p, hA, hpb, hp, -⟩ := H1.out.place hd
          subst hA
          obtain ⟨ad2, hA2, -, -⟩ := H2.out.place (by rw [List.length_map]; omega)
          subst hA2
          clear how hsl hbw hss hd hh hpb
          go_wp2_with fail
          refine wp_region_held_drew (S := fun w' => Hid (Keep S wr w')) (by kernel_rfl) (Lib.hid (Keep.refl _ _).drew) (fun hS => ?_)
          refine wpAnyH_take (i := 0) (v := ?_) rfl (by kernel_rfl) (by kernel_rfl) (by kernel_rfl) (fun _ _ _ h => h) (Or.inl ⟨by rfl, ?_⟩) hS ?_
          rotate_left
          · intro w hw
            go_simp
            try with_reducible rfl
          try simp only [Act.put, List.getElem_toArray, List.getElem_cons_succ, List.getElem_cons_zero, List.setIfInBounds_toArray, List.set_cons_zero, List.set_cons_succ]
          refine wpAnyH_take (i := 1) (v := ?_) rfl (by kernel_rfl) (by kernel_rfl) (by kernel_rfl) (fun _ _ _ h => h) (Or.inl ⟨by rfl, ?_⟩) hS ?_
          rotate_left
          · intro w hw
            go_simp
            try with_reducible rfl
          try simp only [Act.put, List.getElem_toArray, List.getElem_cons_succ, List.getElem_cons_zero, List.setIfInBounds_toArray, List.set_cons_zero, List.set_cons_succ]
          refine wpAnyH_take (i := 2) (v := ?_) rfl (by kernel_rfl) (by kernel_rfl) (by kernel_rfl) (fun _ _ _ h => h) (Or.inl ⟨by rfl, ?_⟩) hS ?_
          rotate_left
          · intro w hw
            go_simp
            try with_reducible rfl
          try simp only [Act.put, List.getElem_toArray, List.getElem_cons_succ, List.getElem_cons_zero, List.setIfInBounds_toArray, List.set_cons_zero, List.set_cons_succ]
          refine wpAnyH_take (i := 3) (v := ?_) rfl (by kernel_rfl) (by kernel_rfl) (by kernel_rfl) (fun _ _ _ h => h) (Or.inl ⟨by rfl, ?_⟩) hS ?_
          rotate_left
          · intro w hw
            go_simp
            try with_reducible rfl
          try simp only [Act.put, List.getElem_toArray, List.getElem_cons_succ, List.getElem_cons_zero, List.setIfInBounds_toArray, List.set_cons_zero, List.set_cons_succ]
          refine wpAnyH_take (i := 4) (v := ?_) rfl (by kernel_rfl) (by kernel_rfl) (by kernel_rfl) (fun _ _ _ h => h) (Or.inl ⟨by rfl, ?_⟩) hS ?_
          rotate_left
          · intro w hw
            have hbw := HBW.out.trans (hw.out.below HBW.out.size HSS.out)
            obtain ⟨ad', p', hA, -, hp', p0, p1, p2, p3⟩ := (H1.out.below hbw).place HJD.out
            injection hA with hA
            subst hA
            obtain rfl : p' = p := hp'.symm.trans hp
            have hld := D.load p0 p1 p2 p3
            clear hbw
            go_simp
            try with_reducible rfl
          try simp only [Act.put, List.getElem_toArray, List.getElem_cons_succ, List.getElem_cons_zero, List.setIfInBounds_toArray, List.set_cons_zero, List.set_cons_succ]
          refine wpAnyH_take (i := 5) (v := ?_) rfl (by kernel_rfl) (by kernel_rfl) (by kernel_rfl) (fun _ _ _ h => h) (Or.inl ⟨by rfl, ?_⟩) hS ?_
          rotate_left
          · intro w hw
            go_simp
            try with_reducible rfl
          try simp only [Act.put, List.getElem_toArray, List.getElem_cons_succ, List.getElem_cons_zero, List.setIfInBounds_toArray, List.set_cons_zero, List.set_cons_succ]
          refine wpAnyH_take (i := 6) (v := ?_) rfl (by kernel_rfl) (by kernel_rfl) (by kernel_rfl) (fun _ _ _ h => h) (Or.inl ⟨by rfl, ?_⟩) hS ?_
          rotate_left
          · intro w hw
            go_simp
            try with_reducible rfl
          try simp only [Act.put, List.getElem_toArray, List.getElem_cons_succ, List.getElem_cons_zero, List.setIfInBounds_toArray, List.set_cons_zero, List.set_cons_succ]
          refine wpAnyH_take (i := 7) (v := ?_) rfl (by kernel_rfl) (by kernel_rfl) (by kernel_rfl) (fun _ _ _ h => h) (Or.inl ⟨by rfl, ?_⟩) hS ?_
          rotate_left
          · intro w hw
            have hbw := HBW.out.trans (hw.out.below HBW.out.size HSS.out)
            obtain ⟨ad', hA, -, hcell⟩ := (H2.out.below hbw).place (by have := (List.getElem?_eq_some_iff.1 HJH.out).1; rw [List.length_map]; omega)
            injection hA with hA
            subst hA
            have p0 := hcell j _ (by rw [List.getElem?_map, HJH.out]; rfl)
            clear hcell hbw
            have hjl := (List.getElem?_eq_some_iff.1 HJH.out).1
            go_simp
            try with_reducible rfl
          try simp only [Act.put, List.getElem_toArray, List.getElem_cons_succ, List.getElem_cons_zero, List.setIfInBounds_toArray, List.set_cons_zero, List.set_cons_succ]
          refine wpAnyH_take (i := 8) (v := ?_) rfl (by kernel_rfl) (by kernel_rfl) (by kernel_rfl) (fun _ _ _ h => h) (Or.inl ⟨by rfl, ?_⟩) hS ?_
          rotate_left
          · intro w hw
            have hbw := HBW.out.trans (hw.out.below HBW.out.size HSS.out)
            obtain ⟨ad', hA, -, hcell⟩ := (H2.out.below hbw).place (by have := (List.getElem?_eq_some_iff.1 HJH.out).1; rw [List.length_map]; omega)
            injection hA with hA
            subst hA
            have p0 := hcell j _ (by rw [List.getElem?_map, HJH.out]; rfl)
            clear hcell hbw
            have hjl := (List.getElem?_eq_some_iff.1 HJH.out).1
            go_simp
            try with_reducible rfl
          try simp only [Act.put, List.getElem_toArray, List.getElem_cons_succ, List.getElem_cons_zero, List.setIfInBounds_toArray, List.set_cons_zero, List.set_cons_succ]
          refine wpAnyH_ready (rs := [9]) (by kernel_rfl) (by simp) ?_
          refine (AllReadyH.cons rfl (fun K hK => ?_) AllReadyH.nil)
          go_simp
          have hwr : Below wr.heap.size wr wr.drew := (Below.refl _ _).drew
          refine (insert_any d h (HSL.out.below hwr) ((HDW.out.below (HBW.out.trans (hwr.mono HBW.out.size))).mono fun k hk => Nat.lt_of_lt_of_le hk HBW.out.size) HHW.out (by have := HRL.out; omega)).mono ?_
          rintro e W3 hi
          have hk3 : Keep S wr W3 := by
            obtain ⟨_, _, _, h3, _⟩ := hi
            exact (below_keep (S := S) hwr).trans h3 fun _ _ h => h
          obtain ⟨rfl, how⟩ := own_insd (w0 := w) (HBW.out.trans (hwr.mono HBW.out.size)) HSS.out hi
          rw [← HJ1.out] at how
          have HOW := Lib.hid how
          have HK3 := Lib.hid hk3
          clear hi hk3 how hwr
          go_wp2_with fail
          refine hK.out _ _ HK3 (fun hS => ?_)
          clear hK K
          try simp only [Act.put, List.getElem_toArray, List.getElem_cons_succ, List.getElem_cons_zero, List.setIfInBounds_toArray, List.set_cons_zero, List.set_cons_succ]
          refine wpAnyH_done (by kernel_rfl) ?_ _
          go_wp2_with fail
          go_roundw
          case rel => exact ⟨j + 1, by omega, by go_num, HOW⟩
          case measure => simp [intOf]; omega
        · obtain rfl : j = L.length := by omega
          obtain ⟨R, hR⟩ : ∃ R, R = rows (fL L hs) L.length := ⟨_, rfl⟩
          rw [← hR] at how
          obtain ⟨S, hsl, hbw, hss⟩ := how.out
          have hRl : R.length ≤ 60 := by rw [hR]; exact Nat.le_trans (rows_len _ _) hn60
          have HSL := Lib.hid hsl
          have HBW := Lib.hid hbw
          clear how hsl hbw hss hR
          go_wp2_with fail
          refine (all_any HSL.out).mono ?_
          rintro e W4 ⟨A9, c9, L9, rfl, ht9, he9, hb4⟩
          have hl9 : L9.length = R.length := by have := congrArg List.length ht9; simpa using this
          have HT9 := Lib.hid ht9
          have HE9 := Lib.hid (he9.mono (R' := (· < W4.heap.size)) fun k hk => hk.2)
          have HSL4 := Lib.hid (HSL.out.below hb4)
          have HB4 := Lib.hid (HBW.out.trans (hb4.mono HBW.out.size))
          have hc9 := he9.len
          have hm9 := he9.cap
          unfold maxLen at hm9
          clear ht9 he9 hb4 HSL HBW
          go_wp2_with fail
          go_loopw [10, 11, 12, 13, 14] (fun i x1 x2 x3 x4 wr => ∃ j : Nat, j ≤ L9.length ∧ i = .int .i64 j ∧ Hid (Below W4.heap.size W4 wr)) (fun i x1 x2 x3 x4 _ => 70 - (intOf i).toNat)
          case atStart => exact ⟨0, by omega, rfl, Lib.hid (Below.refl _ _)⟩
          case round =>
            obtain ⟨j, hj2, rfl, hb⟩ := hrel
            by_cases hlt2 : j < L9.length
            · obtain ⟨d9, hd9⟩ : ∃ d9, L9[j]? = some d9 := ⟨_, List.getElem?_eq_getElem hlt2⟩
              obtain ⟨r, hr⟩ : ∃ r, R[j]? = some r := ⟨_, List.getElem?_eq_getElem (by omega)⟩
              have hdt : d9.t = r.1 := by
                have h1 : (L9.map D.t)[j]? = (R.map (·.1))[j]? := by rw [HT9.out]
                rw [List.getElem?_map, List.getElem?_map, hd9, hr] at h1
                simpa using h1
              have hdk : d9.k = r.1.k := t_k hdt
              have hso := HSL4.out.sorted
              have hokd := HE9.out.ok d9 (List.mem_of_getElem? hd9)
              obtain ⟨ad, p, hA, hpb, hp, p0, p1, p2, p3⟩ := (HE9.out.below hb.out).place hd9
              subst hA
              have HSK := Lib.hid (seek_any (HSL4.out.below hb.out) ((hokd.next hb.out).at' fun k hk => hk))
              have hsk : seekR R d9.k = some d9.t := by rw [hdk, hdt]; exact seek_at hso hr
              rw [hsk] at HSK
              have HBF : Hid ((j = 0 ∧ befR R d9.k = none) ∨ ∃ (i : Nat) (e9 : D), j = i + 1 ∧ L9[i]? = some e9 ∧ befR R d9.k = some e9.t) := Lib.hid (by
                rcases j with _ | i
                · exact .inl ⟨rfl, by rw [hdk]; exact bef_zero hso hr⟩
                · obtain ⟨q, hq⟩ : ∃ q, R[i]? = some q := ⟨_, List.getElem?_eq_getElem (by omega)⟩
                  obtain ⟨e9, he9⟩ : ∃ e9, L9[i]? = some e9 := ⟨_, List.getElem?_eq_getElem (by omega)⟩
                  refine .inr ⟨i, e9, rfl, he9, ?_⟩
                  rw [hdk, bef_succ hso hr hq]
                  have h1 : (L9.map D.t)[i]? = (R.map (·.1))[i]? := by rw [HT9.out]
                  rw [List.getElem?_map, List.getElem?_map, he9, hq] at h1
                  simpa using h1.symm)
              have HOK := Lib.hid hokd
              have HDJ := Lib.hid hd9
              have HP := Lib.hid hp
              clear hr hdt hdk hso hokd hd9 hsk hpb hlt hj
              go_wp2_with fail
              refine HSK.out.mono ?_
              rintro e W5 ⟨d5, rfl, ht5, hd5, hb5⟩
              have hb45 := hb.out.trans (hb5.mono hb.out.size)
              have hbx := below_box W5 d5
              have hx5 : Bx (W5.alloc (ebox d5)) W5.heap.size d5 := Bx.new W5 d5
              have hb4x := hb45.trans (hbx.mono hb45.size)
              obtain ⟨ad', p', hA, -, hp', q0, q1, q2, q3⟩ := (HE9.out.below hb4x).place HDJ.out
              injection hA with hA
              subst hA
              obtain rfl : p' = p := hp'.symm.trans HP.out
              have HB5 := Lib.hid (before_any (HSL4.out.below hb4x) ((HOK.out.next hb4x).at' fun k hk => hk))
              have HX5 := Lib.hid hx5
              have HT5 := Lib.hid ht5
              have HD5 := Lib.hid ((hd5.mono (R' := (· < W5.heap.size)) fun k hk => hk.2.1).next hbx)
              have HB4X := Lib.hid hb4x
              clear hb5 hb45 hbx hx5 hb4x hd5 ht5 HSK p0 p1 p2 p3 hp'
              go_wp2_with fail
              refine HB5.out.mono ?_
              rintro e W6 ⟨d6, rfl, ht6, hd6, hb6⟩
              have hb46 := HB4X.out.trans (hb6.mono HB4X.out.size)
              have hbx := below_box W6 d6
              have hx6 : Bx (W6.alloc (ebox d6)) W6.heap.size d6 := Bx.new W6 d6
              have hb47 := hb46.trans (hbx.mono hb46.size)
              have hx57 : Bx (W6.alloc (ebox d6)) W5.heap.size d5 := (HX5.out.below hb6 HX5.out.lt).alloc _
              have HX5P := Lib.hid hx57
              have HX6 := Lib.hid hx6
              have HT6 := Lib.hid ht6
              have HD57 := Lib.hid ((HD5.out.next hb6).next hbx)
              have HD67 := Lib.hid ((hd6.mono (R' := (· < W6.heap.size)) fun k hk => hk.2.1).next hbx)
              have HB47 := Lib.hid hb47
              clear hb6 hb46 hbx hx6 hb47 hx57 hd6 ht6 HB5 HX5 HD5 q0 q1 q2 q3
              go_wp2_with fail
              obtain ⟨W7, hW7⟩ : ∃ W7, W7 = W6.alloc (ebox d6) := ⟨_, rfl⟩
              change Code.wp _ _ _ _ (W6.alloc (ebox d6))
              rw [← hW7] at HX5P HX6 HD57 HD67 HB47 ⊢
              clear hW7
              have HE59 : Hid (d5.t = d9.t) := Lib.hid HT5.out
              rcases HBF.out with ⟨hj0, hbf⟩ | ⟨i, e9, hji, hei, hbf⟩
              · rw [hbf]
                clear HBF hbf HT6
                subst hj0
                refine wp_region_held_drew (S := fun w' => Hid (Below W7.heap.size W7 w')) (by kernel_rfl) (Lib.hid (Below.refl _ _).drew) (fun hS => ?_)
                refine wpAnyH_take (i := 0) (v := ?_) rfl (by kernel_rfl) (by kernel_rfl) (by kernel_rfl) (fun _ _ _ h => h) (Or.inl ⟨by rfl, ?_⟩) hS ?_
                rotate_left
                · intro w hw
                  go_simp
                  try with_reducible rfl
                try simp only [Act.put, List.getElem_toArray, List.getElem_cons_succ, List.getElem_cons_zero, List.setIfInBounds_toArray, List.set_cons_zero, List.set_cons_succ]
                refine wpAnyH_take (i := 1) (v := ?_) rfl (by kernel_rfl) (by kernel_rfl) (by kernel_rfl) (fun _ _ _ h => h) (Or.inl ⟨by rfl, ?_⟩) hS ?_
                rotate_left
                · intro w hw
                  go_simp
                  try with_reducible rfl
                try simp only [Act.put, List.getElem_toArray, List.getElem_cons_succ, List.getElem_cons_zero, List.setIfInBounds_toArray, List.set_cons_zero, List.set_cons_succ]
                refine wpAnyH_take (i := 2) (v := ?_) rfl (by kernel_rfl) (by kernel_rfl) (by kernel_rfl) (fun _ _ _ h => h) (Or.inl ⟨by rfl, ?_⟩) hS ?_
                rotate_left
                · intro w hw
                  go_simp
                  try with_reducible rfl
                try simp only [Act.put, List.getElem_toArray, List.getElem_cons_succ, List.getElem_cons_zero, List.setIfInBounds_toArray, List.set_cons_zero, List.set_cons_succ]
                refine wpAnyH_take (i := 3) (v := ?_) rfl (by kernel_rfl) (by kernel_rfl) (by kernel_rfl) (fun _ _ _ h => h) (Or.inl ⟨by rfl, ?_⟩) hS ?_
                rotate_left
                · intro w hw
                  have hbx := HX5P.out.below hw.out HX5P.out.lt
                  obtain ⟨y0, y1, y2, y3, -, -, -, -⟩ := (show Bx w _ d5 from hbx).facts
                  clear hbx
                  go_simp
                  try with_reducible rfl
                try simp only [Act.put, List.getElem_toArray, List.getElem_cons_succ, List.getElem_cons_zero, List.setIfInBounds_toArray, List.set_cons_zero, List.set_cons_succ]
                refine wpAnyH_take (i := 4) (v := ?_) rfl (by kernel_rfl) (by kernel_rfl) (by kernel_rfl) (fun _ _ _ h => h) (Or.inl ⟨by rfl, ?_⟩) hS ?_
                rotate_left
                · intro w hw
                  go_simp
                  try with_reducible rfl
                try simp only [Act.put, List.getElem_toArray, List.getElem_cons_succ, List.getElem_cons_zero, List.setIfInBounds_toArray, List.set_cons_zero, List.set_cons_succ]
                refine wpAnyH_take (i := 5) (v := ?_) rfl (by kernel_rfl) (by kernel_rfl) (by kernel_rfl) (fun _ _ _ h => h) (Or.inl ⟨by rfl, ?_⟩) hS ?_
                rotate_left
                · intro w hw
                  go_simp
                  try with_reducible rfl
                try simp only [Act.put, List.getElem_toArray, List.getElem_cons_succ, List.getElem_cons_zero, List.setIfInBounds_toArray, List.set_cons_zero, List.set_cons_succ]
                refine wpAnyH_take (i := 6) (v := ?_) rfl (by kernel_rfl) (by kernel_rfl) (by kernel_rfl) (fun _ _ _ h => h) (Or.inl ⟨by rfl, ?_⟩) hS ?_
                rotate_left
                · intro w hw
                  go_simp
                  try with_reducible rfl
                try simp only [Act.put, List.getElem_toArray, List.getElem_cons_succ, List.getElem_cons_zero, List.setIfInBounds_toArray, List.set_cons_zero, List.set_cons_succ]
                refine wpAnyH_take (i := 7) (v := ?_) rfl (by kernel_rfl) (by kernel_rfl) (by kernel_rfl) (fun _ _ _ h => h) (Or.inl ⟨by rfl, ?_⟩) hS ?_
                rotate_left
                · intro w hw
                  obtain ⟨ad', pi, hA, -, hpi, q0, q1, q2, q3⟩ := (HE9.out.below (HB47.out.trans (hw.out.mono HB47.out.size))).place HDJ.out
                  injection hA with hA
                  subst hA
                  obtain rfl : pi = p' := hpi.symm.trans hp
                  have hld := D.load q0 q1 q2 q3
                  go_simp
                  try with_reducible rfl
                try simp only [Act.put, List.getElem_toArray, List.getElem_cons_succ, List.getElem_cons_zero, List.setIfInBounds_toArray, List.set_cons_zero, List.set_cons_succ]
                refine wpAnyH_ready (rs := [8]) (by kernel_rfl) (by simp) ?_
                refine AllReadyH.cons rfl (fun K hK => ?_) AllReadyH.nil
                go_simp
                have hb7 := hS.out
                refine (same_entry d5 d9 _ (HD57.out.next hb7) ((HOK.out.next (HB47.out.trans (hb7.mono HB47.out.size))))).mono ?_
                rintro e W8 ⟨rfl, hb8⟩
                rw [sameD_eq HE59.out]
                have HB8 := Lib.hid (hb7.trans (hb8.mono hb7.size))
                clear hb8 hb7
                go_wp2_with fail
                refine hK.out _ _ HB8 (fun _ => ?_)
                clear hK K hS
                refine wpAnyH_other (S' := fun w' => Hid (Below W8.heap.size W8 w')) (fun w hw => Lib.hid (HB8.out.trans (hw.out.mono HB8.out.size))) _ _ _ _ ?_
                have hS : Hid (Below W8.heap.size W8 W8) := Lib.hid (Below.refl _ _)
                try simp only [Act.put, List.getElem_toArray, List.getElem_cons_succ, List.getElem_cons_zero, List.setIfInBounds_toArray, List.set_cons_zero, List.set_cons_succ]
                refine wpAnyH_take (i := 9) (v := ?_) rfl (by kernel_rfl) (by kernel_rfl) (by kernel_rfl) (fun _ _ _ h => h) (Or.inl ⟨by rfl, ?_⟩) hS ?_
                rotate_left
                · intro w hw
                  go_simp
                  try with_reducible rfl
                try simp only [Act.put, List.getElem_toArray, List.getElem_cons_succ, List.getElem_cons_zero, List.setIfInBounds_toArray, List.set_cons_zero, List.set_cons_succ]
                refine wpAnyH_take (i := 10) (v := ?_) rfl (by kernel_rfl) (by kernel_rfl) (by kernel_rfl) (fun _ _ _ h => h) (Or.inl ⟨by rfl, ?_⟩) hS ?_
                rotate_left
                · intro w hw
                  go_simp
                  try with_reducible rfl
                try simp only [Act.put, List.getElem_toArray, List.getElem_cons_succ, List.getElem_cons_zero, List.setIfInBounds_toArray, List.set_cons_zero, List.set_cons_succ]
                refine wpAnyH_take (i := 11) (v := ?_) rfl (by kernel_rfl) (by kernel_rfl) (by kernel_rfl) (fun _ _ _ h => h) (Or.inl ⟨by rfl, ?_⟩) hS ?_
                rotate_left
                · intro w hw
                  go_simp
                  try with_reducible rfl
                try simp only [Act.put, List.getElem_toArray, List.getElem_cons_succ, List.getElem_cons_zero, List.setIfInBounds_toArray, List.set_cons_zero, List.set_cons_succ]
                refine wpAnyH_take (i := 12) (v := ?_) rfl (by kernel_rfl) (by kernel_rfl) (by kernel_rfl) (fun _ _ _ h => h) (Or.inl ⟨by rfl, ?_⟩) hS ?_
                rotate_left
                · intro w hw
                  go_simp
                  try with_reducible rfl
                try simp only [Act.put, List.getElem_toArray, List.getElem_cons_succ, List.getElem_cons_zero, List.setIfInBounds_toArray, List.set_cons_zero, List.set_cons_succ]
                refine wpAnyH_take (i := 13) (v := ?_) rfl (by kernel_rfl) (by kernel_rfl) (by kernel_rfl) (fun _ _ _ h => h) (Or.inl ⟨by rfl, ?_⟩) hS ?_
                rotate_left
                · intro w hw
                  go_simp
                  try with_reducible rfl
                try simp only [Act.put, List.getElem_toArray, List.getElem_cons_succ, List.getElem_cons_zero, List.setIfInBounds_toArray, List.set_cons_zero, List.set_cons_succ]
                refine wpAnyH_take (i := 14) (v := ?_) rfl (by kernel_rfl) (by kernel_rfl) (by kernel_rfl) (fun _ _ _ h => h) (Or.inl ⟨by rfl, ?_⟩) hS ?_
                rotate_left
                · intro w hw
                  go_simp
                  try with_reducible rfl
                try simp only [Act.put, List.getElem_toArray, List.getElem_cons_succ, List.getElem_cons_zero, List.setIfInBounds_toArray, List.set_cons_zero, List.set_cons_succ]
                refine wpAnyH_take (i := 15) (v := ?_) rfl (by kernel_rfl) (by kernel_rfl) (by kernel_rfl) (fun _ _ _ h => h) (Or.inl ⟨by rfl, ?_⟩) hS ?_
                rotate_left
                · intro w hw
                  go_simp
                  try with_reducible rfl
                try simp only [Act.put, List.getElem_toArray, List.getElem_cons_succ, List.getElem_cons_zero, List.setIfInBounds_toArray, List.set_cons_zero, List.set_cons_succ]
                refine wpAnyH_take (i := 16) (v := ?_) rfl (by kernel_rfl) (by kernel_rfl) (by kernel_rfl) (fun _ _ _ h => h) (Or.inl ⟨by rfl, ?_⟩) hS ?_
                rotate_left
                · intro w hw
                  go_simp
                  try with_reducible rfl
                try simp only [Act.put, List.getElem_toArray, List.getElem_cons_succ, List.getElem_cons_zero, List.setIfInBounds_toArray, List.set_cons_zero, List.set_cons_succ]
                refine wpAnyH_take (i := 17) (v := ?_) rfl (by kernel_rfl) (by kernel_rfl) (by kernel_rfl) (fun _ _ _ h => h) (Or.inl ⟨by rfl, ?_⟩) hS ?_
                rotate_left
                · intro w hw
                  go_simp
                  try with_reducible rfl
                try simp only [Act.put, List.getElem_toArray, List.getElem_cons_succ, List.getElem_cons_zero, List.setIfInBounds_toArray, List.set_cons_zero, List.set_cons_succ]
                refine wpAnyH_take (i := 18) (v := ?_) rfl (by kernel_rfl) (by kernel_rfl) (by kernel_rfl) (fun _ _ _ h => h) (Or.inl ⟨by rfl, ?_⟩) hS ?_
                rotate_left
                · intro w hw
                  go_simp
                  try with_reducible rfl
                try simp only [Act.put, List.getElem_toArray, List.getElem_cons_succ, List.getElem_cons_zero, List.setIfInBounds_toArray, List.set_cons_zero, List.set_cons_succ]
                refine wpAnyH_take (i := 19) (v := ?_) rfl (by kernel_rfl) (by kernel_rfl) (by kernel_rfl) (fun _ _ _ h => h) (Or.inl ⟨by rfl, ?_⟩) hS ?_
                rotate_left
                · intro w hw
                  go_simp
                  try with_reducible rfl
                try simp only [Act.put, List.getElem_toArray, List.getElem_cons_succ, List.getElem_cons_zero, List.setIfInBounds_toArray, List.set_cons_zero, List.set_cons_succ]
                refine wpAnyH_take (i := 20) (v := undef) rfl (by kernel_rfl) (by kernel_rfl) (by kernel_rfl) (fun _ _ _ h => h) (Or.inr ⟨by rfl, rfl⟩) hS ?_
                try simp only [Act.put, List.getElem_toArray, List.getElem_cons_succ, List.getElem_cons_zero, List.setIfInBounds_toArray, List.set_cons_zero, List.set_cons_succ]
                refine wpAnyH_take (i := 21) (v := undef) rfl (by kernel_rfl) (by kernel_rfl) (by kernel_rfl) (fun _ _ _ h => h) (Or.inr ⟨by rfl, rfl⟩) hS ?_
                try simp only [Act.put, List.getElem_toArray, List.getElem_cons_succ, List.getElem_cons_zero, List.setIfInBounds_toArray, List.set_cons_zero, List.set_cons_succ]
                refine wpAnyH_take (i := 22) (v := undef) rfl (by kernel_rfl) (by kernel_rfl) (by kernel_rfl) (fun _ _ _ h => h) (Or.inr ⟨by rfl, rfl⟩) hS ?_
                try simp only [Act.put, List.getElem_toArray, List.getElem_cons_succ, List.getElem_cons_zero, List.setIfInBounds_toArray, List.set_cons_zero, List.set_cons_succ]
                refine wpAnyH_take (i := 23) (v := undef) rfl (by kernel_rfl) (by kernel_rfl) (by kernel_rfl) (fun _ _ _ h => h) (Or.inr ⟨by rfl, rfl⟩) hS ?_
                try simp only [Act.put, List.getElem_toArray, List.getElem_cons_succ, List.getElem_cons_zero, List.setIfInBounds_toArray, List.set_cons_zero, List.set_cons_succ]
                refine wpAnyH_take (i := 24) (v := undef) rfl (by kernel_rfl) (by kernel_rfl) (by kernel_rfl) (fun _ _ _ h => h) (Or.inr ⟨by rfl, rfl⟩) hS ?_
                try simp only [Act.put, List.getElem_toArray, List.getElem_cons_succ, List.getElem_cons_zero, List.setIfInBounds_toArray, List.set_cons_zero, List.set_cons_succ]
                refine wpAnyH_take (i := 25) (v := undef) rfl (by kernel_rfl) (by kernel_rfl) (by kernel_rfl) (fun _ _ _ h => h) (Or.inr ⟨by rfl, rfl⟩) hS ?_
                try simp only [Act.put, List.getElem_toArray, List.getElem_cons_succ, List.getElem_cons_zero, List.setIfInBounds_toArray, List.set_cons_zero, List.set_cons_succ]
                refine wpAnyH_take (i := 26) (v := undef) rfl (by kernel_rfl) (by kernel_rfl) (by kernel_rfl) (fun _ _ _ h => h) (Or.inr ⟨by rfl, rfl⟩) hS ?_
                try simp only [Act.put, List.getElem_toArray, List.getElem_cons_succ, List.getElem_cons_zero, List.setIfInBounds_toArray, List.set_cons_zero, List.set_cons_succ]
                refine wpAnyH_take (i := 27) (v := undef) rfl (by kernel_rfl) (by kernel_rfl) (by kernel_rfl) (fun _ _ _ h => h) (Or.inr ⟨by rfl, rfl⟩) hS ?_
                try simp only [Act.put, List.getElem_toArray, List.getElem_cons_succ, List.getElem_cons_zero, List.setIfInBounds_toArray, List.set_cons_zero, List.set_cons_succ]
                refine wpAnyH_take (i := 28) (v := ?_) rfl (by kernel_rfl) (by kernel_rfl) (by kernel_rfl) (fun _ _ _ h => h) (Or.inl ⟨by rfl, ?_⟩) hS ?_
                rotate_left
                · intro w hw
                  go_simp
                  try with_reducible rfl
                try simp only [Act.put, List.getElem_toArray, List.getElem_cons_succ, List.getElem_cons_zero, List.setIfInBounds_toArray, List.set_cons_zero, List.set_cons_succ]
                refine wpAnyH_take (i := 29) (v := ?_) rfl (by kernel_rfl) (by kernel_rfl) (by kernel_rfl) (fun _ _ _ h => h) (Or.inl ⟨by rfl, ?_⟩) hS ?_
                rotate_left
                · intro w hw
                  go_simp
                  try with_reducible rfl
                try simp only [Act.put, List.getElem_toArray, List.getElem_cons_succ, List.getElem_cons_zero, List.setIfInBounds_toArray, List.set_cons_zero, List.set_cons_succ]
                refine wpAnyH_done (by kernel_rfl) ?_ _
                have HREL := Lib.hid (HB47.out.trans (HB8.out.mono HB47.out.size))
                go_wp2_with fail
                go_roundw
                case rel => exact ⟨0 + 1, by omega, by go_num, HREL⟩
                case measure => simp [intOf]
              · rw [hbf]
                have HEI := Lib.hid hei
                have HOE := Lib.hid (HE9.out.ok e9 (List.mem_of_getElem? hei))
                have HE69 : Hid (d6.t = e9.t) := Lib.hid (by have := HT6.out; rw [hbf] at this; exact this)
                obtain ⟨ad2, pe, hA2, -, hpe, -⟩ := HE9.out.place hei
                injection hA2 with hA2
                subst hA2
                have HJI := Lib.hid hji
                have HPE := Lib.hid hpe
                clear HBF hbf HT6 hei hji hpe
                refine wp_region_held_drew (S := fun w' => Hid (Below W7.heap.size W7 w')) (by kernel_rfl) (Lib.hid (Below.refl _ _).drew) (fun hS => ?_)
                refine wpAnyH_take (i := 0) (v := ?_) rfl (by kernel_rfl) (by kernel_rfl) (by kernel_rfl) (fun _ _ _ h => h) (Or.inl ⟨by rfl, ?_⟩) hS ?_
                rotate_left
                · intro w hw
                  go_simp
                  try with_reducible rfl
                try simp only [Act.put, List.getElem_toArray, List.getElem_cons_succ, List.getElem_cons_zero, List.setIfInBounds_toArray, List.set_cons_zero, List.set_cons_succ]
                refine wpAnyH_take (i := 1) (v := ?_) rfl (by kernel_rfl) (by kernel_rfl) (by kernel_rfl) (fun _ _ _ h => h) (Or.inl ⟨by rfl, ?_⟩) hS ?_
                rotate_left
                · intro w hw
                  go_simp
                  try with_reducible rfl
                try simp only [Act.put, List.getElem_toArray, List.getElem_cons_succ, List.getElem_cons_zero, List.setIfInBounds_toArray, List.set_cons_zero, List.set_cons_succ]
                refine wpAnyH_take (i := 2) (v := ?_) rfl (by kernel_rfl) (by kernel_rfl) (by kernel_rfl) (fun _ _ _ h => h) (Or.inl ⟨by rfl, ?_⟩) hS ?_
                rotate_left
                · intro w hw
                  go_simp
                  try with_reducible rfl
                try simp only [Act.put, List.getElem_toArray, List.getElem_cons_succ, List.getElem_cons_zero, List.setIfInBounds_toArray, List.set_cons_zero, List.set_cons_succ]
                refine wpAnyH_take (i := 3) (v := ?_) rfl (by kernel_rfl) (by kernel_rfl) (by kernel_rfl) (fun _ _ _ h => h) (Or.inl ⟨by rfl, ?_⟩) hS ?_
                rotate_left
                · intro w hw
                  have hbx := HX5P.out.below hw.out HX5P.out.lt
                  obtain ⟨y0, y1, y2, y3, -, -, -, -⟩ := (show Bx w _ d5 from hbx).facts
                  clear hbx
                  go_simp
                  try with_reducible rfl
                try simp only [Act.put, List.getElem_toArray, List.getElem_cons_succ, List.getElem_cons_zero, List.setIfInBounds_toArray, List.set_cons_zero, List.set_cons_succ]
                refine wpAnyH_take (i := 4) (v := ?_) rfl (by kernel_rfl) (by kernel_rfl) (by kernel_rfl) (fun _ _ _ h => h) (Or.inl ⟨by rfl, ?_⟩) hS ?_
                rotate_left
                · intro w hw
                  go_simp
                  try with_reducible rfl
                try simp only [Act.put, List.getElem_toArray, List.getElem_cons_succ, List.getElem_cons_zero, List.setIfInBounds_toArray, List.set_cons_zero, List.set_cons_succ]
                refine wpAnyH_take (i := 5) (v := ?_) rfl (by kernel_rfl) (by kernel_rfl) (by kernel_rfl) (fun _ _ _ h => h) (Or.inl ⟨by rfl, ?_⟩) hS ?_
                rotate_left
                · intro w hw
                  go_simp
                  try with_reducible rfl
                try simp only [Act.put, List.getElem_toArray, List.getElem_cons_succ, List.getElem_cons_zero, List.setIfInBounds_toArray, List.set_cons_zero, List.set_cons_succ]
                refine wpAnyH_take (i := 6) (v := ?_) rfl (by kernel_rfl) (by kernel_rfl) (by kernel_rfl) (fun _ _ _ h => h) (Or.inl ⟨by rfl, ?_⟩) hS ?_
                rotate_left
                · intro w hw
                  go_simp
                  try with_reducible rfl
                try simp only [Act.put, List.getElem_toArray, List.getElem_cons_succ, List.getElem_cons_zero, List.setIfInBounds_toArray, List.set_cons_zero, List.set_cons_succ]
                refine wpAnyH_take (i := 7) (v := ?_) rfl (by kernel_rfl) (by kernel_rfl) (by kernel_rfl) (fun _ _ _ h => h) (Or.inl ⟨by rfl, ?_⟩) hS ?_
                rotate_left
                · intro w hw
                  obtain ⟨ad', pi, hA, -, hpi, q0, q1, q2, q3⟩ := (HE9.out.below (HB47.out.trans (hw.out.mono HB47.out.size))).place HDJ.out
                  injection hA with hA
                  subst hA
                  obtain rfl : pi = p' := hpi.symm.trans hp
                  have hld := D.load q0 q1 q2 q3
                  go_simp
                  try with_reducible rfl
                try simp only [Act.put, List.getElem_toArray, List.getElem_cons_succ, List.getElem_cons_zero, List.setIfInBounds_toArray, List.set_cons_zero, List.set_cons_succ]
                refine wpAnyH_ready (rs := [8]) (by kernel_rfl) (by simp) ?_
                refine AllReadyH.cons rfl (fun K hK => ?_) AllReadyH.nil
                go_simp
                have hb7 := hS.out
                refine (same_entry d5 d9 _ (HD57.out.next hb7) ((HOK.out.next (HB47.out.trans (hb7.mono HB47.out.size))))).mono ?_
                rintro e W8 ⟨rfl, hb8⟩
                rw [sameD_eq HE59.out]
                have HB8 := Lib.hid (hb7.trans (hb8.mono hb7.size))
                clear hb8 hb7
                go_wp2_with fail
                refine hK.out _ _ HB8 (fun _ => ?_)
                clear hK K hS
                refine wpAnyH_other (S' := fun w' => Hid (Below W8.heap.size W8 w')) (fun w hw => Lib.hid (HB8.out.trans (hw.out.mono HB8.out.size))) _ _ _ _ ?_
                have hS : Hid (Below W8.heap.size W8 W8) := Lib.hid (Below.refl _ _)
                try simp only [Act.put, List.getElem_toArray, List.getElem_cons_succ, List.getElem_cons_zero, List.setIfInBounds_toArray, List.set_cons_zero, List.set_cons_succ]
                refine wpAnyH_take (i := 9) (v := ?_) rfl (by kernel_rfl) (by kernel_rfl) (by kernel_rfl) (fun _ _ _ h => h) (Or.inl ⟨by rfl, ?_⟩) hS ?_
                rotate_left
                · intro w hw
                  go_simp
                  try with_reducible rfl
                try simp only [Act.put, List.getElem_toArray, List.getElem_cons_succ, List.getElem_cons_zero, List.setIfInBounds_toArray, List.set_cons_zero, List.set_cons_succ]
                refine wpAnyH_take (i := 10) (v := ?_) rfl (by kernel_rfl) (by kernel_rfl) (by kernel_rfl) (fun _ _ _ h => h) (Or.inl ⟨by rfl, ?_⟩) hS ?_
                rotate_left
                · intro w hw
                  go_simp
                  try with_reducible rfl
                try simp only [Act.put, List.getElem_toArray, List.getElem_cons_succ, List.getElem_cons_zero, List.setIfInBounds_toArray, List.set_cons_zero, List.set_cons_succ]
                refine wpAnyH_take (i := 11) (v := ?_) rfl (by kernel_rfl) (by kernel_rfl) (by kernel_rfl) (fun _ _ _ h => h) (Or.inl ⟨by rfl, ?_⟩) hS ?_
                rotate_left
                · intro w hw
                  go_simp
                  try with_reducible rfl
                try simp only [Act.put, List.getElem_toArray, List.getElem_cons_succ, List.getElem_cons_zero, List.setIfInBounds_toArray, List.set_cons_zero, List.set_cons_succ]
                refine wpAnyH_take (i := 12) (v := ?_) rfl (by kernel_rfl) (by kernel_rfl) (by kernel_rfl) (fun _ _ _ h => h) (Or.inl ⟨by rfl, ?_⟩) hS ?_
                rotate_left
                · intro w hw
                  go_simp
                  try with_reducible rfl
                try simp only [Act.put, List.getElem_toArray, List.getElem_cons_succ, List.getElem_cons_zero, List.setIfInBounds_toArray, List.set_cons_zero, List.set_cons_succ]
                refine wpAnyH_take (i := 13) (v := ?_) rfl (by kernel_rfl) (by kernel_rfl) (by kernel_rfl) (fun _ _ _ h => h) (Or.inl ⟨by rfl, ?_⟩) hS ?_
                rotate_left
                · intro w hw
                  go_simp
                  try with_reducible rfl
                try simp only [Act.put, List.getElem_toArray, List.getElem_cons_succ, List.getElem_cons_zero, List.setIfInBounds_toArray, List.set_cons_zero, List.set_cons_succ]
                refine wpAnyH_take (i := 14) (v := ?_) rfl (by kernel_rfl) (by kernel_rfl) (by kernel_rfl) (fun _ _ _ h => h) (Or.inl ⟨by rfl, ?_⟩) hS ?_
                rotate_left
                · intro w hw
                  have hjp : 0 < j := by have := HJI.out; omega
                  go_simp
                  try with_reducible rfl
                try simp only [Act.put, List.getElem_toArray, List.getElem_cons_succ, List.getElem_cons_zero, List.setIfInBounds_toArray, List.set_cons_zero, List.set_cons_succ]
                refine wpAnyH_take (i := 15) (v := ?_) rfl (by kernel_rfl) (by kernel_rfl) (by kernel_rfl) (fun _ _ _ h => h) (Or.inl ⟨by rfl, ?_⟩) hS ?_
                rotate_left
                · intro w hw
                  go_simp
                  try with_reducible rfl
                try simp only [Act.put, List.getElem_toArray, List.getElem_cons_succ, List.getElem_cons_zero, List.setIfInBounds_toArray, List.set_cons_zero, List.set_cons_succ]
                refine wpAnyH_take (i := 16) (v := ?_) rfl (by kernel_rfl) (by kernel_rfl) (by kernel_rfl) (fun _ _ _ h => h) (Or.inl ⟨by rfl, ?_⟩) hS ?_
                rotate_left
                · intro w hw
                  go_simp
                  try with_reducible rfl
                try simp only [Act.put, List.getElem_toArray, List.getElem_cons_succ, List.getElem_cons_zero, List.setIfInBounds_toArray, List.set_cons_zero, List.set_cons_succ]
                refine wpAnyH_take (i := 17) (v := ?_) rfl (by kernel_rfl) (by kernel_rfl) (by kernel_rfl) (fun _ _ _ h => h) (Or.inl ⟨by rfl, ?_⟩) hS ?_
                rotate_left
                · intro w hw
                  go_simp
                  try with_reducible rfl
                try simp only [Act.put, List.getElem_toArray, List.getElem_cons_succ, List.getElem_cons_zero, List.setIfInBounds_toArray, List.set_cons_zero, List.set_cons_succ]
                refine wpAnyH_take (i := 18) (v := ?_) rfl (by kernel_rfl) (by kernel_rfl) (by kernel_rfl) (fun _ _ _ h => h) (Or.inl ⟨by rfl, ?_⟩) hS ?_
                rotate_left
                · intro w hw
                  go_simp
                  try with_reducible rfl
                try simp only [Act.put, List.getElem_toArray, List.getElem_cons_succ, List.getElem_cons_zero, List.setIfInBounds_toArray, List.set_cons_zero, List.set_cons_succ]
                refine wpAnyH_take (i := 19) (v := ?_) rfl (by kernel_rfl) (by kernel_rfl) (by kernel_rfl) (fun _ _ _ h => h) (Or.inl ⟨by rfl, ?_⟩) hS ?_
                rotate_left
                · intro w hw
                  go_simp
                  try with_reducible rfl
                try simp only [Act.put, List.getElem_toArray, List.getElem_cons_succ, List.getElem_cons_zero, List.setIfInBounds_toArray, List.set_cons_zero, List.set_cons_succ]
                refine wpAnyH_take (i := 20) (v := ?_) rfl (by kernel_rfl) (by kernel_rfl) (by kernel_rfl) (fun _ _ _ h => h) (Or.inl ⟨by rfl, ?_⟩) hS ?_
                rotate_left
                · intro w hw
                  have hbx := (HX6.out.below HB8.out HX6.out.lt).below hw.out (HX6.out.below HB8.out HX6.out.lt).lt
                  obtain ⟨y0, y1, y2, y3, -, -, -, -⟩ := (show Bx w _ d6 from hbx).facts
                  clear hbx
                  go_simp
                  try with_reducible rfl
                try simp only [Act.put, List.getElem_toArray, List.getElem_cons_succ, List.getElem_cons_zero, List.setIfInBounds_toArray, List.set_cons_zero, List.set_cons_succ]
                refine wpAnyH_take (i := 21) (v := ?_) rfl (by kernel_rfl) (by kernel_rfl) (by kernel_rfl) (fun _ _ _ h => h) (Or.inl ⟨by rfl, ?_⟩) hS ?_
                rotate_left
                · intro w hw
                  go_simp
                  try with_reducible rfl
                try simp only [Act.put, List.getElem_toArray, List.getElem_cons_succ, List.getElem_cons_zero, List.setIfInBounds_toArray, List.set_cons_zero, List.set_cons_succ]
                refine wpAnyH_take (i := 22) (v := ?_) rfl (by kernel_rfl) (by kernel_rfl) (by kernel_rfl) (fun _ _ _ h => h) (Or.inl ⟨by rfl, ?_⟩) hS ?_
                rotate_left
                · intro w hw
                  go_simp
                  try with_reducible rfl
                try simp only [Act.put, List.getElem_toArray, List.getElem_cons_succ, List.getElem_cons_zero, List.setIfInBounds_toArray, List.set_cons_zero, List.set_cons_succ]
                refine wpAnyH_take (i := 23) (v := ?_) rfl (by kernel_rfl) (by kernel_rfl) (by kernel_rfl) (fun _ _ _ h => h) (Or.inl ⟨by rfl, ?_⟩) hS ?_
                rotate_left
                · intro w hw
                  have ej : (j : Int) - 1 = (i : Int) := by have := HJI.out; omega
                  have hil : i < L9.length := (List.getElem?_eq_some_iff.1 HEI.out).1
                  have ew : IntKind.i64.wrap (i : Int) = (i : Int) := IntWalk.i64_in _ (by omega)
                  go_simp
                  try with_reducible rfl
                try simp only [Act.put, List.getElem_toArray, List.getElem_cons_succ, List.getElem_cons_zero, List.setIfInBounds_toArray, List.set_cons_zero, List.set_cons_succ]
                refine wpAnyH_take (i := 24) (v := ?_) rfl (by kernel_rfl) (by kernel_rfl) (by kernel_rfl) (fun _ _ _ h => h) (Or.inl ⟨by rfl, ?_⟩) hS ?_
                rotate_left
                · intro w hw
                  have hil0 : i < L9.length := (List.getElem?_eq_some_iff.1 HEI.out).1
                  have hil : i < R.length := by omega
                  have hpe := HPE.out
                  go_simp
                  try with_reducible rfl
                try simp only [Act.put, List.getElem_toArray, List.getElem_cons_succ, List.getElem_cons_zero, List.setIfInBounds_toArray, List.set_cons_zero, List.set_cons_succ]
                refine wpAnyH_take (i := 25) (v := ?_) rfl (by kernel_rfl) (by kernel_rfl) (by kernel_rfl) (fun _ _ _ h => h) (Or.inl ⟨by rfl, ?_⟩) hS ?_
                rotate_left
                · intro w hw
                  obtain ⟨ad', pi, hA, -, hpi, q0, q1, q2, q3⟩ := (HE9.out.below (HB47.out.trans ((HB8.out.trans (hw.out.mono HB8.out.size)).mono HB47.out.size))).place HEI.out
                  injection hA with hA
                  subst hA
                  have hpe := HPE.out
                  obtain rfl : pi = pe := hpi.symm.trans hpe
                  have hld := D.load q0 q1 q2 q3
                  go_simp
                  try with_reducible rfl
                try simp only [Act.put, List.getElem_toArray, List.getElem_cons_succ, List.getElem_cons_zero, List.setIfInBounds_toArray, List.set_cons_zero, List.set_cons_succ]
                refine wpAnyH_ready (rs := [26]) (by kernel_rfl) (by simp) ?_
                refine AllReadyH.cons rfl (fun K hK => ?_) AllReadyH.nil
                go_simp
                refine (same_entry d6 e9 _ (HD67.out.next HB8.out) (HOE.out.next (HB47.out.trans (HB8.out.mono HB47.out.size)))).mono ?_
                rintro e W9 ⟨rfl, hb9⟩
                rw [sameD_eq HE69.out]
                have HB9 := Lib.hid hb9
                clear hb9
                go_wp2_with fail
                refine hK.out _ _ HB9 (fun _ => ?_)
                clear hK K hS
                refine wpAnyH_other (S' := fun w' => Hid (Below W9.heap.size W9 w')) (fun w hw => Lib.hid (HB9.out.trans (hw.out.mono HB9.out.size))) _ _ _ _ ?_
                have hS : Hid (Below W9.heap.size W9 W9) := Lib.hid (Below.refl _ _)
                try simp only [Act.put, List.getElem_toArray, List.getElem_cons_succ, List.getElem_cons_zero, List.setIfInBounds_toArray, List.set_cons_zero, List.set_cons_succ]
                refine wpAnyH_take (i := 27) (v := ?_) rfl (by kernel_rfl) (by kernel_rfl) (by kernel_rfl) (fun _ _ _ h => h) (Or.inl ⟨by rfl, ?_⟩) hS ?_
                rotate_left
                · intro w hw
                  go_simp
                  try with_reducible rfl
                try simp only [Act.put, List.getElem_toArray, List.getElem_cons_succ, List.getElem_cons_zero, List.setIfInBounds_toArray, List.set_cons_zero, List.set_cons_succ]
                refine wpAnyH_take (i := 28) (v := ?_) rfl (by kernel_rfl) (by kernel_rfl) (by kernel_rfl) (fun _ _ _ h => h) (Or.inl ⟨by rfl, ?_⟩) hS ?_
                rotate_left
                · intro w hw
                  go_simp
                  try with_reducible rfl
                try simp only [Act.put, List.getElem_toArray, List.getElem_cons_succ, List.getElem_cons_zero, List.setIfInBounds_toArray, List.set_cons_zero, List.set_cons_succ]
                refine wpAnyH_take (i := 29) (v := ?_) rfl (by kernel_rfl) (by kernel_rfl) (by kernel_rfl) (fun _ _ _ h => h) (Or.inl ⟨by rfl, ?_⟩) hS ?_
                rotate_left
                · intro w hw
                  go_simp
                  try with_reducible rfl
                try simp only [Act.put, List.getElem_toArray, List.getElem_cons_succ, List.getElem_cons_zero, List.setIfInBounds_toArray, List.set_cons_zero, List.set_cons_succ]
                refine wpAnyH_done (by kernel_rfl) ?_ _
                have HREL := Lib.hid (HB47.out.trans ((HB8.out.trans (HB9.out.mono HB8.out.size)).mono HB47.out.size))
                go_wp2_with fail
                go_roundw
                case rel => exact ⟨j + 1, by omega, by go_num, HREL⟩
                case measure => simp [intOf]; omega
            · go_wp2_with fail
              go_ret
              exact ⟨rfl, HB4.out.trans (hb.out.mono HB4.out.size)⟩
  · go_wp2_with fail
    go_ret
    exact ⟨rfl, HB1.out⟩

set_option maxRecDepth 100000 in
theorem lifted (os : Os) (started : os.Started) (H : Type) (enc : TypeId × Value → H) :
    ReturnsInHanded {} Try.checked os 6 .any (Rows.skipSeeksSpec.pre6 enc Try.prog Try.f6 Rows.skipSeeksRow.domain false) (Rows.skipSeeksSpec.post enc Try.prog Try.f6 false true false false) := by
  refine lift_true (C := Try.checked) own started (by kernel_rfl) Try.func6
    (ChangeSpec.witness6 (enc := enc) (C := Try.checked) false ⟨#[], #[.slice none 0 0, .slice none 0 0], []⟩ 8 (by kernel_rfl) (by kernel_rfl) (by kernel_rfl) (by kernel_rfl))
    (by kernel_rfl) (by kernel_rfl) (by kernel_rfl) Try.underlying4 rfl ?_ ?_
  · intro ds hds
    match ds, hds with
    | [d1, d2], _ => exact ⟨rfl, rfl, rfl⟩
  · intro W base args ds p hval0 hA0 hlt _
    have hval : ∀ (j : Nat) t v, Try.f6.params[j]? = some t → args[j]? = some v → Value.okWide Try.prog W .any base t v := hval0
    have hA : DataW.TrodAll enc Try.prog W 0 (fun _ => true) true Try.f6.params.toList args.toList ds p := hA0
    rw [Try.params6] at hA hval
    obtain ⟨v0, vs0, d0, ds0, p0, q0, hargs, rfl, rfl, h0, r0⟩ := trodAll_cons hA
    obtain ⟨v1, vs1, d1, ds1, p1, q1, rfl, rfl, rfl, h1, r1⟩ := trodAll_cons r0
    obtain ⟨rfl, rfl, rfl⟩ := trodAll_nil r1
    obtain rfl : args = #[v0, v1] := by cases args; simp_all
    obtain ⟨A0, c0, L0, rfl, hN0⟩ := Sk.open_ents (hval 0 _ v0 rfl rfl) h0 (fun x hx => hlt x (by simp [hx]))
    obtain ⟨A1, c1, zs1, rfl, hc1, hm1, hl1, hw1⟩ := open_nums Try.underlying23 Try.underlying3 (by kernel_rfl) (hval 1 _ v1 rfl rfl) h1 (fun x hx => hlt x (by simp [hx]))
    exact walk A0 A1 c0 c1 L0 zs1 W hN0 hl1 hc1 hm1 hw1

theorem over : Rows.skipSeeksRow.holds Try.pinned (OpenSpec.ofChange Rows.skipSeeksSpec) :=
  OpenClaim.holds_of_wide 6 Try.f6 rfl rfl rfl rfl rfl rfl rfl ⟨rfl, rfl, rfl, rfl, rfl⟩ rfl rfl rfl rfl rfl (by kernel_rfl) Try.func6 (by kernel_rfl)
    (of_decide_eq_true (by kernel_rfl)) (by unfold Func.isWrapper; first | (rw [if_pos (by decide +kernel)]; kernel_rfl) | (rw [if_neg (by decide +kernel)]; exact ⟨rfl, rfl⟩))
    (fun os started H enc _ => lifted os started H enc)

theorem proved : Rows.SkipSeeksSaid :=
  over
#print axioms proved
end Go.Proofs.Ytnhpocfjmmnnmaa.skipSeeks
