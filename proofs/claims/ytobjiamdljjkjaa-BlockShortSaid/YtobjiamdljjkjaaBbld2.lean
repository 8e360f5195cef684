/- The document's own build of entries. -/
import Derived.Test.YtobjiamdljjkjaaBbld
namespace Go.Proofs.Ytobjiamdljjkjaa.Bk
set_option linter.unusedVariables false
set_option linter.unusedSimpArgs false
open Go.RowKit Lift Ik Sk Vn
theorem lies_mk {w : World} {A : Option Addr} {n c : Nat} {bs : List Nat} (h : Byts w (.slice A n c) bs) : n = bs.length ∧ n ≤ c ∧ c ≤ maxLen ∧ Lies w w.heap.size A (bs.map vb) := by
  obtain ⟨A', c', e, h1, h2, h3⟩ := h
  injection e with e1 e2 e3
  subst e1 e2 e3
  exact ⟨rfl, h1, h2, h3⟩
/-- What lies in memory behind some entries. -/
structure St (w wr : World) (L : List D) (every j : Nat) (A5 A6 A7 : Option Addr) (c5 c6 c7 cnt : Nat) (X5 X6 X7 : List Nat) : Prop where
  e5 : X5 = body every 0 [] ((L.map D.t).take j)
  e6 : X6 = (ends every 0 [] 0 ((L.map D.t).take j)).flatMap fun e => low e 4
  e7 : X7 = lastK [] ((L.map D.t).take j)
  ec : cnt = (ends every 0 [] 0 ((L.map D.t).take j)).length
  below : Below w.heap.size w wr
  own : wr.ownsRow w.heap.size 5 1 (.slice A5 X5.length c5) X5.length (X5.map vb)
  off6 : Off (.slice A5 X5.length c5) wr A6 (X6.map vb)
  h6 : X6.length ≤ c6
  m6 : c6 ≤ maxLen
  lies7 : Lies wr wr.heap.size A7 (X7.map vb)
  h7 : X7.length ≤ c7
  m7 : c7 ≤ maxLen
/-- In the middle of an entry. -/
structure Mid (wr w2 wx : World) (every j : Nat) (kb X5 X6 X7 X6' : List Nat) (A6 : Option Addr) (c6 cnt cnt' cc : Nat) : Prop where
  below : Below wr.heap.size wr wx
  bk : Below w2.heap.size w2 wx
  e6 : X6' = X6 ++ (if j % every = 0 then low X5.length 4 else [])
  ec : cnt' = cnt + (if j % every = 0 then 1 else 0)
  pc : cc = pre every j X7 kb
  lies : Lies wx wx.heap.size A6 (X6'.map vb)
  h6 : X6'.length ≤ c6
  m6 : c6 ≤ maxLen
theorem St.next {w wr w2 wx w5 w8 : World} {L : List D} {d : D} {every j : Nat} {A5 A6 A7 A6' A8 Ak : Option Addr} {c5 c6 c7 c6' c8 ck cnt cnt' cc : Nat} {X5 X6 X7 X6' X8 : List Nat} (h : St w wr L every j A5 A6 A7 c5 c6 c7 cnt X5 X6 X7) (hd : L[j]? = some d)
    (hm : Mid wr w2 wx every j (bytesK d.k) X5 X6 X7 X6' A6' c6' cnt cnt' cc) (h5 : Below wx.heap.size wx w5) (h58 : Below w5.heap.size w5 w8) (ho : w8.ownsRow w5.heap.size 5 1 (.slice A8 X8.length c8) X8.length (X8.map vb)) (e8 : X8 = X5 ++ one cc d.t)
    (hk : Lies w8 w8.heap.size Ak ((bytesK d.k).map vb)) (hk1 : (bytesK d.k).length ≤ ck) (hk2 : ck ≤ maxLen) : St w w8 L every (j + 1) A8 A6' Ak c8 c6' ck cnt' X8 X6' (bytesK d.k) := by
  have hj := (List.getElem?_eq_some_iff.1 hd).1
  have htk : (L.map D.t).take (j + 1) = (L.map D.t).take j ++ [d.t] := by rw [List.take_add_one, List.getElem?_map, hd]; rfl
  have hlen : ((L.map D.t).take j).length = j := by rw [List.length_take, List.length_map]; omega
  have hwx : Below w.heap.size w wx := h.below.trans (hm.below.mono h.below.size)
  have hw5 : Below w.heap.size w w5 := hwx.trans (h5.mono hwx.size)
  refine ⟨?_, ?_, ?_, ?_, hw5.trans (h58.mono hw5.size), own_lower ho hw5.size, ?_, hm.h6, hm.m6, hk, hk1, hk2⟩
  · rw [htk, body_snoc, hlen, Nat.zero_add, ← h.e5, ← h.e7, ← (show d.t.k = d.k from rfl)] at *
    rw [e8, hm.pc]
  · rw [htk, ends_snoc, hlen, Nat.zero_add, List.flatMap_append, ← h.e6, ← h.e5, hm.e6]
    congr 1
    split <;> simp
  · rw [htk, lastK_snoc]
    rfl
  · rw [htk, ends_snoc, hlen, Nat.zero_add, List.length_append, ← h.ec, hm.ec]
    split <;> simp
  · exact Off.old ((hm.lies.below (h5.trans (h58.mono h5.size))).up h5.size) h58.size ho
set_option maxRecDepth 1000000 in
set_option maxHeartbeats 3200000 in
theorem build_any (A : Option Addr) (c : Nat) (L : List D) (every : Nat) (w : World) (h1 : Ents w (· < w.heap.size) A c L) (hok : ∀ d, d ∈ L → okT d.t = true) (hn : L.length ≤ 10000) (he : 1 ≤ every ∧ every ≤ 100) :
    Calls Try.prog 35 #[.slice A L.length c, .int .i64 (every : Int)] w (Made w.heap.size w (blk every (L.map D.t))) := by
  have H1 := Lib.hid h1
  have HOK := Lib.hid hok
  have hc1 := h1.len
  have hm1 := h1.cap
  unfold maxLen at hm1
  obtain ⟨he1, he2⟩ := he
  have HBMAX : Hid (∀ j, (body every 0 [] ((L.map D.t).take j)).length ≤ 44000000) := Lib.hid fun j => by
    refine Nat.le_trans (body_max every _ 0 [] fun t ht => ?_) ?_
    · obtain ⟨d, hd, rfl⟩ := List.mem_map.1 (List.mem_of_mem_take ht)
      exact hok d hd
    · have : ((L.map D.t).take j).length ≤ 10000 := by rw [List.length_take, List.length_map]; omega
      omega
  have HEMAX : Hid (∀ j, (ends every 0 [] 0 ((L.map D.t).take j)).length ≤ 10000) := Lib.hid fun j => by
    refine Nat.le_trans (ends_le every _ 0 [] 0) ?_
    rw [List.length_take, List.length_map]
    omega
  clear h1 hok
  go_enter Try.func35, Try.ntmps35
  go_wp2_with fail
  go_loopw [5, 6, 7, 8, 9, 10, 11] (fun b5 b6 b7 n8 i9 b10 b11 wr => ∃ (j : Nat) (A5 A6 A7 : Option Addr) (c5 c6 c7 cnt : Nat) (X5 X6 X7 : List Nat), j ≤ L.length ∧ b5 = .slice A5 X5.length c5 ∧ b6 = .slice A6 X6.length c6 ∧ b7 = .slice A7 X7.length c7 ∧ n8 = .int .i64 (cnt : Int) ∧ i9 = .int .i64 (j : Int) ∧
    Hid (St w wr L every j A5 A6 A7 c5 c6 c7 cnt X5 X6 X7)) (fun _ _ _ _ i _ _ _ => L.length + 1 - (intOf i).toNat)
  case atStart => exact ⟨0, none, none, none, 0, 0, 0, 0, [], [], [], Nat.zero_le _, rfl, rfl, rfl, rfl, rfl, Lib.hid ⟨rfl, rfl, rfl, rfl, Below.refl _ _, World.ownsRow_nil _ _ _ _, .inl rfl, Nat.le_refl _, by decide, .inl rfl, Nat.le_refl _, by decide⟩⟩
  case round =>
    obtain ⟨j, A5, A6, A7, c5, c6, c7, cnt, X5, X6, X7, hj, rfl, rfl, rfl, rfl, rfl, hst⟩ := hrel
    have hx5 : X5.length ≤ 44000000 := by rw [hst.out.e5]; exact HBMAX.out j
    have hcn : cnt ≤ 10000 := by rw [hst.out.ec]; exact HEMAX.out j
    have hx6 : X6.length ≤ 40000 := by have : X6.length = 4 * cnt := by rw [hst.out.e6, flat4_len, ← hst.out.ec]
                                       omega
    have hc5 : X5.length ≤ c5 ∧ c5 ≤ maxLen := by
      obtain ⟨_, _, e, q1, q2, _⟩ := own_parts hst.out.own
      injection e with _ _ e
      subst e
      exact ⟨q1, q2⟩
    by_cases hlt : j < L.length
    · obtain ⟨d, hd⟩ : ∃ d, L[j]? = some d := ⟨_, List.getElem?_eq_getElem hlt⟩
      have hE := H1.out.below hst.out.below
      obtain ⟨ad, p, hA, -, hp, p0, p1, p2, p3⟩ := hE.place hd
      subst hA
      have hkl := KD.load (d := ⟨d.ka, d.kc, d.k⟩) p0 p1 p2
      have hDk := hE.ok d (List.mem_of_getElem? hd)
      have hokd := HOK.out d (List.mem_of_getElem? hd)
      have hkbl := kb_len hokd
      have HDK := Lib.hid (H1.out.ok d (List.mem_of_getElem? hd))
      have HKB := Lib.hid (rbytes_any d.ka d.kc d.k wr ((hDk.mono fun k hk => Nat.lt_of_lt_of_le hk hst.out.below.size).at' fun k hk => hk))
      have HJD := Lib.hid hd
      have HP := Lib.hid hp
      have hvl : d.val.length ≤ 4096 := okT_val hokd
      clear hE hDk hd hokd
      have hkbl' : (bytesK d.k).length ≤ 264 := hkbl.2
      clear hkbl
      go_wp2_with fail
      refine HKB.out.mono ?_
      intro e W2 hmade
      obtain ⟨v10, rfl, -, hby, hb2⟩ := made_byts hmade
      obtain ⟨Ak, ck, rfl, hk1, hk2, hk3⟩ := id hby
      have HBY := Lib.hid hby
      have HB2 := Lib.hid hb2
      have HK3 := Lib.hid hk3
      clear hmade hby hb2 hk3 HKB p0 p1 p2 p3 hkl
      have etm : Int.tmod (j : Int) (every : Int) = ((j % every : Nat) : Int) := by
        rw [Int.tmod_eq_emod_of_nonneg (by omega)]
        exact (Int.natCast_emod j every).symm
      have ene : ¬ (every : Int) = 0 := by omega
      have hjb : j ≤ 10000 := by omega
      go_upto_if 27 with fail
      go_cut [6, 8, 11] (fun e6 n8 c11 wx => ∃ (A6' : Option Addr) (c6' cnt' cc : Nat) (X6' : List Nat), e6 = .slice A6' X6'.length c6' ∧ n8 = .int .i64 (cnt' : Int) ∧ c11 = .int .i64 (cc : Int) ∧ Mid wr W2 wx every j (bytesK d.k) X5 X6 X7 X6' A6' c6' cnt cnt' cc)
      case first =>
        by_cases hz : j % every = 0
        · have ez : (((j % every : Nat) : Int) == 0) = true := by rw [beq_iff_eq]; omega
          have ez2 : Int.tmod (j : Int) (every : Int) = 0 := by rw [etm, hz]; rfl
          have HZ := Lib.hid hz
          have HLO := Lib.hid (low_any A6 c6 W2.heap.size X5.length 4 X6 W2 ((hst.out.off6.lies.below HB2.out).up HB2.out.size) (by omega) (by omega) (by decide))
          clear hz etm
          go_wp2_with fail
          refine HLO.out.mono ?_
          intro e W3 hmade
          obtain ⟨v6, rfl, -, hby, hb3⟩ := made_byts hmade
          obtain ⟨A6', c6', rfl, q1, q2, q3⟩ := hby
          have HMID : Hid (Mid wr W2 W3 every j (bytesK d.k) X5 X6 X7 (X6 ++ low X5.length 4) A6' c6' cnt (cnt + 1) 0) := Lib.hid ⟨HB2.out.trans (hb3.mono HB2.out.size), hb3, by rw [if_pos HZ.out], by rw [if_pos HZ.out], by unfold pre; rw [if_pos HZ.out], q3, q1, q2⟩
          clear hmade hb3 q1 q2 q3 HLO
          go_wp2_with fail
          go_meet
          exact ⟨A6', c6', cnt + 1, 0, _, by rw [List.length_append], by go_num, rfl, HMID.out⟩
        · have ez : (((j % every : Nat) : Int) == 0) = false := by rw [beq_eq_false_iff_ne]; omega
          have ez2 : ¬ Int.tmod (j : Int) (every : Int) = 0 := by rw [etm]; omega
          have HZ := Lib.hid hz
          have HCO := Lib.hid (common_any A7 Ak wr.heap.size W2.heap.size c7 ck X7 (bytesK d.k) W2 (hst.out.lies7.below HB2.out) HK3.out (by
            rw [hst.out.e7]
            unfold lastK
            cases hg : ((L.map D.t).take j).getLast? with
            | none => simp
            | some t =>
              have hm := List.mem_of_mem_take (List.mem_of_getLast? hg)
              obtain ⟨d', hd', rfl⟩ := List.mem_map.1 hm
              have := (kb_len (HOK.out d' hd')).2
              simp
              omega) (by omega))
          clear hz etm
          go_wp2_with fail
          refine HCO.out.mono ?_
          rintro e W3 ⟨rfl, m, rfl⟩
          have hb3 : Below W2.heap.size W2 (W2.drewN m) := Joins.below_draws _ W2 m
          have HMID : Hid (Mid wr W2 (W2.drewN m) every j (bytesK d.k) X5 X6 X7 X6 A6 c6 cnt cnt (com X7 (bytesK d.k))) := Lib.hid ⟨HB2.out.trans (hb3.mono HB2.out.size), hb3, by rw [if_neg HZ.out, List.append_nil], by rw [if_neg HZ.out]; rfl, by unfold pre; rw [if_neg HZ.out], (((hst.out.off6.lies.below HB2.out).up HB2.out.size).below hb3).up hb3.size, hst.out.h6, hst.out.m6⟩
          clear hb3 HCO
          go_wp2_with fail
          go_meet
          exact ⟨A6, c6, cnt, _, _, rfl, rfl, rfl, HMID.out⟩
      case rest =>
      obtain ⟨A6', c6', cnt', cc, X6', rfl, rfl, rfl, hmid⟩ := hcut
      obtain ⟨W3, hW3⟩ : ∃ W3, W3 = wc := ⟨_, rfl⟩
      rw [← hW3] at hmid ⊢
      clear hW3
      have HMID := Lib.hid hmid
      have hcc : cc ≤ (bytesK d.k).length := by
        rw [hmid.pc]
        exact Nat.le_trans (pre_le _ _ _ _) (com_le _ _).2
      have HP4 := Lib.hid (Vt.putv_calls A5 c5 cc X5 W3 (((Lies.of_own hst.out.own).below hmid.below).up hmid.below.size) (by omega) (by omega))
      clear hmid
      have hsz : ∀ d : D, True := fun _ => trivial
      go_wp2_with fail
      refine HP4.out.mono ?_
      intro e W4 hmade
      obtain ⟨v4, rfl, -, hby, hb4⟩ := made_byts hmade
      obtain ⟨A4, c4, rfl, q1, q2, q3⟩ := hby
      have HB4 := Lib.hid hb4
      obtain ⟨Y4, hY4⟩ : ∃ Y, Y = X5 ++ enc cc := ⟨_, rfl⟩
      rw [← hY4] at q1 q3 ⊢
      have hy4 : Y4.length ≤ 44000010 := by rw [hY4, List.length_append]; have := (enc_len cc).2; omega
      have HY4 := Lib.hid hY4
      have HP5 := Lib.hid (Vt.putv_calls A4 c4 ((bytesK d.k).length - cc) Y4 W4 q3 (by omega) (by omega))
      rw [show (((bytesK d.k).length - cc : Nat) : Int) = ((bytesK d.k).length : Int) - (cc : Int) from by omega] at HP5
      clear hmade hb4 q3 hY4 HP4
      go_wp2_with fail
      refine (show Calls _ _ _ _ _ from HP5.out).mono ?_
      intro e W5 hmade
      obtain ⟨v5, rfl, -, hby, hb5⟩ := made_byts hmade
      obtain ⟨B5, d5, rfl, r1, r2, r3⟩ := hby
      have HB5 := Lib.hid hb5
      obtain ⟨Y5, hY5⟩ : ∃ Y, Y = Y4 ++ enc ((bytesK d.k).length - cc) := ⟨_, rfl⟩
      rw [← hY5] at r1 r3 ⊢
      have hy5 : Y5.length ≤ 44000020 := by rw [hY5, List.length_append]; have := (enc_len ((bytesK d.k).length - cc)).2; omega
      have HY5 := Lib.hid hY5
      have HP6 := Lib.hid (Vt.putv_calls B5 d5 d.val.length Y5 W5 r3 (by omega) (by omega))
      clear hmade hb5 r3 hY5 HP5
      obtain ⟨ad', pp, hA, -, hp', p0, p1, p2, p3⟩ := (H1.out.below (hst.out.below.trans ((HMID.out.below.trans ((HB4.out.trans (HB5.out.mono HB4.out.size)).mono HMID.out.below.size)).mono hst.out.below.size))).place HJD.out
      injection hA with hA
      subst hA
      have epp : p = pp := HP.out.symm.trans hp'
      subst epp
      go_wp2_with fail
      refine HP6.out.mono ?_
      intro e W6 hmade
      obtain ⟨v6, rfl, hown6, hby, hb6⟩ := made_byts hmade
      obtain ⟨B6, d6, rfl, s1, s2, s3⟩ := hby
      have HB6 := Lib.hid hb6
      obtain ⟨Y6, hY6⟩ : ∃ Y, Y = Y5 ++ enc d.val.length := ⟨_, rfl⟩
      rw [← hY6] at hown6 s1 s3 ⊢
      have hy6 : Y6.length ≤ 44000030 := by rw [hY6, List.length_append]; have := (enc_len d.val.length).2; omega
      have hwW6 : Below w.heap.size w W6 := (hst.out.below.trans ((HMID.out.below.trans ((HB4.out.trans ((HB5.out.trans (HB6.out.mono HB5.out.size)).mono HB4.out.size)).mono HMID.out.below.size)).mono hst.out.below.size))
      have hb25 : Below W2.heap.size W2 W5 := HMID.out.bk.trans ((HB4.out.trans (HB5.out.mono HB4.out.size)).mono HMID.out.bk.size)
      have HK6 : Hid (Lies W6 W5.heap.size Ak ((bytesK d.k).map vb)) := Lib.hid (((HK3.out.below hb25).up hb25.size).below HB6.out)
      have HK5 := Lib.hid hb25.size
      obtain ⟨Ac, hAc, -, hcut⟩ := cut_from Ak (bytesK d.k).length ck cc hcc hk1 hk2
      have hwW5 : Below w.heap.size w W5 := hst.out.below.trans ((HMID.out.below.trans ((HB4.out.trans (HB5.out.mono HB4.out.size)).mono HMID.out.below.size)).mono hst.out.below.size)
      have HW5 := Lib.hid hwW5
      have HW6 := Lib.hid hwW6
      have HO6 := Lib.hid hown6
      have HAC := Lib.hid hAc
      have HB35 := Lib.hid (HB4.out.trans (HB5.out.mono HB4.out.size))
      have hcc' : (cc : Int) ≤ ((bytesK d.k).length : Int) := by omega
      have HY6 := Lib.hid hY6
      clear hmade hb6 s3 hwW5 hwW6 hown6 hAc hb25 HP6 p0 p1 p2 p3 hY6
      go_upto_region 15 with fail
      refine wp_region_held_drew (S := fun w' => Hid (Below w.heap.size w w')) (by kernel_rfl) (Lib.hid HW6.out.drew) (fun hS => ?_)
      refine wpAnyH_take (i := 0) (v := ?_) rfl (by kernel_rfl) (by kernel_rfl) (by kernel_rfl) (fun _ _ _ h => h) (Or.inl ⟨by rfl, ?_⟩) hS ?_
      rotate_left
      · intro w hw
        go_simp
        try with_reducible rfl
      try simp only [Act.put, List.getElem_toArray, List.getElem_cons_succ, List.getElem_cons_zero, List.setIfInBounds_toArray, List.set_cons_zero, List.set_cons_succ]
      refine wpAnyH_take (i := 1) (v := ?_) rfl (by kernel_rfl) (by kernel_rfl) (by kernel_rfl) (fun _ _ _ h => h) (Or.inl ⟨by rfl, ?_⟩) hS ?_
      rotate_left
      · intro w hw
        go_simp
        try with_reducible rfl
      try simp only [Act.put, List.getElem_toArray, List.getElem_cons_succ, List.getElem_cons_zero, List.setIfInBounds_toArray, List.set_cons_zero, List.set_cons_succ]
      refine wpAnyH_take (i := 2) (v := ?_) rfl (by kernel_rfl) (by kernel_rfl) (by kernel_rfl) (fun _ _ _ h => h) (Or.inl ⟨by rfl, ?_⟩) hS ?_
      rotate_left
      · intro w hw
        go_simp
        try with_reducible rfl
      try simp only [Act.put, List.getElem_toArray, List.getElem_cons_succ, List.getElem_cons_zero, List.setIfInBounds_toArray, List.set_cons_zero, List.set_cons_succ]
      refine wpAnyH_take (i := 3) (v := ?_) rfl (by kernel_rfl) (by kernel_rfl) (by kernel_rfl) (fun _ _ _ h => h) (Or.inl ⟨by rfl, ?_⟩) hS ?_
      rotate_left
      · intro w hw
        go_simp
        try with_reducible rfl
      try simp only [Act.put, List.getElem_toArray, List.getElem_cons_succ, List.getElem_cons_zero, List.setIfInBounds_toArray, List.set_cons_zero, List.set_cons_succ]
      refine wpAnyH_take (i := 5) (v := ?_) rfl (by kernel_rfl) (by kernel_rfl) (by kernel_rfl) (fun _ _ _ h => h) (Or.inl ⟨by rfl, ?_⟩) hS ?_
      rotate_left
      · intro w hw
        go_simp
        try with_reducible rfl
      try simp only [Act.put, List.getElem_toArray, List.getElem_cons_succ, List.getElem_cons_zero, List.setIfInBounds_toArray, List.set_cons_zero, List.set_cons_succ]
      refine wpAnyH_take (i := 6) (v := ?_) rfl (by kernel_rfl) (by kernel_rfl) (by kernel_rfl) (fun _ _ _ h => h) (Or.inl ⟨by rfl, ?_⟩) hS ?_
      rotate_left
      · intro w hw
        go_simp
        try with_reducible rfl
      try simp only [Act.put, List.getElem_toArray, List.getElem_cons_succ, List.getElem_cons_zero, List.setIfInBounds_toArray, List.set_cons_zero, List.set_cons_succ]
      refine wpAnyH_take (i := 7) (v := ?_) rfl (by kernel_rfl) (by kernel_rfl) (by kernel_rfl) (fun _ _ _ h => h) (Or.inl ⟨by rfl, ?_⟩) hS ?_
      rotate_left
      · intro w hw
        have hpp := HP.out
        go_simp
        try with_reducible rfl
      try simp only [Act.put, List.getElem_toArray, List.getElem_cons_succ, List.getElem_cons_zero, List.setIfInBounds_toArray, List.set_cons_zero, List.set_cons_succ]
      refine wpAnyH_take (i := 8) (v := ?_) rfl (by kernel_rfl) (by kernel_rfl) (by kernel_rfl) (fun _ _ _ h => h) (Or.inl ⟨by rfl, ?_⟩) hS ?_
      rotate_left
      · intro w hw
        go_simp
        try with_reducible rfl
      try simp only [Act.put, List.getElem_toArray, List.getElem_cons_succ, List.getElem_cons_zero, List.setIfInBounds_toArray, List.set_cons_zero, List.set_cons_succ]
      refine wpAnyH_take (i := 9) (v := ?_) rfl (by kernel_rfl) (by kernel_rfl) (by kernel_rfl) (fun _ _ _ h => h) (Or.inl ⟨by rfl, ?_⟩) hS ?_
      rotate_left
      · intro w hw
        obtain ⟨ad', pp, hA, -, hp', p0, p1, p2, p3⟩ := (H1.out.below hw.out).place HJD.out
        injection hA with hA
        subst hA
        obtain rfl : pp = p := hp'.symm.trans HP.out
        go_simp
        try with_reducible rfl
      try simp only [Act.put, List.getElem_toArray, List.getElem_cons_succ, List.getElem_cons_zero, List.setIfInBounds_toArray, List.set_cons_zero, List.set_cons_succ]
      have HO6' : Hid (W6.drew.ownsRow W5.heap.size 5 1 (.slice B6 Y6.length d6) Y6.length (Y6.map vb)) := Lib.hid HO6.out
      have HK6' : Hid (Lies W6.drew W5.heap.size Ak ((bytesK d.k).map vb)) := Lib.hid (HK6.out.below (Below.refl _ _).drew)
      have HW6' : Hid (Below w.heap.size w W6.drew) := Lib.hid HW6.out.drew
      have HB6' : Hid (Below W5.heap.size W5 W6.drew) := Lib.hid HB6.out.drew
      generalize W6.drew = V6 at hS HO6' HK6' HW6' HB6' ⊢
      have hkl6 : Lies V6 W5.heap.size Ac (((bytesK d.k).drop cc).map vb) := Lies.cut HK6'.out (fun h => HAC.out (by rw [List.length_drop] at h; exact h)) (List.prefix_refl _)
      obtain ⟨v7, W7, hr7, hown7, hon7⟩ := append_bytes (c := ck - cc) HO6'.out hkl6 (by rw [List.length_drop]; omega) HB6'.out.size
      rw [List.length_drop] at hr7
      have hb7 := hon7.below HO6'.out HB6'.out.size
      obtain ⟨Y7, hY7⟩ : ∃ Y, Y = Y6 ++ (bytesK d.k).drop cc := ⟨_, rfl⟩
      rw [← hY7] at hown7
      have hy7 : Y7.length ≤ 44000294 := by rw [hY7, List.length_append, List.length_drop]; omega
      have hwW7 : Below w.heap.size w W7 := HW6'.out.trans (hb7.mono HW5.out.size)
      have hval : Lies W7 w.heap.size d.va (d.val.map vb) := (HDK.out.vl.lies fun k hk => hk).below hwW7
      obtain ⟨v8, W8, hr8, hown8, hon8⟩ := append_bytes (c := d.vc) hown7 hval (by omega) (Nat.le_trans HB6'.out.size hb7.size)
      have hb8 := hon8.below hown7 (Nat.le_trans HB6'.out.size hb7.size)
      obtain ⟨Y8, hY8⟩ : ∃ Y, Y = Y7 ++ d.val := ⟨_, rfl⟩
      rw [← hY8] at hown8
      obtain ⟨B8, d8, rfl, -, -, -⟩ := own_parts hown8
      obtain ⟨B7, d7, rfl, -, -, -⟩ := own_parts hown7
      have e8 : Y8 = X5 ++ one cc d.t := by
        rw [hY8, hY7, HY6.out, HY5.out, HY4.out]
        unfold one
        simp [D.t]
      have h58 : Below W5.heap.size W5 W8 := HB6'.out.trans ((hb7.trans hb8))
      have HST8 : Hid (St w W8 L every (j + 1) B8 A6' Ak d8 c6' ck cnt' Y8 X6' (bytesK d.k)) := Lib.hid (St.next hst.out HJD.out HMID.out HB35.out h58 hown8 e8 (((HK6'.out.below hb7).below hb8).up h58.size) hk1 hk2)
      have HR7 := Lib.hid hr7
      have HR8 := Lib.hid hr8
      have HV7 := Lib.hid hwW7
      have HV8 := Lib.hid HST8.out.below
      clear hkl6 hr7 hown7 hon7 hb7 hY7 hwW7 hval hr8 hown8 hon8 hb8 hY8 e8 h58
      refine wpAnyH_ready (rs := [4]) (by kernel_rfl) (by simp) ?_
      refine (AllReadyH.cons rfl (fun K hK => ?_) AllReadyH.nil)
      refine held_append rfl _ _ 25 rfl rfl rfl HR7.out ?_
      refine hK.out _ _ HV7 (fun hS => ?_)
      clear hK K
      try simp only [Act.put, List.getElem_toArray, List.getElem_cons_succ, List.getElem_cons_zero, List.setIfInBounds_toArray, List.set_cons_zero, List.set_cons_succ]
      refine wpAnyH_ready (rs := [10]) (by kernel_rfl) (by simp) ?_
      refine (AllReadyH.cons rfl (fun K hK => ?_) AllReadyH.nil)
      refine held_append rfl _ _ 25 rfl rfl rfl HR8.out ?_
      refine hK.out _ _ HV8 (fun hS => ?_)
      clear hK K
      try simp only [Act.put, List.getElem_toArray, List.getElem_cons_succ, List.getElem_cons_zero, List.setIfInBounds_toArray, List.set_cons_zero, List.set_cons_succ]
      refine wpAnyH_take (i := 11) (v := ?_) rfl (by kernel_rfl) (by kernel_rfl) (by kernel_rfl) (fun _ _ _ h => h) (Or.inl ⟨by rfl, ?_⟩) hS ?_
      rotate_left
      · intro w hw
        go_simp
        try with_reducible rfl
      try simp only [Act.put, List.getElem_toArray, List.getElem_cons_succ, List.getElem_cons_zero, List.setIfInBounds_toArray, List.set_cons_zero, List.set_cons_succ]
      refine wpAnyH_done (by kernel_rfl) ?_ _
      go_wp2_with fail
      go_roundw
      case rel => exact ⟨j + 1, B8, A6', Ak, d8, c6', ck, cnt', Y8, X6', bytesK d.k, by omega, rfl, rfl, rfl, rfl, by go_num, HST8⟩
      case measure => simp [intOf]; omega
    · obtain rfl : j = L.length := by omega
      have ht : (L.map D.t).take L.length = L.map D.t := List.take_of_length_le (by rw [List.length_map]; exact Nat.le_refl _)
      obtain ⟨v7, W7, hr7, hown7, hon7⟩ := append_bytes (c := c6) hst.out.own hst.out.off6.lies (by omega) hst.out.below.size
      have hb7 := hon7.below hst.out.own hst.out.below.size
      obtain ⟨Y7, hY7⟩ : ∃ Y, Y = X5 ++ X6 := ⟨_, rfl⟩
      rw [← hY7] at hown7
      have hy7 : Y7.length ≤ 44040000 := by rw [hY7, List.length_append]; omega
      obtain ⟨B7, d7, rfl, s1, s2, s3⟩ := own_parts hown7
      have HLO := Lib.hid (low_any B7 d7 W7.heap.size cnt 4 Y7 W7 s3 (by omega) (by omega) (by decide))
      have HW7 := Lib.hid (hst.out.below.trans hb7)
      have HR7 := Lib.hid hr7
      have HY7 := Lib.hid hY7
      have HT := Lib.hid ht
      clear hr7 hown7 hon7 hb7 s3 hY7 ht
      go_wp2_with (at_builtin; refine wpList_append_run rfl _ _ 25 rfl rfl rfl HR7.out ?_)
      refine HLO.out.mono ?_
      intro e W8 hmade
      obtain ⟨v8, rfl, hown8, hby, hb8⟩ := made_byts hmade
      obtain ⟨B8, d8, rfl, r1, r2, r3⟩ := hby
      have hbare : Y7 ++ low cnt 4 = bare every (L.map D.t) := by
        unfold bare foot
        rw [HY7.out, hst.out.e5, hst.out.e6, hst.out.ec, HT.out, List.append_assoc]
      rw [hbare] at hown8 r1 r3 ⊢
      have hbl : (bare every (L.map D.t)).length ≤ 44040004 := by rw [← hbare, List.length_append, low_length]; omega
      have h8 : ∀ x, x ∈ bare every (L.map D.t) → x < 256 := by
        intro x hx
        unfold bare foot at hx
        rcases List.mem_append.1 hx with h | h
        · refine body_byte every (L.map D.t) 0 [] (fun t ht => ?_) x h
          obtain ⟨d, hd, rfl⟩ := List.mem_map.1 ht
          exact ⟨HOK.out d hd, (H1.out.ok d hd).ok, (H1.out.ok d hd).v8⟩
        · rcases List.mem_append.1 h with h | h
          · exact flat4_byte _ x h
          · exact low_byte _ _ x h
      have HMK := Lib.hid (masked_any B8 d8 W8.heap.size _ W8 r3 r1 r2 h8)
      have HW8 := Lib.hid (HW7.out.trans (hb8.mono HW7.out.size))
      have HO8 := Lib.hid (own_lower hown8 HW7.out.size)
      have HBL := Lib.hid hbl
      clear hmade hb8 hown8 r1 r2 r3 h8 hbare hbl HLO HR7 HY7
      generalize hbb : bare every (L.map D.t) = bb at HMK HO8 HBL ⊢
      have HBB := Lib.hid hbb
      clear hbb
      go_wp2_with fail
      refine HMK.out.mono ?_
      intro e W9 hmade
      obtain ⟨v9, rfl, -, hby, hb9⟩ := made_byts hmade
      obtain ⟨B9, d9, rfl, r1, r2, r3⟩ := hby
      obtain ⟨v10, W10, hr10, hown10, hon10⟩ := append_bytes (c := d9) (own_later HO8.out hb9) r3 (by rw [sum4_len]; have := HBL.out; omega) (Nat.le_trans HW8.out.size hb9.size)
      have hb10 := hon10.below (own_later HO8.out hb9) (Nat.le_trans HW8.out.size hb9.size)
      have HR10 := Lib.hid hr10
      have HO10 := Lib.hid hown10
      have HB10 := Lib.hid ((HW8.out.trans (hb9.mono HW8.out.size)).trans hb10)
      obtain ⟨B10, d10, hv10, -, -, -⟩ := own_parts hown10
      subst hv10
      clear hmade hb9 r1 r2 r3 hr10 hown10 hon10 hb10 HMK
      go_wp2_with (at_builtin; refine wpList_append_run rfl _ _ 25 rfl rfl rfl HR10.out ?_)
      go_ret
      have e : blk every (L.map D.t) = bb ++ sum4 bb := by unfold blk; rw [HBB.out]
      rw [e]
      exact ⟨.slice B10 (bb ++ sum4 bb).length d10, by rw [List.length_append]; rfl, HO10.out, HB10.out⟩
end Go.Proofs.Ytobjiamdljjkjaa.Bk
