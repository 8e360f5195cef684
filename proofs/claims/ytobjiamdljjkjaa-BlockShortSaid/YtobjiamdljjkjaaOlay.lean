/- Package block: entries, laid one behind the other: what lay and Build answer. -/
import Derived.Test.YtobjiamdljjkjaaOent
import Derived.Test.YtobjiamdljjkjaaOchk
import Derived.Deep.DeepCutAuto
namespace Go.Proofs.Ytobjiamdljjkjaa.Bk
set_option linter.unusedVariables false
set_option linter.unusedSimpArgs false
open Go.RowKit Lift Ik Sk Vn
abbrev vn (c : Nat) : Value := .int .i64 (c : Int)
theorem append_num {w : World} {base : Nat} {v : Value} {xs : List Nat} (x : Nat) (hown : w.ownsRow base 3 1 v xs.length (xs.map vn)) (hn : xs.length ≤ 20000000) (hbase : base ≤ w.heap.size) :
    ∃ v' w', Sem.run Try.prog (Builtin.append_ #[41, 41] 41 #[v, .slice (some ⟨w.heap.size, 0, none⟩) 1 1]) (w.alloc (.cells #[.int .i64 (x : Int)] 3)) = .ok v' w' ∧ w'.ownsRow base 3 1 v' (xs ++ [x]).length ((xs ++ [x]).map vn) ∧ Onto v v' w w' := by
  have hb := Joins.below_alloc1 w (.cells #[.int .i64 (x : Int)] 3)
  have hl : Lies (w.alloc (.cells #[.int .i64 (x : Int)] 3)) (w.heap.size + 1) (some ⟨w.heap.size, 0, none⟩) ([x].map vn) :=
    lies_block (cs := #[vn x]) (heap_alloc_new w _) (Nat.lt_succ_self _)
  obtain ⟨v', w', h1, h2, h3⟩ := run_append_onto (P := Try.prog) (m := 1) (c := 1) 41 41 3 (.int .i64 0) 1 8 Try.underlying41 (by kernel_rfl) rfl (by decide)
      (fun u hu => by simp at hu; subst hu; rfl) (own_later hown hb) hl rfl (by unfold maxLen; omega) (by omega) (Nat.le_trans hbase hb.size)
  exact ⟨v', w', h1, by rw [List.length_append, List.map_append]; exact h2, Onto.pre hb h3⟩
theorem nums_at {w : World} {ad : Addr} {bs : List Nat} (h : ∀ (j : Nat) (u : Value), (bs.map vn)[j]? = some u → w.cell? (ad.add j) = some u) : ∀ (j n : Nat), bs[j]? = some n → w.cell? (ad.add j) = some (.int .i64 (n : Int)) :=
  fun j n hn => h j _ (by rw [List.getElem?_map, hn]; rfl)
/-- What lies in memory behind some entries. -/
structure Ly (w wr : World) (L : List D) (every j : Nat) (v5 v7 : Value) (A6 : Option Addr) (c6 : Nat) (X5 X6 E : List Nat) : Prop where
  e5 : X5 = body every 0 [] ((L.map D.t).take j)
  e6 : X6 = lastK [] ((L.map D.t).take j)
  e7 : E = ends every 0 [] 0 ((L.map D.t).take j)
  below : Below w.heap.size w wr
  own5 : wr.ownsRow w.heap.size 5 1 v5 X5.length (X5.map vb)
  own7 : wr.ownsRow w.heap.size 3 1 v7 E.length (E.map vn)
  off6 : Off v5 wr A6 (X6.map vb)
  h6 : X6.length ≤ c6
  m6 : c6 ≤ maxLen
/-- In the middle of an entry: restarts and the last key. -/
structure Lm (w w2 wx : World) (every j : Nat) (v5 v7 v7' : Value) (A6 : Option Addr) (c6 : Nat) (X5 X6 E X6' E' : List Nat) : Prop where
  on : Onto v7 v7' w2 wx
  e6 : X6' = if j % every = 0 then [] else X6
  e7 : E' = E ++ if j % every = 0 then [X5.length] else []
  own7 : wx.ownsRow w.heap.size 3 1 v7' E'.length (E'.map vn)
  off6 : Off v5 wx A6 (X6'.map vb)
  h6 : X6'.length ≤ c6
  m6 : c6 ≤ maxLen
theorem Lm.com {w w2 wx : World} {every j : Nat} {v5 v7 v7' : Value} {A6 : Option Addr} {c6 : Nat} {X5 X6 E X6' E' kb : List Nat} (h : Lm w w2 wx every j v5 v7 v7' A6 c6 X5 X6 E X6' E') : com X6' kb = pre every j X6 kb := by
  rw [h.e6]
  unfold pre
  by_cases hz : j % every = 0
  · rw [if_pos hz, if_pos hz]
    cases kb <;> rfl
  · rw [if_neg hz, if_neg hz]
theorem Ly.next {w wr w2 wx w5 : World} {L : List D} {d : D} {every j : Nat} {v5 v7 v7' v5' : Value} {A6 A6' Ak : Option Addr} {c6 c6' ck : Nat} {X5 X6 E X6' E' X5' : List Nat} (h : Ly w wr L every j v5 v7 A6 c6 X5 X6 E) (hd : L[j]? = some d)
    (h2 : Below wr.heap.size wr w2) (hm : Lm w w2 wx every j v5 v7 v7' A6' c6' X5 X6 E X6' E') (ho : w5.ownsRow w.heap.size 5 1 v5' X5'.length (X5'.map vb)) (on : Onto v5 v5' wx w5) (e5 : X5' = X5 ++ one (com X6' (bytesK d.k)) d.t)
    (hk : Off v5' w5 Ak ((bytesK d.k).map vb)) (hk1 : (bytesK d.k).length ≤ ck) (hk2 : ck ≤ maxLen) (h5x : wx.ownsRow w.heap.size 5 1 v5 X5.length (X5.map vb)) : Ly w w5 L every (j + 1) v5' v7' Ak ck X5' (bytesK d.k) E' := by
  have hj := (List.getElem?_eq_some_iff.1 hd).1
  have htk : (L.map D.t).take (j + 1) = (L.map D.t).take j ++ [d.t] := by rw [List.take_add_one, List.getElem?_map, hd]; rfl
  have hlen : ((L.map D.t).take j).length = j := by rw [List.length_take, List.length_map]; omega
  have hw2 : Below w.heap.size w w2 := h.below.trans (h2.mono h.below.size)
  have hwx : Below w.heap.size w wx := hw2.trans (hm.on.below (own_later h.own7 h2) hw2.size)
  have hw5 : Below w.heap.size w w5 := hwx.trans (on.below h5x hwx.size)
  refine ⟨?_, ?_, ?_, hw5, ho, ?_, hk, hk1, hk2⟩
  · rw [htk, body_snoc, hlen, Nat.zero_add, ← h.e5, ← h.e6, e5, hm.com]
    rfl
  · rw [htk, lastK_snoc]
    rfl
  · rw [htk, ends_snoc, hlen, Nat.zero_add, ← h.e7, ← h.e5, hm.e7, Nat.zero_add]
  · exact own_kept hm.own7 on.keep fun k hk => own_two hm.own7 h5x (by decide) hk
theorem _root_.Go.Proofs.Ytobjiamdljjkjaa.Lift.Off.kept {w w' : World} {v : Value} {A : Option Addr} {xs : List Value} (h : Off v w A xs) (hk' : Keep (fun k => v.ownBlock = some k) w w') : Off v w' A xs :=
  LiesP.later h (fun k hk => hk'.block k hk.1 hk.2) fun k hk => ⟨Nat.lt_of_lt_of_le hk.1 hk'.size, hk.2⟩
set_option maxRecDepth 1000000 in
set_option maxHeartbeats 3200000 in
theorem olay_any (A : Option Addr) (c : Nat) (L : List D) (ev : Int) (w : World) (h1 : Ents w (· < w.heap.size) A c L) (hok : ∀ d, d ∈ L → okT d.t = true) (hn : L.length ≤ 10000) :
    Calls Try.prog 31 #[.slice A L.length c, .int .i64 ev] w (Made w.heap.size w (bare (clamp ev) (L.map D.t))) := by
  obtain ⟨every, hev⟩ : ∃ every, every = clamp ev := ⟨_, rfl⟩
  obtain ⟨he1, he2⟩ := clamp_in ev
  have hce : min (max ev 1) 100 = (every : Int) := by rw [hev]; unfold clamp; omega
  rw [← hev] at he1 he2 ⊢
  have H1 := Lib.hid h1
  have HOK := Lib.hid hok
  have hc1 := h1.len
  have hm1 := h1.cap
  unfold maxLen at hm1
  have HBMAX : Hid (∀ j, (body every 0 [] ((L.map D.t).take j)).length ≤ 44000000) := Lib.hid fun j => by
    refine Nat.le_trans (body_max every _ 0 [] fun t ht => ?_) ?_
    · obtain ⟨d, hd, rfl⟩ := List.mem_map.1 (List.mem_of_mem_take ht)
      exact hok d hd
    · have : ((L.map D.t).take j).length ≤ 10000 := by rw [List.length_take, List.length_map]; omega
      omega
  have HEMAX : Hid (∀ j, (ends every 0 [] 0 ((L.map D.t).take j)).length ≤ 10000) := Lib.hid fun j => by
    refine Nat.le_trans (ends_le every _ 0 [] 0) ?_
    rw [List.length_take, List.length_map]
    omega
  clear h1 hok hev
  go_enter Try.func31, Try.ntmps31
  go_wp2_with fail
  go_loopw [5, 6, 7, 18] (fun b5 b6 b7 i wr => ∃ (j : Nat) (A5 A6 A7 : Option Addr) (c5 c6 c7 : Nat) (X5 X6 E : List Nat), j ≤ L.length ∧ b5 = .slice A5 X5.length c5 ∧ b6 = .slice A6 X6.length c6 ∧ b7 = .slice A7 E.length c7 ∧ i = .int .i64 (j : Int) ∧
    Hid (Ly w wr L every j (.slice A5 X5.length c5) (.slice A7 E.length c7) A6 c6 X5 X6 E)) (fun _ _ _ i _ => L.length + 1 - (intOf i).toNat)
  case atStart => exact ⟨0, none, none, none, 0, 0, 0, [], [], [], Nat.zero_le _, rfl, rfl, rfl, rfl, Lib.hid ⟨rfl, rfl, rfl, Below.refl _ _, World.ownsRow_nil _ _ _ _, World.ownsRow_nil _ _ _ _, .inl rfl, Nat.le_refl _, by decide⟩⟩
  case round =>
    obtain ⟨j, A5, A6, A7, c5, c6, c7, X5, X6, E, hj, rfl, rfl, rfl, rfl, hst⟩ := hrel
    have hx5 : X5.length ≤ 44000000 := by rw [hst.out.e5]; exact HBMAX.out j
    have hxE : E.length ≤ 10000 := by rw [hst.out.e7]; exact HEMAX.out j
    have hc5 : X5.length ≤ c5 ∧ c5 ≤ maxLen := by
      obtain ⟨_, _, e, q1, q2, _⟩ := own_parts hst.out.own5
      injection e with _ _ e
      subst e
      exact ⟨q1, q2⟩
    have hc7 : E.length ≤ c7 ∧ c7 ≤ maxLen := by
      obtain ⟨_, _, e, q1, q2, _⟩ := own_parts hst.out.own7
      injection e with _ _ e
      subst e
      exact ⟨q1, q2⟩
    by_cases hlt : j < L.length
    · obtain ⟨d, hd⟩ : ∃ d, L[j]? = some d := ⟨_, List.getElem?_eq_getElem hlt⟩
      have hE := H1.out.below hst.out.below
      obtain ⟨ad, p, hA, -, hp, p0, p1, p2, p3⟩ := hE.place hd
      subst hA
      have hld := D.load p0 p1 p2 p3
      have hbx := below_box wr d
      obtain ⟨x0, x1, x2, x3, -, -, -, -⟩ := (Bx.new wr d).facts
      have hkl := KD.load (p := ⟨wr.heap.size, 0, none⟩) (d := ⟨d.ka, d.kc, d.k⟩) x0 x1 x2
      have hDk := ((hE.ok d (List.mem_of_getElem? hd)).mono fun k hk => Nat.lt_of_lt_of_le hk hst.out.below.size).next hbx
      have hokd := HOK.out d (List.mem_of_getElem? hd)
      have hkbl := kb_len hokd
      have HDK := Lib.hid (H1.out.ok d (List.mem_of_getElem? hd))
      have HKB := Lib.hid (bytes_any d.ka d.kc d.k (wr.alloc (ebox d)) (hDk.at' fun k hk => hk))
      have HJD := Lib.hid hd
      have hvl : d.val.length ≤ 4096 := okT_val hokd
      have HX0 := Lib.hid (Bx.new wr d)
      have HBX := Lib.hid hbx
      clear hE hDk hd hokd hbx
      have hkbl' : (bytesK d.k).length ≤ 264 := hkbl.2
      clear hkbl
      obtain ⟨g, hg⟩ : ∃ g, g = wr.heap.size := ⟨_, rfl⟩
      go_wp2_with fail
      refine HKB.out.mono ?_
      intro e W2 hmade
      obtain ⟨v10, rfl, hownk, hby, hb2⟩ := made_byts hmade
      obtain ⟨Ak, ck, rfl, hk1, hk2, -⟩ := id hby
      have HB2 := Lib.hid (HBX.out.trans (hb2.mono HBX.out.size))
      have HBA := Lib.hid hb2
      have HOWK := Lib.hid hownk
      have HX2 : Hid (Bx W2 wr.heap.size d) := Lib.hid (HX0.out.below hb2 HX0.out.lt)
      clear hmade hby hb2 hownk HKB p0 p1 p2 p3 hkl hld x0 x1 x2 x3 HX0
      have etm : Int.tmod (j : Int) (every : Int) = ((j % every : Nat) : Int) := by
        rw [Int.tmod_eq_emod_of_nonneg (by omega)]
        exact (Int.natCast_emod j every).symm
      have ene : ¬ (every : Int) = 0 := by omega
      have hjb : j ≤ 10000 := by omega
      go_upto_if 29 with fail
      go_cut [6, 7] (fun e6 e7 wx => ∃ (A6' A7' : Option Addr) (c6' c7' : Nat) (X6' E' : List Nat), e6 = .slice A6' X6'.length c6' ∧ e7 = .slice A7' E'.length c7' ∧ Lm w W2 wx every j (.slice A5 X5.length c5) (.slice A7 E.length c7) (.slice A7' E'.length c7') A6' c6' X5 X6 E X6' E')
      case first =>
        by_cases hz : j % every = 0
        · have ez : (((j % every : Nat) : Int) == 0) = true := by rw [beq_iff_eq]; omega
          have ez2 : Int.tmod (j : Int) (every : Int) = 0 := by rw [etm, hz]; rfl
          have HZ := Lib.hid hz
          obtain ⟨v', W3, hr, ho3, on3⟩ := append_num X5.length (own_later hst.out.own7 HB2.out) (by omega) (Nat.le_trans hst.out.below.size HB2.out.size)
          obtain ⟨A7', c7', rfl, q1, q2, -⟩ := own_parts ho3
          have HMID : Hid (Lm w W2 W3 every j (.slice A5 X5.length c5) (.slice A7 E.length c7) (.slice A7' (E ++ [X5.length]).length c7') none 0 X5 X6 E [] (E ++ [X5.length])) := Lib.hid ⟨on3, by rw [if_pos HZ.out], by rw [if_pos HZ.out], ho3, .inl rfl, Nat.le_refl _, by decide⟩
          have HR := Lib.hid hr
          clear hz etm ho3 on3 hr
          go_wp2_with (at_builtin; refine wpList_append_run rfl _ _ 41 rfl rfl rfl HR.out ?_)
          go_meet
          exact ⟨none, A7', 0, c7', [], E ++ [X5.length], rfl, by first | rfl | simp, HMID.out⟩
        · have ez : (((j % every : Nat) : Int) == 0) = false := by rw [beq_eq_false_iff_ne]; omega
          have ez2 : ¬ Int.tmod (j : Int) (every : Int) = 0 := by rw [etm]; omega
          have HZ := Lib.hid hz
          have HMID : Hid (Lm w W2 W2 every j (.slice A5 X5.length c5) (.slice A7 E.length c7) (.slice A7 E.length c7) A6 c6 X5 X6 E X6 E) := Lib.hid ⟨Onto.refl _ _, by rw [if_neg HZ.out], by rw [if_neg HZ.out, List.append_nil], own_later hst.out.own7 HB2.out, hst.out.off6.later HB2.out, hst.out.h6, hst.out.m6⟩
          clear hz etm
          go_wp2_with fail
          go_meet
          exact ⟨A6, A7, c6, c7, X6, E, rfl, rfl, HMID.out⟩
      case rest =>
      obtain ⟨A6', A7', c6', c7', X6', E', rfl, rfl, hmid⟩ := hcut
      obtain ⟨W3, hW3⟩ : ∃ W3, W3 = wc := ⟨_, rfl⟩
      rw [← hW3] at hmid ⊢
      clear hW3
      have HMID := Lib.hid hmid
      have h5x : W3.ownsRow w.heap.size 5 1 (.slice A5 X5.length c5) X5.length (X5.map vb) := own_kept (own_later hst.out.own5 HB2.out) hmid.on.keep fun k hk => own_two (own_later hst.out.own5 HB2.out) (own_later hst.out.own7 HB2.out) (by decide) hk
      have hkx := own_kept HOWK.out hmid.on.keep fun k hk => own_two HOWK.out (own_later hst.out.own7 HB2.out) (by decide) hk
      have hoffk : Off (.slice A5 X5.length c5) W3 Ak ((bytesK d.k).map vb) := LiesP.later (LiesP.of_own hkx) (fun _ _ => rfl) fun k hk => ⟨hk.2.1, fun he => by
        have h1 := (hst.out.own5.lt k he).2
        have h2 := hk.1
        have h3 := HBX.out.size
        omega⟩
      have hxx : Bx W3 wr.heap.size d := HX2.out.keep hmid.on.keep (own_apart (own_later hst.out.own7 HB2.out) HX2.out (by decide))
      have hxn : ¬ (Value.slice A5 X5.length c5).ownBlock = some wr.heap.size := own_apart h5x hxx (by decide)
      have hvx : Off (.slice A5 X5.length c5) W3 d.va (d.val.map vb) := by
        have hw3 : Below w.heap.size w W3 := (hst.out.below.trans (HB2.out.mono hst.out.below.size)).trans (hmid.on.below (own_later hst.out.own7 HB2.out) (Nat.le_trans hst.out.below.size HB2.out.size))
        exact Off.old ((HDK.out.vl.lies fun k hk => hk).below hw3) hw3.size h5x
      have hw3s : w.heap.size ≤ W3.heap.size := Nat.le_trans hst.out.below.size (Nat.le_trans HB2.out.size hmid.on.keep.size)
      have hx6 : X6'.length ≤ 1000000 := by
        rw [hmid.e6]
        split
        · simp
        · rw [hst.out.e6]
          unfold lastK
          cases hg : ((L.map D.t).take j).getLast? with
          | none => simp
          | some t =>
            have hm := List.mem_of_mem_take (List.mem_of_getLast? hg)
            obtain ⟨d', hd', rfl⟩ := List.mem_map.1 hm
            have := (kb_len (HOK.out d' hd')).2
            simp
            omega
      have H5X := Lib.hid h5x
      have HOFK := Lib.hid hoffk
      have HXX := Lib.hid hxx
      have HXN := Lib.hid hxn
      have HVX := Lib.hid hvx
      have HW3S := Lib.hid hw3s
      have hvc := HDK.out.vc
      have hvm := HDK.out.vm
      have HVM := Lib.hid hvm
      unfold maxLen at hvm
      clear hmid h5x hkx hoffk hxx hxn hvx hw3s
      go_upto_region 11 with fail
      refine wp_region_held_drew (S := fun w' => Hid (Keep (fun k => (Value.slice A5 X5.length c5).ownBlock = some k) W3 w')) (by kernel_rfl) (Lib.hid (Keep.refl _ _).drew) (fun hS => ?_)
      refine wpAnyH_take (i := 0) (v := ?_) rfl (by kernel_rfl) (by kernel_rfl) (by kernel_rfl) (fun _ _ _ h => h) (Or.inl ⟨by rfl, ?_⟩) hS ?_
      rotate_left
      · intro w hw
        go_simp
        try with_reducible rfl
      try simp only [Act.put, List.getElem_toArray, List.getElem_cons_succ, List.getElem_cons_zero, List.setIfInBounds_toArray, List.set_cons_zero, List.set_cons_succ]
      refine wpAnyH_take (i := 1) (v := ?_) rfl (by kernel_rfl) (by kernel_rfl) (by kernel_rfl) (fun _ _ _ h => h) (Or.inl ⟨by rfl, ?_⟩) hS ?_
      rotate_left
      · intro w hw
        go_simp
        try with_reducible rfl
      try simp only [Act.put, List.getElem_toArray, List.getElem_cons_succ, List.getElem_cons_zero, List.setIfInBounds_toArray, List.set_cons_zero, List.set_cons_succ]
      refine wpAnyH_take (i := 2) (v := ?_) rfl (by kernel_rfl) (by kernel_rfl) (by kernel_rfl) (fun _ _ _ h => h) (Or.inl ⟨by rfl, ?_⟩) hS ?_
      rotate_left
      · intro w hw
        go_simp
        try with_reducible rfl
      try simp only [Act.put, List.getElem_toArray, List.getElem_cons_succ, List.getElem_cons_zero, List.setIfInBounds_toArray, List.set_cons_zero, List.set_cons_succ]
      refine wpAnyH_take (i := 4) (v := ?_) rfl (by kernel_rfl) (by kernel_rfl) (by kernel_rfl) (fun _ _ _ h => h) (Or.inl ⟨by rfl, ?_⟩) hS ?_
      rotate_left
      · intro w hw
        go_simp
        try with_reducible rfl
      try simp only [Act.put, List.getElem_toArray, List.getElem_cons_succ, List.getElem_cons_zero, List.setIfInBounds_toArray, List.set_cons_zero, List.set_cons_succ]
      refine wpAnyH_take (i := 5) (v := ?_) rfl (by kernel_rfl) (by kernel_rfl) (by kernel_rfl) (fun _ _ _ h => h) (Or.inl ⟨by rfl, ?_⟩) hS ?_
      rotate_left
      · intro w hw
        go_simp
        try with_reducible rfl
      try simp only [Act.put, List.getElem_toArray, List.getElem_cons_succ, List.getElem_cons_zero, List.setIfInBounds_toArray, List.set_cons_zero, List.set_cons_succ]
      refine wpAnyH_take (i := 6) (v := ?_) rfl (by kernel_rfl) (by kernel_rfl) (by kernel_rfl) (fun _ _ _ h => h) (Or.inl ⟨by rfl, ?_⟩) hS ?_
      rotate_left
      · intro w hw
        obtain ⟨x0, x1, x2, x3, -, -, -, -⟩ := Bx.facts (HXX.out.keep hw.out HXN.out)
        go_simp
        try with_reducible rfl
      try simp only [Act.put, List.getElem_toArray, List.getElem_cons_succ, List.getElem_cons_zero, List.setIfInBounds_toArray, List.set_cons_zero, List.set_cons_succ]
      have H5V : Hid (W3.drew.ownsRow w.heap.size 5 1 (.slice A5 X5.length c5) X5.length (X5.map vb)) := Lib.hid H5X.out
      have HBV : Hid (Below W3.heap.size W3 W3.drew) := Lib.hid (Below.refl _ _).drew
      generalize W3.drew = V at hS H5V HBV ⊢
      refine wpAnyH_ready (rs := [3]) (by kernel_rfl) (by simp) ?_
      refine AllReadyH.cons rfl (fun K hK => ?_) AllReadyH.nil
      go_simp
      refine (ocommon_any A6' Ak V.heap.size V.heap.size c6' ck X6' (bytesK d.k) V (HMID.out.off6.kept hS.out).lies (HOFK.out.kept hS.out).lies hx6 (by omega)).mono ?_
      rintro e W4 ⟨rfl, m, rfl⟩
      have hbm : Below V.heap.size V (V.drewN m) := Joins.below_draws _ V m
      have HV4 : Hid (Keep (fun k => (Value.slice A5 X5.length c5).ownBlock = some k) W3 (V.drewN m)) := Lib.hid (hS.out.trans (below_keep (S := fun _ => False) hbm) fun i _ h => h.elim)
      have H5W := Lib.hid (own_later H5V.out hbm)
      have HBW := Lib.hid (HBV.out.trans (hbm.mono HBV.out.size))
      clear hbm
      generalize V.drewN m = V4 at HV4 H5W HBW ⊢
      go_wp2_with fail
      refine hK.out _ _ HV4 (fun hS => ?_)
      clear hK K
      try simp only [Act.put, List.getElem_toArray, List.getElem_cons_succ, List.getElem_cons_zero, List.setIfInBounds_toArray, List.set_cons_zero, List.set_cons_succ]
      refine wpAnyH_ready (rs := [7]) (by kernel_rfl) (by simp) ?_
      refine AllReadyH.cons rfl (fun K hK => ?_) AllReadyH.nil
      go_simp
      refine (oentry_any w.heap.size (com X6' (bytesK d.k)) ck d.vc (.slice A5 X5.length c5) Ak d.va X5 ⟨d.k, d.val⟩ V4 H5W.out (Nat.le_trans HW3S.out HBW.out.size) (HOFK.out.kept hS.out) hk1 hk2 (HVX.out.kept hS.out) hvc HVM.out (com_le _ _).2 (by omega) (by simp only; omega) (by simp only; omega)).mono ?_
      rintro e W5 ⟨v5', rfl, ho5, on5⟩
      generalize hxn : X5 ++ one (com X6' (bytesK d.k)) ⟨d.k, d.val⟩ = X5n at ho5
      obtain ⟨B5, d5, rfl, -, -, -⟩ := own_parts ho5
      have HV5 : Hid (Keep (fun k => (Value.slice A5 X5.length c5).ownBlock = some k) W3 W5) := Lib.hid (hS.out.trans on5.keep fun i _ h => h)
      have HST5 := Lib.hid (Ly.next hst.out HJD.out HB2.out HMID.out ho5 (Onto.pre HBW.out on5) hxn.symm (((HOFK.out.kept hS.out)).onto on5) hk1 hk2 H5X.out)
      clear ho5 on5 hxn
      go_wp2_with fail
      refine hK.out _ _ HV5 (fun hS => ?_)
      clear hK K
      try simp only [Act.put, List.getElem_toArray, List.getElem_cons_succ, List.getElem_cons_zero, List.setIfInBounds_toArray, List.set_cons_zero, List.set_cons_succ]
      refine wpAnyH_take (i := 8) (v := ?_) rfl (by kernel_rfl) (by kernel_rfl) (by kernel_rfl) (fun _ _ _ h => h) (Or.inl ⟨by rfl, ?_⟩) hS ?_
      rotate_left
      · intro w hw
        go_simp
        try with_reducible rfl
      try simp only [Act.put, List.getElem_toArray, List.getElem_cons_succ, List.getElem_cons_zero, List.setIfInBounds_toArray, List.set_cons_zero, List.set_cons_succ]
      refine wpAnyH_done (by kernel_rfl) ?_ _
      go_wp2_with fail
      go_roundw
      case rel => exact ⟨j + 1, B5, Ak, A7', d5, ck, c7', X5n, bytesK d.k, E', by omega, rfl, rfl, rfl, by go_num, HST5⟩
      case measure => simp [intOf]; omega
    · obtain rfl : j = L.length := by omega
      have ht : (L.map D.t).take L.length = L.map D.t := List.take_of_length_le (by rw [List.length_map]; exact Nat.le_refl _)
      have hEb : ∀ e, e ∈ E → e < 4294967296 := fun e he => by
        rw [hst.out.e7, ht] at he
        have h1 := (ends_at every (L.map D.t) 0 [] [] [] e he).2.1
        have h2 := HBMAX.out L.length
        rw [ht] at h2
        rw [List.length_nil, Nat.zero_add] at h1
        omega
      have HEB := Lib.hid hEb
      have HT := Lib.hid ht
      have hbase := hst.out.below.size
      clear hEb ht
      go_wp2_with fail
      go_loopw [5, 47] (fun o i w2 => ∃ (k : Nat) (A8 : Option Addr) (c8 : Nat) (X8 : List Nat), k ≤ E.length ∧ i = .int .i64 (k : Int) ∧ o = .slice A8 X8.length c8 ∧ Hid (X8 = X5 ++ (E.take k).flatMap fun e => low e 4) ∧ Hid (w2.ownsRow w.heap.size 5 1 o X8.length (X8.map vb)) ∧ Hid (Onto (.slice A5 X5.length c5) o wr w2)) (fun _ i _ => E.length + 1 - (intOf i).toNat)
      case atStart => exact ⟨0, A5, c5, X5, Nat.zero_le _, rfl, rfl, Lib.hid (by simp), Lib.hid hst.out.own5, Lib.hid (Onto.refl _ _)⟩
      case round =>
        obtain ⟨k, A8, c8, X8, hk, rfl, rfl, hx8, hown, hon⟩ := hrel
        have hx8l : X8.length ≤ 44040000 := by rw [hx8.out, List.length_append, flat4_len, List.length_take]; omega
        have hw2s : w.heap.size ≤ wr.heap.size := Nat.le_trans hbase hon.out.keep.size
        by_cases hlt2 : k < E.length
        · obtain ⟨e, he⟩ : ∃ e, E[k]? = some e := ⟨_, List.getElem?_eq_getElem hlt2⟩
          have h7 := own_kept hst.out.own7 hon.out.keep fun b hb => own_two hst.out.own7 hst.out.own5 (by decide) hb
          obtain ⟨a7, e7, -, g7⟩ := (Lies.of_own h7).place (by rw [List.length_map]; omega)
          subst e7
          have p0 := nums_at g7 k e he
          have heb : e < 4294967296 := HEB.out e (List.mem_of_getElem? he)
          have HN := Lib.hid (onums_any w.heap.size e (.slice A8 X8.length c8) X8 wr hown.out hw2s (by omega) heb)
          have HE := Lib.hid he
          have ew : IntKind.u32.wrap (e : Int) = (e : Int) := IntWalk.u32_in _ (by omega)
          clear h7 g7 he
          go_wp2_with fail
          refine HN.out.mono ?_
          rintro e' W4 ⟨v4, rfl, ho4, on4⟩
          obtain ⟨X9, hX9⟩ : ∃ X9, X9 = X8 ++ low e 4 := ⟨_, rfl⟩
          rw [← hX9] at ho4
          have HX4 : Hid (X9 = X5 ++ (E.take (k + 1)).flatMap fun e => low e 4) := Lib.hid (by rw [hX9, hx8.out, List.take_add_one, HE.out]; simp)
          obtain ⟨A4, c4, rfl, -, -, -⟩ := own_parts ho4
          have HO4 := Lib.hid ho4
          have HON4 := Lib.hid (hon.out.trans on4)
          clear hX9
          clear ho4 on4 HN
          go_wp2_with fail
          go_roundw
          case rel => exact ⟨k + 1, A4, c4, X9, by omega, by go_num, rfl, HX4, HO4, HON4⟩
          case measure => simp [intOf]; omega
        · obtain rfl : k = E.length := by omega
          have HN := Lib.hid (onums_any w.heap.size E.length (.slice A8 X8.length c8) X8 wr hown.out hw2s (by omega) (by omega))
          have HXX : Hid (X8 ++ low E.length 4 = bare every (L.map D.t)) := Lib.hid (by
            rw [hx8.out, List.take_length, hst.out.e5, hst.out.e7, HT.out]
            unfold bare foot
            simp)
          have HWB := Lib.hid (hst.out.below.trans (hon.out.below hst.out.own5 hbase))
          have ew : IntKind.u32.wrap (E.length : Int) = (E.length : Int) := IntWalk.u32_in _ (by omega)
          go_wp2_with fail
          refine HN.out.mono ?_
          rintro e' W4 ⟨v4, rfl, ho4, on4⟩
          rw [HXX.out] at ho4
          have HO4 := Lib.hid ho4
          have HB4 := Lib.hid (HWB.out.trans (on4.below hown.out HWB.out.size))
          obtain ⟨A4, c4, rfl, -, -, -⟩ := own_parts ho4
          clear ho4 on4 HN
          go_wp2_with fail
          go_ret
          exact ⟨_, rfl, HO4.out, HB4.out⟩
end Go.Proofs.Ytobjiamdljjkjaa.Bk
