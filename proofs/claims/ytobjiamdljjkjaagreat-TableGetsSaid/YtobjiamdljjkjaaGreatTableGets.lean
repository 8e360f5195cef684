/- Proved: for any entries, any block size, restart interval and bits per key, any key and any sequence number, TableGets of butterylaw13 answers true (Get returns the newest entry of a key at a sequence number, for all parameters of Build), and its arguments read as before. Conditions: none beyond what the given row states. -/
import Derived.Test.YtobjiamdljjkjaaGreatJf
import Derived.Deep.RegionHeld3
import Derived.Deep.QuietTactic
import Derived.BigQuiet
import Derived.LoopTactic
namespace Go.Proofs.YtobjiamdljjkjaaGreat.tableGets
set_option linter.unusedVariables false
set_option linter.unusedSimpArgs false
open Go.ChangeShapes Go.WideShapes Go.ChangeAt Go.RowKit Lift Tb Bk Ik Sk Vn

theorem own : ownKnob Tryz.prog.godebug = none := by kernel_rfl

theorem find_at {α : Type} {p : α → Bool} : ∀ {l : List α} {j : Nat} {x : α}, l[j]? = some x → p x = true → (∀ i y, i < j → l[i]? = some y → p y = false) → l.find? p = some x
  | [], j, x, h, _, _ => by simp at h
  | a :: l, 0, x, h, hp, _ => by simp at h; subst h; rw [List.find?_cons_of_pos hp]
  | a :: l, j + 1, x, h, hp, hb => by
    have h0 := hb 0 a (by omega) rfl
    rw [List.find?_cons_of_neg (by rw [h0]; decide)]
    exact find_at (by simpa using h) hp fun i y hi hy => hb (i + 1) y (by omega) (by simpa using hy)
theorem find_no {α : Type} {p : α → Bool} {l : List α} (hb : ∀ i y, i < l.length → l[i]? = some y → p y = false) : l.find? p = none := by
  rw [List.find?_eq_none]
  intro x hx
  obtain ⟨i, hi⟩ := List.getElem?_of_mem hx
  rw [hb i x (List.getElem?_eq_some_iff.1 hi).1 hi]
  decide
set_option maxRecDepth 100000 in
set_option maxHeartbeats 3200000 in
theorem walk (A A2 : Option Addr) (c c2 : Nat) (L : List D) (sz ev bi : Int) (ky : List Nat) (seq : Nat) (w : World) (h1 : Ents w (· < w.heap.size) A c L) (h2 : Lies w w.heap.size A2 (ky.map vb)) (hc2 : ky.length ≤ c2) (hm2 : c2 ≤ maxLen) (k8 : ∀ x, x ∈ ky → x < 256) (hq : seq < 18446744073709551616) :
    Calls Tryz.prog 4 #[.slice A L.length c, .int .i64 sz, .int .i64 ev, .int .i64 bi, .slice A2 ky.length c2, .int .u64 (seq : Int)] w (Tb.Yes w) := by
  have H1 := Lib.hid h1
  have H2 := Lib.hid h2
  have K8 := Lib.hid k8
  have HM2 := Lib.hid hm2
  unfold maxLen at hm2
  clear h1 h2 k8
  go_enter Tryz.func4, Tryz.ntmps4
  go_wp2_with fail
  refine (Tb.alive_any _).mono ?_
  rintro e W1 ⟨rfl, hb1⟩
  have HB1 := Lib.hid hb1
  clear hb1
  go_wp2_with fail
  refine (big_any A c _ L W1 (H1.out.below HB1.out)).mono ?_
  rintro e W2 ⟨rfl, rfl⟩
  have HBR := Lib.hid (rtable_any A c L sz ev bi W1 (H1.out.next HB1.out))
  obtain ⟨bg, hbg⟩ : ∃ bg, bg = bigL L := ⟨_, rfl⟩
  rw [← hbg]
  have HBG := Lib.hid hbg
  clear hbg
  go_wp2_with fail
  refine HBR.out.mono ?_
  rintro e W2 ⟨v, rfl, hown, hb2⟩
  obtain ⟨A3, c3, rfl, hc3, hm3, hl3⟩ := own_parts hown
  have HBY := Lib.hid (HB1.out.trans (hb2.mono HB1.out.size))
  have HL3 := Lib.hid hl3
  have hml := mayT_le (L.map D.t)
  clear hb2 HBR hown hl3
  cases bg
  · obtain ⟨hn60, hsm⟩ := big_no HBG.out.symm
    clear hsm HBG
    by_cases hm0 : mayT (L.map D.t) = 0
    · by_cases hk3 : 300 < ky.length
      · have d1 : decide ((300 : Int) < (ky.length : Int)) = true := decide_eq_true (by omega)
        have d2 : decide (300 < ky.length) = true := decide_eq_true hk3
        rw [hm0]
        clear hm0
        go_wp2_with fail
        go_ret
        exact ⟨rfl, HBY.out⟩
      · have d1 : decide ((300 : Int) < (ky.length : Int)) = false := decide_eq_false (by omega)
        have d2 : decide (300 < ky.length) = false := decide_eq_false hk3
        have hb8 : ∀ x, x ∈ tabB sz ev bi (L.map D.t) → x < 256 := tabB_byte fun t ht => by
          obtain ⟨d, hd, rfl⟩ := List.mem_map.1 ht
          exact ⟨(H1.out.ok d hd).ok, (H1.out.ok d hd).v8⟩
        obtain ⟨-, hbl⟩ := tabB_len (size := sz) (every := ev) (bits := bi) hm0 (by rw [List.length_map]; omega)
        obtain ⟨e1, e2, htl⟩ := tabB_tall (size := sz) (every := ev) (bits := bi) hm0
        have HG := Lib.hid (ogett_any A3 A2 c3 c2 (tabB sz ev bi (L.map D.t)) ky seq W2 HL3.out hc3 hm3 (by omega) hb8 ((H2.out.below HBY.out).up HBY.out.size) hc2 HM2.out K8.out hq same_tab)
        rw [htl] at HG
        rw [hm0]
        clear hm0 hb8 htl hc3 hm3
        generalize tabB sz ev bi (L.map D.t) = bs at *
        have hc1 := H1.out.len
        have hm1 := H1.out.cap
        unfold maxLen at hm1
        go_wp2_with fail
        refine HG.out.mono ?_
        intro e W3 hfin
        obtain ⟨hb3, hfin⟩ := hfin
        have HB3 := Lib.hid (HBY.out.trans (hb3.mono HBY.out.size))
        clear hb3 HG
        cases hgt : getT (L.map D.t) ky seq with
        | some t =>
          rw [hgt] at hfin
          obtain ⟨d, rfl, hdt, hdo⟩ := hfin
          have HGT := Lib.hid hgt
          have HDT := Lib.hid hdt
          obtain ⟨W4, hW4⟩ : ∃ W4, W4 = W3.alloc (ebox d) := ⟨_, rfl⟩
          have HBX : Hid (Bx W4 W3.heap.size d) := Lib.hid (by rw [hW4]; exact Bx.new W3 d)
          have hbx := below_box W3 d
          rw [← hW4] at hbx
          have HB4 := Lib.hid (HB3.out.trans (hbx.mono HB3.out.size))
          have HDO : Hid (d.Ok W4 (· < W4.heap.size)) := Lib.hid (((hdo.mono fun k hk => hk.2).next hbx))
          clear hgt hdt hdo hbx
          go_wp2_with fail
          change Calls _ _ _ (W3.alloc (ebox d)) _
          rw [← hW4]
          clear hW4
          refine (Tb.num_any _ W4).mono ?_
          rintro e w' ⟨rfl, rfl⟩
          go_wp2_with fail
          go_loopw [20] (fun i wr => ∃ j : Nat, j ≤ L.length ∧ i = .int .i64 (j : Int) ∧ Hid (Below W4.heap.size W4 wr) ∧ Hid (∀ i y, i < j → (L.map D.t)[i]? = some y → (decide (y.k.key = ky ∧ y.k.seq ≤ seq)) = false)) (fun i _ => L.length + 1 - (intOf i).toNat)
          case atStart => exact ⟨0, Nat.zero_le _, rfl, Lib.hid (Below.refl _ _), Lib.hid fun i y hi => by omega⟩
          case round =>
            obtain ⟨j, hj, rfl, hb, hbf⟩ := hrel
            by_cases hlt : j < L.length
            · obtain ⟨dj, hd⟩ : ∃ dj, L[j]? = some dj := ⟨_, List.getElem?_eq_getElem hlt⟩
              obtain ⟨ad, p, hA, hpb, hp, q0, q1, q2, q3⟩ := ((H1.out.next HB4.out).below hb.out).place hd
              subst hA
              have okd := ((H1.out.next HB4.out).below hb.out).ok dj (List.mem_of_getElem? hd)
              have r1 : ∀ n, Sem.run Tryz.prog (convert 25 9 (.slice dj.ka dj.k.key.length dj.kc)) (wr.drewN n) = .ok (.string (str dj.k.key)) (wr.drewN n) := fun n => runs ((okd.kl.lies fun k hk => hk).below (Joins.below_draws _ _ _))
              have r2 : ∀ n, Sem.run Tryz.prog (convert 25 9 (.slice A2 ky.length c2)) (wr.drewN n) = .ok (.string (str ky)) (wr.drewN n) := fun n => runs (((H2.out.below HB4.out).up HB4.out.size |>.below hb.out).below (Joins.below_draws _ _ _))
              have hse := str_eq okd.ok.1 K8.out
              have HD := Lib.hid hd
              have HP := Lib.hid hp
              have hjt : (L.map D.t)[j]? = some dj.t := by rw [List.getElem?_map, hd]; rfl
              have HJT := Lib.hid hjt
              have HNX : Hid (¬ (dj.k.key = ky ∧ dj.k.seq ≤ seq) → ∀ i y, i < j + 1 → (L.map D.t)[i]? = some y → (decide (y.k.key = ky ∧ y.k.seq ≤ seq)) = false) := Lib.hid fun hno i y hi hy => by
                by_cases hij : i = j
                · subst hij
                  rw [HJT.out] at hy
                  injection hy with hy
                  rw [← hy]
                  exact decide_eq_false hno
                · exact hbf.out i y (by omega) hy
              have HHIT : Hid (dj.k.key = ky ∧ dj.k.seq ≤ seq → getT (L.map D.t) ky seq = some dj.t) := Lib.hid fun h => find_at HJT.out (decide_eq_true h) hbf.out
              have dl : decide ((j : Int) < (L.length : Int)) = true := decide_eq_true (by omega)
              clear hd okd hjt
              by_cases k1 : dj.k.key = ky
              · rw [decide_eq_true k1] at hse
                by_cases k2 : dj.k.seq ≤ seq
                · have d2 : decide ((dj.k.seq : Int) ≤ (seq : Int)) = true := decide_eq_true (by omega)
                  have d3 : decide (dj.k.seq ≤ seq) = true := decide_eq_true k2
                  have HTJ : Hid (t = dj.t) := Lib.hid (by
                    have h := HHIT.out ⟨k1, k2⟩
                    rw [HGT.out] at h
                    injection h)
                  clear k1 k2 HNX HHIT
                  go_wp2_with fail
                  go_quiet (fail)
                  have HBW := Lib.hid (hb.out.trans (Joins.below_draws W4.heap.size wr nq))
                  generalize wr.drewN nq = W5 at HBW ⊢
                  clear q0 q1 q2 q3 hpb r1 r2 hse
                  go_upto_region 13 with fail
                  refine wp_region_held_drew (S := fun w' => Hid (Below W5.heap.size W5 w')) (by kernel_rfl) (Lib.hid (Below.refl _ _).drew) (fun hS => ?_)
                  refine wpAnyH_take (i := 0) (v := ?_) rfl (by kernel_rfl) (by kernel_rfl) (by kernel_rfl) (fun _ _ _ h => h) (Or.inl ⟨by rfl, ?_⟩) hS ?_
                  rotate_left
                  · intro wi hw
                    go_simp
                    try with_reducible rfl
                  try simp only [Act.put, List.getElem_toArray, List.getElem_cons_succ, List.getElem_cons_zero, List.setIfInBounds_toArray, List.set_cons_zero, List.set_cons_succ]
                  refine wpAnyH_take (i := 1) (v := ?_) rfl (by kernel_rfl) (by kernel_rfl) (by kernel_rfl) (fun _ _ _ h => h) (Or.inl ⟨by rfl, ?_⟩) hS ?_
                  rotate_left
                  · intro wi hw
                    go_simp
                    try with_reducible rfl
                  try simp only [Act.put, List.getElem_toArray, List.getElem_cons_succ, List.getElem_cons_zero, List.setIfInBounds_toArray, List.set_cons_zero, List.set_cons_succ]
                  refine wpAnyH_take (i := 2) (v := ?_) rfl (by kernel_rfl) (by kernel_rfl) (by kernel_rfl) (fun _ _ _ h => h) (Or.inl ⟨by rfl, ?_⟩) hS ?_
                  rotate_left
                  · intro wi hw
                    obtain ⟨q0, q1, q2, q3, -, -, -, -⟩ := Bx.facts (d := d) (Lift.Box.below (Lift.Box.below HBX.out HBW.out (Lift.Box.lt HBX.out)) hw.out (Lift.Box.lt (Lift.Box.below HBX.out HBW.out (Lift.Box.lt HBX.out))))
                    have hld := D.load (p := ⟨W3.heap.size, 0, none⟩) q0 q1 q2 q3
                    go_simp
                    try with_reducible rfl
                  try simp only [Act.put, List.getElem_toArray, List.getElem_cons_succ, List.getElem_cons_zero, List.setIfInBounds_toArray, List.set_cons_zero, List.set_cons_succ]
                  refine wpAnyH_take (i := 3) (v := ?_) rfl (by kernel_rfl) (by kernel_rfl) (by kernel_rfl) (fun _ _ _ h => h) (Or.inl ⟨by rfl, ?_⟩) hS ?_
                  rotate_left
                  · intro wi hw
                    go_simp
                    try with_reducible rfl
                  try simp only [Act.put, List.getElem_toArray, List.getElem_cons_succ, List.getElem_cons_zero, List.setIfInBounds_toArray, List.set_cons_zero, List.set_cons_succ]
                  refine wpAnyH_take (i := 4) (v := ?_) rfl (by kernel_rfl) (by kernel_rfl) (by kernel_rfl) (fun _ _ _ h => h) (Or.inl ⟨by rfl, ?_⟩) hS ?_
                  rotate_left
                  · intro wi hw
                    go_simp
                    try with_reducible rfl
                  try simp only [Act.put, List.getElem_toArray, List.getElem_cons_succ, List.getElem_cons_zero, List.setIfInBounds_toArray, List.set_cons_zero, List.set_cons_succ]
                  refine wpAnyH_take (i := 5) (v := ?_) rfl (by kernel_rfl) (by kernel_rfl) (by kernel_rfl) (fun _ _ _ h => h) (Or.inl ⟨by rfl, ?_⟩) hS ?_
                  rotate_left
                  · intro wi hw
                    have hpd := HP.out
                    go_simp
                    try with_reducible rfl
                  try simp only [Act.put, List.getElem_toArray, List.getElem_cons_succ, List.getElem_cons_zero, List.setIfInBounds_toArray, List.set_cons_zero, List.set_cons_succ]
                  refine wpAnyH_take (i := 6) (v := ?_) rfl (by kernel_rfl) (by kernel_rfl) (by kernel_rfl) (fun _ _ _ h => h) (Or.inl ⟨by rfl, ?_⟩) hS ?_
                  rotate_left
                  · intro wi hw
                    obtain ⟨ad', pi, hA', -, hpi, q0, q1, q2, q3⟩ := ((H1.out.next HB4.out).below (HBW.out.trans (hw.out.mono HBW.out.size))).place HD.out
                    injection hA' with hAA
                    subst hAA
                    obtain rfl : pi = p := hpi.symm.trans HP.out
                    have hld := D.load q0 q1 q2 q3
                    go_simp
                    try with_reducible rfl
                  try simp only [Act.put, List.getElem_toArray, List.getElem_cons_succ, List.getElem_cons_zero, List.setIfInBounds_toArray, List.set_cons_zero, List.set_cons_succ]
                  refine wpAnyH_ready (rs := [7]) (by kernel_rfl) (by simp) ?_
                  refine AllReadyH.cons rfl (fun K hK => ?_) AllReadyH.nil
                  go_simp
                  have hb7 := hS.out
                  have hb45 := HBW.out.trans (hb7.mono HBW.out.size)
                  refine (same_entry d dj _ (HDO.out.next hb45) (((H1.out.next HB4.out).next hb45).ok dj (List.mem_of_getElem? HD.out))).mono ?_
                  rintro e W6 ⟨rfl, hb6⟩
                  rw [sameD_eq (HDT.out.trans HTJ.out)]
                  have HB6 := Lib.hid (hb7.trans (hb6.mono hb7.size))
                  clear hb6 hb7 hb45
                  go_wp2_with fail
                  refine hK.out _ _ HB6 (fun hS => ?_)
                  clear hK K
                  try simp only [Act.put, List.getElem_toArray, List.getElem_cons_succ, List.getElem_cons_zero, List.setIfInBounds_toArray, List.set_cons_zero, List.set_cons_succ]
                  refine wpAnyH_take (i := 8) (v := ?_) rfl (by kernel_rfl) (by kernel_rfl) (by kernel_rfl) (fun _ _ _ h => h) (Or.inl ⟨by rfl, ?_⟩) hS ?_
                  rotate_left
                  · intro wi hw
                    go_simp
                    try with_reducible rfl
                  try simp only [Act.put, List.getElem_toArray, List.getElem_cons_succ, List.getElem_cons_zero, List.setIfInBounds_toArray, List.set_cons_zero, List.set_cons_succ]
                  refine wpAnyH_take (i := 9) (v := ?_) rfl (by kernel_rfl) (by kernel_rfl) (by kernel_rfl) (fun _ _ _ h => h) (Or.inl ⟨by rfl, ?_⟩) hS ?_
                  rotate_left
                  · intro wi hw
                    go_simp
                    try with_reducible rfl
                  try simp only [Act.put, List.getElem_toArray, List.getElem_cons_succ, List.getElem_cons_zero, List.setIfInBounds_toArray, List.set_cons_zero, List.set_cons_succ]
                  refine wpAnyH_done (by kernel_rfl) ?_ _
                  have HBZ := Lib.hid (HB4.out.trans ((HBW.out.trans (HB6.out.mono HBW.out.size)).mono HB4.out.size))
                  clear hS
                  go_wp2_with fail
                  go_ret
                  exact ⟨rfl, HBZ.out⟩
                · have d2 : decide ((dj.k.seq : Int) ≤ (seq : Int)) = false := decide_eq_false (by omega)
                  have d3 : decide (dj.k.seq ≤ seq) = false := decide_eq_false k2
                  have HN := Lib.hid (HNX.out fun h => k2 h.2)
                  clear k1 k2 HNX HHIT
                  go_wp2_with fail
                  go_quiet (fail)
                  go_wp2_with fail
                  go_roundw
                  case rel => exact ⟨j + 1, by omega, by go_num, Lib.hid (hb.out.trans (Joins.below_draws _ _ _)), HN⟩
                  case measure => simp [intOf]; omega
              · rw [decide_eq_false k1] at hse
                have HN := Lib.hid (HNX.out fun h => k1 h.1)
                clear k1 HNX HHIT
                go_wp2_with fail
                go_quiet (fail)
                go_wp2_with fail
                go_roundw
                case rel => exact ⟨j + 1, by omega, by go_num, Lib.hid (hb.out.trans (Joins.below_draws _ _ _)), HN⟩
                case measure => simp [intOf]; omega
            · exfalso
              have h : getT (L.map D.t) ky seq = none := find_no fun i y hi hy => hbf.out i y (by rw [List.length_map] at hi; omega) hy
              rw [HGT.out] at h
              cases h
        | none =>
          rw [hgt] at hfin
          subst hfin
          have HGT := Lib.hid hgt
          obtain ⟨W4, hW4⟩ : ∃ W4, W4 = W3.alloc zbox := ⟨_, rfl⟩
          have hbx : Below W3.heap.size W3 (W3.alloc zbox) := below_box W3 dz
          rw [← hW4] at hbx
          have HB4 := Lib.hid (HB3.out.trans (hbx.mono HB3.out.size))
          clear hgt hbx
          go_wp2_with fail
          change Calls _ _ _ (W3.alloc zbox) _
          rw [← hW4]
          clear hW4
          refine (Tb.num_any _ W4).mono ?_
          rintro e w' ⟨rfl, rfl⟩
          go_wp2_with fail
          go_loopw [20] (fun i wr => ∃ j : Nat, j ≤ L.length ∧ i = .int .i64 (j : Int) ∧ Hid (Below W4.heap.size W4 wr) ∧ Hid (∀ i y, i < j → (L.map D.t)[i]? = some y → (decide (y.k.key = ky ∧ y.k.seq ≤ seq)) = false)) (fun i _ => L.length + 1 - (intOf i).toNat)
          case atStart => exact ⟨0, Nat.zero_le _, rfl, Lib.hid (Below.refl _ _), Lib.hid fun i y hi => by omega⟩
          case round =>
            obtain ⟨j, hj, rfl, hb, hbf⟩ := hrel
            by_cases hlt : j < L.length
            · obtain ⟨dj, hd⟩ : ∃ dj, L[j]? = some dj := ⟨_, List.getElem?_eq_getElem hlt⟩
              obtain ⟨ad, p, hA, hpb, hp, q0, q1, q2, q3⟩ := ((H1.out.next HB4.out).below hb.out).place hd
              subst hA
              have okd := ((H1.out.next HB4.out).below hb.out).ok dj (List.mem_of_getElem? hd)
              have r1 : ∀ n, Sem.run Tryz.prog (convert 25 9 (.slice dj.ka dj.k.key.length dj.kc)) (wr.drewN n) = .ok (.string (str dj.k.key)) (wr.drewN n) := fun n => runs ((okd.kl.lies fun k hk => hk).below (Joins.below_draws _ _ _))
              have r2 : ∀ n, Sem.run Tryz.prog (convert 25 9 (.slice A2 ky.length c2)) (wr.drewN n) = .ok (.string (str ky)) (wr.drewN n) := fun n => runs (((H2.out.below HB4.out).up HB4.out.size |>.below hb.out).below (Joins.below_draws _ _ _))
              have hse := str_eq okd.ok.1 K8.out
              have HD := Lib.hid hd
              have HP := Lib.hid hp
              have hjt : (L.map D.t)[j]? = some dj.t := by rw [List.getElem?_map, hd]; rfl
              have HJT := Lib.hid hjt
              have HNX : Hid (¬ (dj.k.key = ky ∧ dj.k.seq ≤ seq) → ∀ i y, i < j + 1 → (L.map D.t)[i]? = some y → (decide (y.k.key = ky ∧ y.k.seq ≤ seq)) = false) := Lib.hid fun hno i y hi hy => by
                by_cases hij : i = j
                · subst hij
                  rw [HJT.out] at hy
                  injection hy with hy
                  rw [← hy]
                  exact decide_eq_false hno
                · exact hbf.out i y (by omega) hy
              have HHIT : Hid (dj.k.key = ky ∧ dj.k.seq ≤ seq → getT (L.map D.t) ky seq = some dj.t) := Lib.hid fun h => find_at HJT.out (decide_eq_true h) hbf.out
              have dl : decide ((j : Int) < (L.length : Int)) = true := decide_eq_true (by omega)
              clear hd okd hjt
              by_cases k1 : dj.k.key = ky
              · rw [decide_eq_true k1] at hse
                by_cases k2 : dj.k.seq ≤ seq
                · have h := HHIT.out ⟨k1, k2⟩
                  rw [HGT.out] at h
                  cases h
                · have d2 : decide ((dj.k.seq : Int) ≤ (seq : Int)) = false := decide_eq_false (by omega)
                  have d3 : decide (dj.k.seq ≤ seq) = false := decide_eq_false k2
                  have HN := Lib.hid (HNX.out fun h => k2 h.2)
                  clear k1 k2 HNX HHIT
                  go_wp2_with fail
                  go_quiet (fail)
                  go_wp2_with fail
                  go_roundw
                  case rel => exact ⟨j + 1, by omega, by go_num, Lib.hid (hb.out.trans (Joins.below_draws _ _ _)), HN⟩
                  case measure => simp [intOf]; omega
              · rw [decide_eq_false k1] at hse
                have HN := Lib.hid (HNX.out fun h => k1 h.1)
                clear k1 HNX HHIT
                go_wp2_with fail
                go_quiet (fail)
                go_wp2_with fail
                go_roundw
                case rel => exact ⟨j + 1, by omega, by go_num, Lib.hid (hb.out.trans (Joins.below_draws _ _ _)), HN⟩
                case measure => simp [intOf]; omega
            · have dl : decide ((j : Int) < (L.length : Int)) = false := decide_eq_false (by omega)
              have HBZ := Lib.hid (HB4.out.trans (hb.out.mono HB4.out.size))
              go_wp2_with fail
              go_ret
              exact ⟨rfl, HBZ.out⟩
    · have hm1 : ¬ (mayT (L.map D.t) : Int) = 0 := by omega
      have hm2' : ((mayT (L.map D.t) : Int) != 0) = true := by rw [bne_iff_ne]; exact hm1
      clear hm0
      generalize mayT (L.map D.t) = mm at *
      generalize tabB sz ev bi (L.map D.t) = bs at *
      go_wp2_with fail
      go_ret
      exact ⟨rfl, HBY.out⟩
  · generalize mayT (L.map D.t) = mm at *
    generalize tabB sz ev bi (L.map D.t) = bs at *
    go_wp2_with fail
    go_ret
    exact ⟨rfl, HBY.out⟩

set_option maxRecDepth 100000 in
theorem lifted (os : Os) (started : os.Started) (H : Type) (enc : TypeId × Value → H) :
    ReturnsInHanded {} Tryz.checked os 4 .any (Rows.tableGetsSpec.pre6 enc Tryz.prog Tryz.f4 Rows.tableGetsRow.domain false) (Rows.tableGetsSpec.post enc Tryz.prog Tryz.f4 false true false false) := by
  refine lift_true (C := Tryz.checked) own started (by kernel_rfl) Tryz.func4
    (ChangeSpec.witness6 (enc := enc) (C := Tryz.checked) false ⟨#[], #[.slice none 0 0, .int .i64 0, .int .i64 0, .int .i64 0, .slice none 0 0, .int .u64 0], []⟩ 8 (by kernel_rfl) (by kernel_rfl) (by kernel_rfl) (by kernel_rfl))
    (by kernel_rfl) (by kernel_rfl) (by kernel_rfl) Tryz.underlying4 rfl ?_ ?_
  · intro ds hds
    match ds, hds with
    | [d1, d2, d3, d4, d5, d6], _ => exact ⟨rfl, rfl, rfl⟩
  · intro W base args ds p hval0 hA0 hlt _
    have hval : ∀ (j : Nat) t v, Tryz.f4.params[j]? = some t → args[j]? = some v → Value.okWide Tryz.prog W .any base t v := hval0
    have hA : DataW.TrodAll enc Tryz.prog W 0 (fun _ => true) true Tryz.f4.params.toList args.toList ds p := hA0
    rw [Tryz.params4] at hA hval
    obtain ⟨v0, vs0, d0, ds0, p0, q0, hargs, rfl, rfl, h0, r0⟩ := trodAll_cons hA
    obtain ⟨v1, vs1, d1, ds1, p1, q1, rfl, rfl, rfl, h1, r1⟩ := trodAll_cons r0
    obtain ⟨v2, vs2, d2, ds2, p2, q2, rfl, rfl, rfl, h2, r2⟩ := trodAll_cons r1
    obtain ⟨v3, vs3, d3, ds3, p3, q3, rfl, rfl, rfl, h3, r3⟩ := trodAll_cons r2
    obtain ⟨v4, vs4, d4, ds4, p4, q4, rfl, rfl, rfl, h4, r4⟩ := trodAll_cons r3
    obtain ⟨v5, vs5, d5, ds5, p5, q5, rfl, rfl, rfl, h5, r5⟩ := trodAll_cons r4
    obtain ⟨rfl, rfl, rfl⟩ := trodAll_nil r5
    obtain rfl : args = #[v0, v1, v2, v3, v4, v5] := by cases args; simp_all
    obtain ⟨A0, c0, L0, rfl, hN0⟩ := Sk.open_ents (hval 0 _ v0 rfl rfl) h0 (fun x hx => hlt x (by simp [hx]))
    obtain ⟨a1, rfl, rfl, rfl, w1⟩ := open_int Tryz.underlying3 (hval 1 _ v1 rfl rfl) h1
    have b1 := i64_of w1
    obtain ⟨a2, rfl, rfl, rfl, w2⟩ := open_int Tryz.underlying3 (hval 2 _ v2 rfl rfl) h2
    have b2 := i64_of w2
    obtain ⟨a3, rfl, rfl, rfl, w3⟩ := open_int Tryz.underlying3 (hval 3 _ v3 rfl rfl) h3
    have b3 := i64_of w3
    obtain ⟨A4, c4, zs4, rfl, hc4, hm4, hl4, hw4⟩ := open_nums Tryz.underlying25 Tryz.underlying5 (by kernel_rfl) (hval 4 _ v4 rfl rfl) h4 (fun x hx => hlt x (by simp [hx]))
    obtain ⟨bs4, rfl, hz4⟩ := as_nat zs4 fun n hn => (u8_of (hw4 n hn)).1
    have hbs4 := fun b hb => (u8_of (hw4 _ (hz4 b hb))).2
    rw [List.length_map] at hc4 ⊢
    rw [List.map_map] at hl4
    obtain ⟨a5, rfl, rfl, rfl, w5⟩ := open_int Tryz.underlying37 (hval 5 _ v5 rfl rfl) h5
    have b5 := u64_of w5
    obtain ⟨s5, rfl⟩ := Int.eq_ofNat_of_zero_le b5.1
    exact walk A0 A4 c0 c4 L0 a1 a2 a3 bs4 s5 W hN0 hl4 hc4 hm4 (fun a ha => by have := hbs4 a ha; omega) (by omega)

theorem over : Rows.tableGetsRow.holds Tryz.pinned (OpenSpec.ofChange Rows.tableGetsSpec) :=
  OpenClaim.holds_of_wide 4 Tryz.f4 rfl rfl rfl rfl rfl rfl rfl ⟨rfl, rfl, rfl, rfl, rfl⟩ rfl rfl rfl rfl rfl (by kernel_rfl) Tryz.func4 (by kernel_rfl)
    (of_decide_eq_true (by kernel_rfl)) (by unfold Func.isWrapper; first | (rw [if_pos (by decide +kernel)]; kernel_rfl) | (rw [if_neg (by decide +kernel)]; exact ⟨rfl, rfl⟩))
    (fun os started H enc _ => lifted os started H enc)

theorem proved : Rows.TableGetsSaid :=
  over
#print axioms proved
end Go.Proofs.YtobjiamdljjkjaaGreat.tableGets
