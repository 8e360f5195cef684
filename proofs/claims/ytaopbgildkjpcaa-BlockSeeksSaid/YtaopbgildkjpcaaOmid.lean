/- Package block: Build, All, Restarts; what the laws share. -/
import Derived.Test.YtaopbgildkjpcaaOall
import Derived.Test.YtaopbgildkjpcaaBbld2
import Derived.Test.YtaopbgildkjpcaaSfn2
import Derived.Deep.RegionHeld3
import Derived.LoopTactic
/- Package block and the document: what Build answers. -/
namespace Go.Proofs.Ytaopbgildkjpcaa.Bk
set_option linter.unusedVariables false
set_option linter.unusedSimpArgs false
open Go.RowKit Lift Ik Sk Vn
/-- What Build packs. -/
def bldB (ev : Int) (ts : List T) : List Nat := if may ts = 0 then blk (clamp ev) ts else []
theorem bldB_ok {ev : Int} {ts : List T} (h : may ts = 0) : bldB ev ts = blk (clamp ev) ts := if_pos h
theorem bldB_no {ev : Int} {ts : List T} (h : ¬ may ts = 0) : bldB ev ts = [] := if_neg h
theorem may_le (ts : List T) : may ts ≤ 10 := by unfold may; split; omega; split; omega; split <;> omega
theorem bare_max {every : Nat} {ts : List T} (hok : ∀ t, t ∈ ts → okT t = true) : (bare every ts).length ≤ 4404 * ts.length + 4 := by
  have h1 := body_max every ts 0 [] hok
  have h2 := ends_le every ts 0 [] 0
  have h3 := foot_len (ends every 0 [] 0 ts)
  unfold bare
  rw [List.length_append, h3]
  omega
theorem blk_max {every : Nat} {ts : List T} (hok : ∀ t, t ∈ ts → okT t = true) : (blk every ts).length ≤ 4404 * ts.length + 8 := by
  have h1 := bare_max (every := every) hok
  unfold blk
  rw [List.length_append, sum4_len]
  omega
theorem sum4_byte (b : List Nat) : ∀ x, x ∈ sum4 b → x < 256 := low_byte _ 4
theorem blk_byte {every : Nat} {L : List D} (h : ∀ d, d ∈ L → okT d.t = true ∧ d.k.ok ∧ ∀ c, c ∈ d.val → c < 256) : ∀ x, x ∈ blk every (L.map D.t) → x < 256 := by
  intro x hx
  unfold blk at hx
  rcases List.mem_append.1 hx with h1 | h1
  · exact bare_byte h x h1
  · exact sum4_byte _ x h1
/-- What Build answers. -/
def Bld (w : World) (ev : Int) (ts : List T) (e : Ending) (w' : World) : Prop :=
  ∃ v, e = .returned (.tuple #[v, .int .i64 (may ts : Nat)]) ∧ w'.ownsRow w.heap.size 5 1 v (bldB ev ts).length ((bldB ev ts).map vb) ∧ Below w.heap.size w w'
theorem Bld.no {w w' : World} {ev : Int} {ts : List T} (h : ¬ may ts = 0) (hb : Below w.heap.size w w') : Bld w ev ts (.returned (.tuple #[.slice none 0 0, .int .i64 (may ts : Nat)])) w' :=
  ⟨_, rfl, by rw [bldB_no h]; exact World.ownsRow_nil _ _ _ _, hb⟩
set_option maxRecDepth 100000 in
set_option maxHeartbeats 1600000 in
theorem obuild_any (A : Option Addr) (c : Nat) (L : List D) (ev : Int) (w : World) (h1 : Ents w (· < w.heap.size) A c L) (hn : L.length ≤ 1000000) :
    Calls Try.prog 11 #[.slice A L.length c, .int .i64 ev] w (Bld w ev (L.map D.t)) := by
  have HCK := Lib.hid (ocheck_any A c L w h1 hn)
  have hml := may_le (L.map D.t)
  by_cases hmay : may (L.map D.t) = 0
  · obtain ⟨hok, -, hlen⟩ := may_zero hmay
    rw [List.length_map] at hlen
    have hokL : ∀ d, d ∈ L → okT d.t = true := fun d hd => hok _ (List.mem_map.2 ⟨d, hd, rfl⟩)
    have HLY := Lib.hid (fun (W : World) (hb : Below w.heap.size w W) => olay_any A c L ev W (h1.next hb) hokL hlen)
    have hbm := bare_max (every := clamp ev) hok
    rw [List.length_map] at hbm
    have hbb := bare_byte (every := clamp ev) (L := L) fun d hd => ⟨hokL d hd, (h1.ok d hd).ok, (h1.ok d hd).v8⟩
    have HMAY := Lib.hid hmay
    have HBE := Lib.hid (bldB_ok (ev := ev) hmay)
    unfold blk sum4 at HBE
    rw [hmay] at HCK
    clear hmay hok hokL h1 hml
    generalize bare (clamp ev) (L.map D.t) = bb at *
    have HBM : Hid (bb.length ≤ 100000000) := Lib.hid (by omega)
    have HBB := Lib.hid hbb
    clear hbm hbb hlen
    go_enter Try.func11, Try.ntmps11
    go_wp2_with fail
    refine HCK.out.mono ?_
    rintro e W1 ⟨rfl, hb1⟩
    have HB1 := Lib.hid hb1
    clear hb1
    go_wp2_with fail
    refine (HLY.out W1 HB1.out).mono ?_
    intro e W2 hmade
    obtain ⟨v2, rfl, ho2, -, hb2⟩ := made_byts hmade
    obtain ⟨A2, c2, rfl, q1, q2, q3⟩ := own_parts ho2
    have HB2 := Lib.hid (HB1.out.trans (hb2.mono HB1.out.size))
    have HO2 := Lib.hid (own_lower ho2 HB1.out.size)
    have HS := Lib.hid (osum_any A2 c2 bb W2 q3 q1 q2 HBB.out)
    have HML := Lib.hid (Crc.maskN_lt (Crc.crc Crc.ent bb))
    clear hmade ho2 hb2 q1 q2 q3 HLY HCK
    generalize Crc.maskN (Crc.crc Crc.ent bb) = M at *
    go_wp2_with fail
    refine HS.out.mono ?_
    rintro e W3 ⟨rfl, hb3⟩
    have HB3 := Lib.hid (HB2.out.trans (hb3.mono HB2.out.size))
    have HO3 := Lib.hid (own_later HO2.out hb3)
    have HN := Lib.hid (onums_any w.heap.size M (.slice A2 bb.length c2) bb W3 HO3.out HB3.out.size (by have := HBM.out; omega) HML.out)
    clear hb3 HS
    go_wp2_with fail
    refine HN.out.mono ?_
    rintro e W4 ⟨v4, rfl, ho4, hon4⟩
    have HB4 := Lib.hid (HB3.out.trans (hon4.below HO3.out HB3.out.size))
    obtain ⟨A4, c4, hv4, -, -, -⟩ := own_parts ho4
    have HO4 := Lib.hid ho4
    subst hv4
    clear ho4 hon4 HN
    go_wp2_with fail
    go_returns
    exact ⟨.slice A4 (bb ++ low M 4).length c4, by rw [HMAY.out, List.length_append]; rfl, by rw [HBE.out]; exact HO4.out, HB4.out⟩
  · have d1 : ((may (L.map D.t) : Int) != 0) = true := by rw [bne_iff_ne]; omega
    have HMAY := Lib.hid hmay
    clear hmay h1
    have hE := fun (W : World) (hb : Below w.heap.size w W) => Bld.no (ev := ev) HMAY.out hb
    have HE := Lib.hid hE
    clear hE
    generalize may (L.map D.t) = mm at HCK d1 HE hml
    go_enter Try.func11, Try.ntmps11
    go_wp2_with fail
    refine HCK.out.mono ?_
    rintro e W1 ⟨rfl, hb1⟩
    have HB1 := Lib.hid hb1
    clear hb1
    go_wp2_with fail
    go_returns
    exact HE.out _ HB1.out
theorem betw_any (n : Int) (w : World) : Calls Try.prog 30 #[.int .i64 n, .int .i64 1, .int .i64 100] w fun e w' => e = .returned (.int .i64 (clamp n : Nat)) ∧ w = w' := by
  have hh : ((clamp n : Nat) : Int) = min (max n 1) 100 := by unfold clamp; omega
  by_cases h1 : n < 1
  · have d1 : decide (n < 1) = true := decide_eq_true h1
    have E := Lib.hid (show ((clamp n : Nat) : Int) = 1 by omega)
    clear hh
    go_enter Try.func30, Try.ntmps30
    go_wp2_with fail
    go_ret
    exact ⟨by rw [E.out]; rfl, rfl⟩
  · have d1 : decide (n < 1) = false := decide_eq_false h1
    by_cases h2 : 100 < n
    · have d2 : decide (100 < n) = true := decide_eq_true h2
      have E := Lib.hid (show ((clamp n : Nat) : Int) = 100 by omega)
      clear hh
      go_enter Try.func30, Try.ntmps30
      go_wp2_with fail
      go_ret
      exact ⟨by rw [E.out]; rfl, rfl⟩
    · have d2 : decide (100 < n) = false := decide_eq_false h2
      have E := Lib.hid (show ((clamp n : Nat) : Int) = n by omega)
      clear hh
      go_enter Try.func30, Try.ntmps30
      go_wp2_with fail
      go_ret
      exact ⟨by rw [E.out]; rfl, rfl⟩
set_option maxRecDepth 100000 in
set_option maxHeartbeats 1600000 in
theorem rbuild_any (A : Option Addr) (c : Nat) (L : List D) (ev : Int) (w : World) (h1 : Ents w (· < w.heap.size) A c L) :
    Calls Try.prog 12 #[.slice A L.length c, .int .i64 ev] w (Bld w ev (L.map D.t)) := by
  have HCK := Lib.hid (may_any A c L w h1)
  have hml := may_le (L.map D.t)
  by_cases hmay : may (L.map D.t) = 0
  · obtain ⟨hok, -, hlen⟩ := may_zero hmay
    rw [List.length_map] at hlen
    have hokL : ∀ d, d ∈ L → okT d.t = true := fun d hd => hok _ (List.mem_map.2 ⟨d, hd, rfl⟩)
    have HLY := Lib.hid (fun (W : World) (hb : Below w.heap.size w W) => build_any A c L (clamp ev) W (h1.next hb) hokL hlen (clamp_in ev))
    have HMAY := Lib.hid hmay
    have HBE := Lib.hid (bldB_ok (ev := ev) hmay)
    have HBT := Lib.hid (betw_any ev)
    rw [hmay] at HCK
    clear hmay hok hokL h1 hml
    generalize clamp ev = every at HLY HBE HBT
    go_enter Try.func12, Try.ntmps12
    go_wp2_with fail
    refine HCK.out.mono ?_
    rintro e W1 ⟨rfl, hb1⟩
    have HB1 := Lib.hid hb1
    clear hb1
    go_wp2_with fail
    refine (HBT.out W1).mono ?_
    rintro e w' ⟨rfl, rfl⟩
    go_wp2_with fail
    refine (HLY.out W1 HB1.out).mono ?_
    intro e W2 hmade
    obtain ⟨v2, rfl, ho2, -, hb2⟩ := made_byts hmade
    obtain ⟨A2, c2, hv2, -, -, -⟩ := own_parts ho2
    have HB2 := Lib.hid (HB1.out.trans (hb2.mono HB1.out.size))
    have HO2 := Lib.hid (own_lower ho2 HB1.out.size)
    subst hv2
    clear hmade ho2 hb2 HLY HCK
    go_wp2_with fail
    go_returns
    exact ⟨.slice A2 _ c2, by rw [HMAY.out]; rfl, by rw [HBE.out]; exact HO2.out, HB2.out⟩
  · have d1 : ((may (L.map D.t) : Int) != 0) = true := by rw [bne_iff_ne]; omega
    have HMAY := Lib.hid hmay
    clear hmay h1
    have hE := fun (W : World) (hb : Below w.heap.size w W) => Bld.no (ev := ev) HMAY.out hb
    have HE := Lib.hid hE
    clear hE
    generalize may (L.map D.t) = mm at HCK d1 HE hml
    go_enter Try.func12, Try.ntmps12
    go_wp2_with fail
    refine HCK.out.mono ?_
    rintro e W1 ⟨rfl, hb1⟩
    have HB1 := Lib.hid hb1
    clear hb1
    go_wp2_with fail
    go_returns
    exact HE.out _ HB1.out
end Go.Proofs.Ytaopbgildkjpcaa.Bk

/- Rows of entries that tell the same. -/
namespace Go.Proofs.Ytaopbgildkjpcaa.Sk
set_option linter.unusedVariables false
set_option linter.unusedSimpArgs false
open Go.RowKit Lift Ik
set_option maxRecDepth 100000 in
set_option maxHeartbeats 3200000 in
theorem same_entries (A1 A2 : Option Addr) (c1 c2 : Nat) (La Lb : List D) (w : World) (h1 : Ents w (· < w.heap.size) A1 c1 La) (h2 : Ents w (· < w.heap.size) A2 c2 Lb) (hs : La.map D.t = Lb.map D.t) (hn : Lb.length ≤ 1000) :
    Calls Try.prog 15 #[.slice A1 La.length c1, .slice A2 Lb.length c2] w fun e w' => e = .returned (.bool true) ∧ Below w.heap.size w w' := by
  have H1 := Lib.hid h1
  have H2 := Lib.hid h2
  have HS := Lib.hid hs
  have hc1 := h1.len
  have hm1 := h1.cap
  have hc2 := h2.len
  have hm2 := h2.cap
  unfold maxLen at hm1 hm2
  have hll : La.length = Lb.length := by have := congrArg List.length hs; simpa using this
  have HLL := Lib.hid hll
  rw [← hll] at hn
  have hne : ((La.length : Int) != (Lb.length : Int)) = false := by rw [hll]; simp
  clear h1 h2 hs hll
  go_enter Try.func15, Try.ntmps15
  go_wp2_with fail
  go_loopw [5] (fun i wr => ∃ j : Nat, j ≤ La.length ∧ i = .int .i64 j ∧ Hid (Below w.heap.size w wr)) (fun i _ => La.length + 1 - (intOf i).toNat)
  case atStart => exact ⟨0, by omega, rfl, Lib.hid (Below.refl _ _)⟩
  case round =>
    obtain ⟨j, hj, rfl, hb⟩ := hrel
    by_cases hlt : j < La.length
    · have hjb : j < Lb.length := by rw [← HLL.out]; exact hlt
      obtain ⟨da, hda⟩ : ∃ d, La[j]? = some d := ⟨_, List.getElem?_eq_getElem hlt⟩
      obtain ⟨db, hdb⟩ : ∃ d, Lb[j]? = some d := ⟨_, List.getElem?_eq_getElem hjb⟩
      have hte : da.t = db.t := by
        have h1 : (La.map D.t)[j]? = (Lb.map D.t)[j]? := by rw [HS.out]
        rw [List.getElem?_map, List.getElem?_map, hda, hdb] at h1
        simpa using h1
      obtain ⟨ad1, p1, hA1, -, hp1, -⟩ := H1.out.place hda
      subst hA1
      obtain ⟨ad2, p2, hA2, -, hp2, -⟩ := H2.out.place hdb
      subst hA2
      have HTE := Lib.hid hte
      have HJB := Lib.hid hjb
      have HDA := Lib.hid hda
      have HDB := Lib.hid hdb
      have HP1 := Lib.hid hp1
      have HP2 := Lib.hid hp2
      have HOA := Lib.hid (H1.out.ok da (List.mem_of_getElem? hda))
      have HOB := Lib.hid (H2.out.ok db (List.mem_of_getElem? hdb))
      clear hte hjb hda hdb hp1 hp2
      go_wp2_with fail
      refine wp_region_held_drew (S := fun w' => Hid (Below wr.heap.size wr w')) (by kernel_rfl) (Lib.hid (Below.refl _ _).drew) (fun hS => ?_)
      refine wpAnyH_take (i := 0) (v := ?_) rfl (by kernel_rfl) (by kernel_rfl) (by kernel_rfl) (fun _ _ _ h => h) (Or.inl ⟨by rfl, ?_⟩) hS ?_
      rotate_left
      · intro w hw
        go_simp
        try with_reducible rfl
      try simp only [Act.put, List.getElem_toArray, List.getElem_cons_succ, List.getElem_cons_zero, List.setIfInBounds_toArray, List.set_cons_zero, List.set_cons_succ]
      refine wpAnyH_take (i := 1) (v := ?_) rfl (by kernel_rfl) (by kernel_rfl) (by kernel_rfl) (fun _ _ _ h => h) (Or.inl ⟨by rfl, ?_⟩) hS ?_
      rotate_left
      · intro w hw
        go_simp
        try with_reducible rfl
      try simp only [Act.put, List.getElem_toArray, List.getElem_cons_succ, List.getElem_cons_zero, List.setIfInBounds_toArray, List.set_cons_zero, List.set_cons_succ]
      refine wpAnyH_take (i := 2) (v := ?_) rfl (by kernel_rfl) (by kernel_rfl) (by kernel_rfl) (fun _ _ _ h => h) (Or.inl ⟨by rfl, ?_⟩) hS ?_
      rotate_left
      · intro w hw
        have hp1 := HP1.out
        go_simp
        try with_reducible rfl
      try simp only [Act.put, List.getElem_toArray, List.getElem_cons_succ, List.getElem_cons_zero, List.setIfInBounds_toArray, List.set_cons_zero, List.set_cons_succ]
      refine wpAnyH_take (i := 3) (v := ?_) rfl (by kernel_rfl) (by kernel_rfl) (by kernel_rfl) (fun _ _ _ h => h) (Or.inl ⟨by rfl, ?_⟩) hS ?_
      rotate_left
      · intro w hw
        obtain ⟨ad', pi, hA, -, hpi, q0, q1, q2, q3⟩ := (H1.out.below (hb.out.trans (hw.out.mono hb.out.size))).place HDA.out
        injection hA with hA
        subst hA
        obtain rfl : pi = p1 := hpi.symm.trans HP1.out
        have hld := D.load q0 q1 q2 q3
        go_simp
        try with_reducible rfl
      try simp only [Act.put, List.getElem_toArray, List.getElem_cons_succ, List.getElem_cons_zero, List.setIfInBounds_toArray, List.set_cons_zero, List.set_cons_succ]
      refine wpAnyH_take (i := 4) (v := ?_) rfl (by kernel_rfl) (by kernel_rfl) (by kernel_rfl) (fun _ _ _ h => h) (Or.inl ⟨by rfl, ?_⟩) hS ?_
      rotate_left
      · intro w hw
        go_simp
        try with_reducible rfl
      try simp only [Act.put, List.getElem_toArray, List.getElem_cons_succ, List.getElem_cons_zero, List.setIfInBounds_toArray, List.set_cons_zero, List.set_cons_succ]
      refine wpAnyH_take (i := 5) (v := ?_) rfl (by kernel_rfl) (by kernel_rfl) (by kernel_rfl) (fun _ _ _ h => h) (Or.inl ⟨by rfl, ?_⟩) hS ?_
      rotate_left
      · intro w hw
        go_simp
        try with_reducible rfl
      try simp only [Act.put, List.getElem_toArray, List.getElem_cons_succ, List.getElem_cons_zero, List.setIfInBounds_toArray, List.set_cons_zero, List.set_cons_succ]
      refine wpAnyH_take (i := 6) (v := ?_) rfl (by kernel_rfl) (by kernel_rfl) (by kernel_rfl) (fun _ _ _ h => h) (Or.inl ⟨by rfl, ?_⟩) hS ?_
      rotate_left
      · intro w hw
        have hp2 := HP2.out
        have hjb := HJB.out
        go_simp
        try with_reducible rfl
      try simp only [Act.put, List.getElem_toArray, List.getElem_cons_succ, List.getElem_cons_zero, List.setIfInBounds_toArray, List.set_cons_zero, List.set_cons_succ]
      refine wpAnyH_take (i := 7) (v := ?_) rfl (by kernel_rfl) (by kernel_rfl) (by kernel_rfl) (fun _ _ _ h => h) (Or.inl ⟨by rfl, ?_⟩) hS ?_
      rotate_left
      · intro w hw
        obtain ⟨ad', pi, hA, -, hpi, q0, q1, q2, q3⟩ := (H2.out.below (hb.out.trans (hw.out.mono hb.out.size))).place HDB.out
        injection hA with hA
        subst hA
        obtain rfl : pi = p2 := hpi.symm.trans HP2.out
        have hld := D.load q0 q1 q2 q3
        go_simp
        try with_reducible rfl
      try simp only [Act.put, List.getElem_toArray, List.getElem_cons_succ, List.getElem_cons_zero, List.setIfInBounds_toArray, List.set_cons_zero, List.set_cons_succ]
      refine wpAnyH_ready (rs := [8]) (by kernel_rfl) (by simp) ?_
      refine AllReadyH.cons rfl (fun K hK => ?_) AllReadyH.nil
      go_simp
      have hb7 := hS.out
      have hb8 := hb.out.trans (hb7.mono hb.out.size)
      refine (same_entry da db _ (HOA.out.next hb8) (HOB.out.next hb8)).mono ?_
      rintro e W8 ⟨rfl, hb9⟩
      rw [sameD_eq HTE.out]
      have HB8 := Lib.hid (hb7.trans (hb9.mono hb7.size))
      clear hb7 hb8 hb9
      go_wp2_with fail
      refine hK.out _ _ HB8 (fun _ => ?_)
      clear hK K hS
      refine wpAnyH_other (S' := fun w' => Hid (Below W8.heap.size W8 w')) (fun w hw => Lib.hid (HB8.out.trans (hw.out.mono HB8.out.size))) _ _ _ _ ?_
      have hS : Hid (Below W8.heap.size W8 W8) := Lib.hid (Below.refl _ _)
      try simp only [Act.put, List.getElem_toArray, List.getElem_cons_succ, List.getElem_cons_zero, List.setIfInBounds_toArray, List.set_cons_zero, List.set_cons_succ]
      refine wpAnyH_take (i := 9) (v := ?_) rfl (by kernel_rfl) (by kernel_rfl) (by kernel_rfl) (fun _ _ _ h => h) (Or.inl ⟨by rfl, ?_⟩) hS ?_
      rotate_left
      · intro w hw
        go_simp
        try with_reducible rfl
      try simp only [Act.put, List.getElem_toArray, List.getElem_cons_succ, List.getElem_cons_zero, List.setIfInBounds_toArray, List.set_cons_zero, List.set_cons_succ]
      refine wpAnyH_done (by kernel_rfl) ?_ _
      have HREL := Lib.hid (hb.out.trans (HB8.out.mono hb.out.size))
      go_wp2_with fail
      go_roundw
      case rel => exact ⟨j + 1, by omega, by go_num, HREL⟩
      case measure => simp [intOf]; omega
    · go_wp2_with fail
      go_ret
      exact ⟨rfl, hb.out⟩
end Go.Proofs.Ytaopbgildkjpcaa.Sk

/- Package block: what All and Restarts answer; what the laws of chapter 11 share. -/
namespace Go.Proofs.Ytaopbgildkjpcaa.Bk
set_option linter.unusedVariables false
set_option linter.unusedSimpArgs false
open Go.RowKit Lift Ik Sk Vn
/-- A law answers true, and nothing old has changed. -/
def Yes (w : World) (e : Ending) (w' : World) : Prop := e = .returned (.bool true) ∧ Below w.heap.size w w'
theorem num_any (n : Int) (w : World) : Calls Try.prog 13 #[.int .i64 n] w fun e w' => e = .returned (.int .i64 n) ∧ w = w' := by
  go_enter Try.func13, Try.ntmps13
  go_wp2
  go_ret
  exact ⟨rfl, rfl⟩
theorem allB_le (bs : List Nat) : (allB bs).2 ≤ 10 := by
  unfold allB
  split
  · simp
  · split
    · simp
    · split <;> simp
/-- What All answers. -/
def Alls (w : World) (bs : List Nat) (e : Ending) (w' : World) : Prop :=
  Below w.heap.size w w' ∧ ∃ (A : Option Addr) (c : Nat) (L : List D), e = .returned (.tuple #[.slice A L.length c, .int .i64 ((allB bs).2 : Nat)]) ∧ L.map D.t = (allB bs).1 ∧ Ents w' (fun k => w.heap.size ≤ k ∧ k < w'.heap.size) A c L
set_option maxRecDepth 100000 in
theorem oall_any (A : Option Addr) (c : Nat) (bs : List Nat) (w : World) (hl : Lies w w.heap.size A (bs.map vb)) (hc : bs.length ≤ c) (hm : c ≤ maxLen) (hs : bs.length ≤ 50000000) (h8 : ∀ x, x ∈ bs → x < 256) :
    Calls Try.prog 14 #[.slice A bs.length c] w (Alls w bs) := by
  have HO := Lib.hid (oopen_any A c bs w hl hc hm hs h8)
  clear hl h8
  go_enter Try.func14, Try.ntmps14
  go_wp2_with fail
  refine HO.out.mono ?_
  rintro e W ⟨hb, (⟨h1, h2, rfl⟩ | ⟨h2, A1, A7, c1, L, hB, h1, rfl, hents, hown⟩)⟩
  · have H1 := Lib.hid h1
    have HB := Lib.hid hb
    have HN := Lib.hid (show (allB bs).2 = (allB bs).2 from rfl)
    clear h1 h2 hb HO
    obtain ⟨n, hn⟩ : ∃ n, n = (allB bs).2 := ⟨_, rfl⟩
    have HNN := Lib.hid hn
    rw [← hn]
    clear hn HN
    go_wp2_with fail
    go_returns
    exact ⟨HB.out, none, 0, [], by rw [← HNN.out]; rfl, by rw [H1.out]; rfl, Ents.zero _ _⟩
  · have H1 := Lib.hid h1
    have H2 := Lib.hid h2
    have HB := Lib.hid hb
    have HE := Lib.hid hents
    clear h1 h2 hb HO hB hents hown
    go_wp2_with fail
    go_returns
    exact ⟨HB.out, A1, c1, L, by rw [H2.out]; rfl, H1.out.symm, HE.out⟩
/-- The restarts that Restarts tells. -/
noncomputable def resB (bs : List Nat) : List Nat := if (allB bs).2 = 0 then rest bs else []
/-- What Restarts answers. -/
def Rsts (w : World) (bs : List Nat) (e : Ending) (w' : World) : Prop :=
  Below w.heap.size w w' ∧ ∃ (A : Option Addr) (c : Nat), e = .returned (.tuple #[.slice A (resB bs).length c, .int .i64 ((allB bs).2 : Nat)]) ∧ w'.ownsRow w.heap.size 3 1 (.slice A (resB bs).length c) (resB bs).length ((resB bs).map vn)
set_option maxRecDepth 100000 in
theorem orests_any (A : Option Addr) (c : Nat) (bs : List Nat) (w : World) (hl : Lies w w.heap.size A (bs.map vb)) (hc : bs.length ≤ c) (hm : c ≤ maxLen) (hs : bs.length ≤ 50000000) (h8 : ∀ x, x ∈ bs → x < 256) :
    Calls Try.prog 17 #[.slice A bs.length c] w (Rsts w bs) := by
  have HO := Lib.hid (oopen_any A c bs w hl hc hm hs h8)
  clear hl h8
  go_enter Try.func17, Try.ntmps17
  go_wp2_with fail
  refine HO.out.mono ?_
  rintro e W ⟨hb, (⟨h1, h2, rfl⟩ | ⟨h2, A1, A7, c1, L, hB, h1, rfl, hents, hown⟩)⟩
  · have HR : Hid (resB bs = []) := Lib.hid (if_neg h2)
    have HB := Lib.hid hb
    clear h1 h2 hb HO
    obtain ⟨n, hn⟩ : ∃ n, n = (allB bs).2 := ⟨_, rfl⟩
    have HNN := Lib.hid hn
    rw [← hn]
    clear hn
    go_wp2_with fail
    go_returns
    exact ⟨HB.out, none, 0, by rw [← HNN.out, HR.out]; rfl, by rw [HR.out]; exact World.ownsRow_nil _ _ _ _⟩
  · have HR : Hid (resB bs = rest bs) := Lib.hid (if_pos h2)
    have H2 := Lib.hid h2
    have HB := Lib.hid hb
    have HE := Lib.hid hown
    clear h1 h2 hb HO hB hents hown
    go_wp2_with fail
    go_returns
    exact ⟨HB.out, A7, (rest bs).length, by rw [H2.out, HR.out]; rfl, by rw [HR.out]; exact HE.out⟩
theorem may_nil : may [] = 0 := by decide
theorem blk_nil_len (every : Nat) : (blk every []).length = 8 := by rw [blk_len]; rfl
set_option maxRecDepth 100000 in
set_option maxHeartbeats 800000 in
theorem alive_any (w : World) : Calls Try.prog 9 #[] w (Yes w) := by
  have HBU := Lib.hid (obuild_any none 0 [] 4 w (Ents.zero _ _) (by simp))
  have hall : allB (blk (clamp 4) []) = ([], 0) := allB_ok ⟨may_nil, clamp 4, (clamp_in _).1, (clamp_in _).2, rfl⟩
  have HAL := Lib.hid hall
  clear hall
  go_enter Try.func9, Try.ntmps9
  go_wp2_with fail
  refine HBU.out.mono ?_
  rintro e W1 ⟨v, rfl, hown, hb1⟩
  rw [List.map_nil, bldB_ok may_nil] at hown
  rw [List.map_nil, may_nil]
  obtain ⟨A, c, rfl, hc, hm, hl⟩ := own_parts hown
  have h8 : ∀ x, x ∈ blk (clamp 4) [] → x < 256 := blk_byte (L := []) (by simp)
  have hlen := blk_nil_len (clamp 4)
  have HA := Lib.hid (oall_any A c (blk (clamp 4) []) W1 hl hc hm (by omega) h8)
  rw [hlen] at HA ⊢
  have HB1 := Lib.hid hb1
  clear hown hl h8 hlen hc hm hb1 HBU
  go_wp2_with fail
  refine HA.out.mono ?_
  rintro e W2 ⟨hb2, A2, c2, L, rfl, hL, -⟩
  rw [HAL.out] at hL ⊢
  obtain rfl : L = [] := List.map_eq_nil_iff.1 hL
  have HB2 := Lib.hid (HB1.out.trans (hb2.mono HB1.out.size))
  clear hL hb2 HA
  go_wp2_with fail
  refine (num_any _ W2).mono ?_
  rintro e w' ⟨rfl, rfl⟩
  go_wp2_with fail
  refine (num_any _ W2).mono ?_
  rintro e w' ⟨rfl, rfl⟩
  go_wp2_with fail
  go_ret
  exact ⟨rfl, HB2.out⟩
end Go.Proofs.Ytaopbgildkjpcaa.Bk
