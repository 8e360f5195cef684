/- Package block and the document: rows that tell the same, All, Restarts, the document's blocks, Seek. -/
import Derived.Test.YtobjiamdljjkjaaSfn2
import Derived.Deep.RegionHeld3
import Derived.LoopTactic
import Derived.Test.YtobjiamdljjkjaaJa
import Derived.Deep.QuietTactic
import Derived.BigQuiet
import Derived.Test.YtobjiamdljjkjaaBbld
import Derived.Test.YtobjiamdljjkjaaBrk
import Derived.Test.YtobjiamdljjkjaaBac
import Derived.Deep.DeepCutAuto
/- Rows of entries that tell the same. -/
namespace Go.Proofs.Ytobjiamdljjkjaa.Sk
set_option linter.unusedVariables false
set_option linter.unusedSimpArgs false
open Go.RowKit Lift Ik
set_option maxRecDepth 100000 in
set_option maxHeartbeats 3200000 in
theorem same_entries (A1 A2 : Option Addr) (c1 c2 : Nat) (La Lb : List D) (w : World) (h1 : Ents w (· < w.heap.size) A1 c1 La) (h2 : Ents w (· < w.heap.size) A2 c2 Lb) (hs : La.map D.t = Lb.map D.t) (hn : Lb.length ≤ 1000000) :
    Calls Try.prog 16 #[.slice A1 La.length c1, .slice A2 Lb.length c2] w fun e w' => e = .returned (.bool true) ∧ Below w.heap.size w w' := by
  have H1 := Lib.hid h1
  have H2 := Lib.hid h2
  have HS := Lib.hid hs
  have hc1 := h1.len
  have hm1 := h1.cap
  have hc2 := h2.len
  have hm2 := h2.cap
  unfold maxLen at hm1 hm2
  have hll : La.length = Lb.length := by have := congrArg List.length hs; simpa using this
  have HLL := Lib.hid hll
  rw [← hll] at hn
  have hne : ((La.length : Int) != (Lb.length : Int)) = false := by rw [hll]; simp
  clear h1 h2 hs hll
  go_enter Try.func16, Try.ntmps16
  go_wp2_with fail
  go_loopw [5] (fun i wr => ∃ j : Nat, j ≤ La.length ∧ i = .int .i64 j ∧ Hid (Below w.heap.size w wr)) (fun i _ => La.length + 1 - (intOf i).toNat)
  case atStart => exact ⟨0, by omega, rfl, Lib.hid (Below.refl _ _)⟩
  case round =>
    obtain ⟨j, hj, rfl, hb⟩ := hrel
    by_cases hlt : j < La.length
    · have hjb : j < Lb.length := by rw [← HLL.out]; exact hlt
      obtain ⟨da, hda⟩ : ∃ d, La[j]? = some d := ⟨_, List.getElem?_eq_getElem hlt⟩
      obtain ⟨db, hdb⟩ : ∃ d, Lb[j]? = some d := ⟨_, List.getElem?_eq_getElem hjb⟩
      have hte : da.t = db.t := by
        have h1 : (La.map D.t)[j]? = (Lb.map D.t)[j]? := by rw [HS.out]
        rw [List.getElem?_map, List.getElem?_map, hda, hdb] at h1
        simpa using h1
      obtain ⟨ad1, p1, hA1, -, hp1, -⟩ := H1.out.place hda
      subst hA1
      obtain ⟨ad2, p2, hA2, -, hp2, -⟩ := H2.out.place hdb
      subst hA2
      have HTE := Lib.hid hte
      have HJB := Lib.hid hjb
      have HDA := Lib.hid hda
      have HDB := Lib.hid hdb
      have HP1 := Lib.hid hp1
      have HP2 := Lib.hid hp2
      have HOA := Lib.hid (H1.out.ok da (List.mem_of_getElem? hda))
      have HOB := Lib.hid (H2.out.ok db (List.mem_of_getElem? hdb))
      clear hte hjb hda hdb hp1 hp2
      go_wp2_with fail
      refine wp_region_held_drew (S := fun w' => Hid (Below wr.heap.size wr w')) (by kernel_rfl) (Lib.hid (Below.refl _ _).drew) (fun hS => ?_)
      refine wpAnyH_take (i := 0) (v := ?_) rfl (by kernel_rfl) (by kernel_rfl) (by kernel_rfl) (fun _ _ _ h => h) (Or.inl ⟨by rfl, ?_⟩) hS ?_
      rotate_left
      · intro w hw
        go_simp
        try with_reducible rfl
      try simp only [Act.put, List.getElem_toArray, List.getElem_cons_succ, List.getElem_cons_zero, List.setIfInBounds_toArray, List.set_cons_zero, List.set_cons_succ]
      refine wpAnyH_take (i := 1) (v := ?_) rfl (by kernel_rfl) (by kernel_rfl) (by kernel_rfl) (fun _ _ _ h => h) (Or.inl ⟨by rfl, ?_⟩) hS ?_
      rotate_left
      · intro w hw
        go_simp
        try with_reducible rfl
      try simp only [Act.put, List.getElem_toArray, List.getElem_cons_succ, List.getElem_cons_zero, List.setIfInBounds_toArray, List.set_cons_zero, List.set_cons_succ]
      refine wpAnyH_take (i := 2) (v := ?_) rfl (by kernel_rfl) (by kernel_rfl) (by kernel_rfl) (fun _ _ _ h => h) (Or.inl ⟨by rfl, ?_⟩) hS ?_
      rotate_left
      · intro w hw
        have hp1 := HP1.out
        go_simp
        try with_reducible rfl
      try simp only [Act.put, List.getElem_toArray, List.getElem_cons_succ, List.getElem_cons_zero, List.setIfInBounds_toArray, List.set_cons_zero, List.set_cons_succ]
      refine wpAnyH_take (i := 3) (v := ?_) rfl (by kernel_rfl) (by kernel_rfl) (by kernel_rfl) (fun _ _ _ h => h) (Or.inl ⟨by rfl, ?_⟩) hS ?_
      rotate_left
      · intro w hw
        obtain ⟨ad', pi, hA, -, hpi, q0, q1, q2, q3⟩ := (H1.out.below (hb.out.trans (hw.out.mono hb.out.size))).place HDA.out
        injection hA with hA
        subst hA
        obtain rfl : pi = p1 := hpi.symm.trans HP1.out
        have hld := D.load q0 q1 q2 q3
        go_simp
        try with_reducible rfl
      try simp only [Act.put, List.getElem_toArray, List.getElem_cons_succ, List.getElem_cons_zero, List.setIfInBounds_toArray, List.set_cons_zero, List.set_cons_succ]
      refine wpAnyH_take (i := 4) (v := ?_) rfl (by kernel_rfl) (by kernel_rfl) (by kernel_rfl) (fun _ _ _ h => h) (Or.inl ⟨by rfl, ?_⟩) hS ?_
      rotate_left
      · intro w hw
        go_simp
        try with_reducible rfl
      try simp only [Act.put, List.getElem_toArray, List.getElem_cons_succ, List.getElem_cons_zero, List.setIfInBounds_toArray, List.set_cons_zero, List.set_cons_succ]
      refine wpAnyH_take (i := 5) (v := ?_) rfl (by kernel_rfl) (by kernel_rfl) (by kernel_rfl) (fun _ _ _ h => h) (Or.inl ⟨by rfl, ?_⟩) hS ?_
      rotate_left
      · intro w hw
        go_simp
        try with_reducible rfl
      try simp only [Act.put, List.getElem_toArray, List.getElem_cons_succ, List.getElem_cons_zero, List.setIfInBounds_toArray, List.set_cons_zero, List.set_cons_succ]
      refine wpAnyH_take (i := 6) (v := ?_) rfl (by kernel_rfl) (by kernel_rfl) (by kernel_rfl) (fun _ _ _ h => h) (Or.inl ⟨by rfl, ?_⟩) hS ?_
      rotate_left
      · intro w hw
        have hp2 := HP2.out
        have hjb := HJB.out
        go_simp
        try with_reducible rfl
      try simp only [Act.put, List.getElem_toArray, List.getElem_cons_succ, List.getElem_cons_zero, List.setIfInBounds_toArray, List.set_cons_zero, List.set_cons_succ]
      refine wpAnyH_take (i := 7) (v := ?_) rfl (by kernel_rfl) (by kernel_rfl) (by kernel_rfl) (fun _ _ _ h => h) (Or.inl ⟨by rfl, ?_⟩) hS ?_
      rotate_left
      · intro w hw
        obtain ⟨ad', pi, hA, -, hpi, q0, q1, q2, q3⟩ := (H2.out.below (hb.out.trans (hw.out.mono hb.out.size))).place HDB.out
        injection hA with hA
        subst hA
        obtain rfl : pi = p2 := hpi.symm.trans HP2.out
        have hld := D.load q0 q1 q2 q3
        go_simp
        try with_reducible rfl
      try simp only [Act.put, List.getElem_toArray, List.getElem_cons_succ, List.getElem_cons_zero, List.setIfInBounds_toArray, List.set_cons_zero, List.set_cons_succ]
      refine wpAnyH_ready (rs := [8]) (by kernel_rfl) (by simp) ?_
      refine AllReadyH.cons rfl (fun K hK => ?_) AllReadyH.nil
      go_simp
      have hb7 := hS.out
      have hb8 := hb.out.trans (hb7.mono hb.out.size)
      refine (same_entry da db _ (HOA.out.next hb8) (HOB.out.next hb8)).mono ?_
      rintro e W8 ⟨rfl, hb9⟩
      rw [sameD_eq HTE.out]
      have HB8 := Lib.hid (hb7.trans (hb9.mono hb7.size))
      clear hb7 hb8 hb9
      go_wp2_with fail
      refine hK.out _ _ HB8 (fun _ => ?_)
      clear hK K hS
      refine wpAnyH_other (S' := fun w' => Hid (Below W8.heap.size W8 w')) (fun w hw => Lib.hid (HB8.out.trans (hw.out.mono HB8.out.size))) _ _ _ _ ?_
      have hS : Hid (Below W8.heap.size W8 W8) := Lib.hid (Below.refl _ _)
      try simp only [Act.put, List.getElem_toArray, List.getElem_cons_succ, List.getElem_cons_zero, List.setIfInBounds_toArray, List.set_cons_zero, List.set_cons_succ]
      refine wpAnyH_take (i := 9) (v := ?_) rfl (by kernel_rfl) (by kernel_rfl) (by kernel_rfl) (fun _ _ _ h => h) (Or.inl ⟨by rfl, ?_⟩) hS ?_
      rotate_left
      · intro w hw
        go_simp
        try with_reducible rfl
      try simp only [Act.put, List.getElem_toArray, List.getElem_cons_succ, List.getElem_cons_zero, List.setIfInBounds_toArray, List.set_cons_zero, List.set_cons_succ]
      refine wpAnyH_done (by kernel_rfl) ?_ _
      have HREL := Lib.hid (hb.out.trans (HB8.out.mono hb.out.size))
      go_wp2_with fail
      go_roundw
      case rel => exact ⟨j + 1, by omega, by go_num, HREL⟩
      case measure => simp [intOf]; omega
    · go_wp2_with fail
      go_ret
      exact ⟨rfl, hb.out⟩
end Go.Proofs.Ytobjiamdljjkjaa.Sk

/- Package block: what All and Restarts answer; what the laws of chapter 11 share. -/
namespace Go.Proofs.Ytobjiamdljjkjaa.Bk
set_option linter.unusedVariables false
set_option linter.unusedSimpArgs false
open Go.RowKit Lift Ik Sk Vn
/-- A law answers true, and nothing old has changed. -/
def Yes (w : World) (e : Ending) (w' : World) : Prop := e = .returned (.bool true) ∧ Below w.heap.size w w'
theorem num_any (n : Int) (w : World) : Calls Try.prog 14 #[.int .i64 n] w fun e w' => e = .returned (.int .i64 n) ∧ w = w' := by
  go_enter Try.func14, Try.ntmps14
  go_wp2
  go_ret
  exact ⟨rfl, rfl⟩
/-- What All answers. -/
def Alls (w : World) (bs : List Nat) (e : Ending) (w' : World) : Prop :=
  Below w.heap.size w w' ∧ ∃ (A : Option Addr) (c : Nat) (L : List D), e = .returned (.tuple #[.slice A L.length c, .int .i64 ((allB bs).2 : Nat)]) ∧ L.map D.t = (allB bs).1 ∧ Ents w' (fun k => w.heap.size ≤ k ∧ k < w'.heap.size) A c L
set_option maxRecDepth 100000 in
set_option maxHeartbeats 800000 in
theorem oall_any (A : Option Addr) (c : Nat) (bs : List Nat) (w : World) (hl : Lies w w.heap.size A (bs.map vb)) (hc : bs.length ≤ c) (hm : c ≤ maxLen) (hs : bs.length ≤ 50000000) (h8 : ∀ x, x ∈ bs → x < 256) :
    Calls Try.prog 15 #[.slice A bs.length c] w (Alls w bs) := by
  have HO := Lib.hid (oread_blk A c bs w hl hc hm hs h8)
  clear hl h8
  go_enter Try.func15, Try.ntmps15
  go_wp2_with fail
  refine HO.out.mono ?_
  rintro e W ⟨hb, (⟨h1, h2, rfl⟩ | ⟨h2, A1, A7, c1, L, hB, h1, rfl, hents, hown⟩)⟩
  · have H1 := Lib.hid h1
    have H2 := Lib.hid h2
    have HB := Lib.hid hb
    obtain ⟨n, hn⟩ : ∃ n, n = (allB bs).2 := ⟨_, rfl⟩
    have HNN := Lib.hid hn
    rw [← hn]
    clear hn h1 h2 hb HO
    obtain ⟨o, ho⟩ : ∃ o : Obj, o = .cells #[.slice none 0 0, .slice none 0 0, .int .i64 0] 71 := ⟨_, rfl⟩
    have hx : Lift.Box (W.alloc o) W.heap.size 71 [.slice none 0 0, .slice none 0 0, .int .i64 0] := by rw [ho]; exact Lift.Box.new W _ _
    obtain ⟨f0, f1, f2, -, -, -⟩ := hx.facts3
    have HBW := Lib.hid (HB.out.trans ((Joins.below_alloc1 W o).mono HB.out.size))
    clear hx
    go_upto_region 2 with fail
    rw [← ho]
    clear ho
    generalize W.alloc o = W2 at *
    go_wp2_with fail
    go_returns
    exact ⟨HBW.out, none, 0, [], by rw [← HNN.out]; rfl, by rw [H1.out]; rfl, Ents.zero _ _⟩
  · have H1 := Lib.hid h1
    have H2 := Lib.hid h2
    have HB := Lib.hid hb
    have HE := Lib.hid hents
    have HW := Lib.hid hown
    clear h1 h2 hb HO hB hents hown
    obtain ⟨v, hv⟩ : ∃ v, v = evB bs := ⟨_, rfl⟩
    rw [← hv]
    obtain ⟨r, hr⟩ : ∃ r, r = (rest bs).length := ⟨_, rfl⟩
    have HR := Lib.hid hr
    rw [← hr]
    clear hv hr
    obtain ⟨o, ho⟩ : ∃ o : Obj, o = .cells #[.slice A1 L.length c1, .slice A7 r r, .int .i64 (v : Int)] 71 := ⟨_, rfl⟩
    have hx : Lift.Box (W.alloc o) W.heap.size 71 [.slice A1 L.length c1, .slice A7 r r, .int .i64 (v : Int)] := by rw [ho]; exact Lift.Box.new W _ _
    obtain ⟨f0, f1, f2, -, -, -⟩ := hx.facts3
    have hba := Joins.below_alloc1 W o
    have HBW := Lib.hid (HB.out.trans (hba.mono HB.out.size))
    have HE2 : Hid (Ents (W.alloc o) (fun k => w.heap.size ≤ k ∧ k < (W.alloc o).heap.size) A1 c1 L) := Lib.hid (HE.out.later (fun k hk => hba.block k hk.2) fun k hk => ⟨hk.1, Nat.lt_of_lt_of_le hk.2 hba.size⟩)
    have HW2 := Lib.hid (own_later HW.out hba)
    clear hx hba
    go_upto_region 2 with fail
    rw [← ho]
    clear ho
    generalize W.alloc o = W2 at *
    go_wp2_with fail
    go_returns
    exact ⟨HBW.out, A1, c1, L, by rw [H2.out]; rfl, H1.out.symm, HE2.out⟩
/-- The restarts that Restarts tells. -/
noncomputable def resB (bs : List Nat) : List Nat := if (allB bs).2 = 0 then rest bs else []
/-- What Restarts answers. -/
def Rsts (w : World) (bs : List Nat) (e : Ending) (w' : World) : Prop :=
  Below w.heap.size w w' ∧ ∃ (A : Option Addr) (c : Nat), e = .returned (.tuple #[.slice A (resB bs).length c, .int .i64 ((allB bs).2 : Nat)]) ∧ w'.ownsRow w.heap.size 3 1 (.slice A (resB bs).length c) (resB bs).length ((resB bs).map vn)
set_option maxRecDepth 100000 in
set_option maxHeartbeats 800000 in
theorem orests_any (A : Option Addr) (c : Nat) (bs : List Nat) (w : World) (hl : Lies w w.heap.size A (bs.map vb)) (hc : bs.length ≤ c) (hm : c ≤ maxLen) (hs : bs.length ≤ 50000000) (h8 : ∀ x, x ∈ bs → x < 256) :
    Calls Try.prog 18 #[.slice A bs.length c] w (Rsts w bs) := by
  have HO := Lib.hid (oread_blk A c bs w hl hc hm hs h8)
  clear hl h8
  go_enter Try.func18, Try.ntmps18
  go_wp2_with fail
  refine HO.out.mono ?_
  rintro e W ⟨hb, (⟨h1, h2, rfl⟩ | ⟨h2, A1, A7, c1, L, hB, h1, rfl, hents, hown⟩)⟩
  · have H1 := Lib.hid h1
    have H2 := Lib.hid h2
    have HB := Lib.hid hb
    obtain ⟨n, hn⟩ : ∃ n, n = (allB bs).2 := ⟨_, rfl⟩
    have HNN := Lib.hid hn
    rw [← hn]
    clear hn h1 h2 hb HO
    obtain ⟨o, ho⟩ : ∃ o : Obj, o = .cells #[.slice none 0 0, .slice none 0 0, .int .i64 0] 71 := ⟨_, rfl⟩
    have hx : Lift.Box (W.alloc o) W.heap.size 71 [.slice none 0 0, .slice none 0 0, .int .i64 0] := by rw [ho]; exact Lift.Box.new W _ _
    obtain ⟨f0, f1, f2, -, -, -⟩ := hx.facts3
    have HBW := Lib.hid (HB.out.trans ((Joins.below_alloc1 W o).mono HB.out.size))
    clear hx
    go_upto_region 2 with fail
    rw [← ho]
    clear ho
    generalize W.alloc o = W2 at *
    go_wp2_with fail
    go_returns
    have hR : resB bs = [] := if_neg H2.out
    exact ⟨HBW.out, none, 0, by rw [← HNN.out, hR]; rfl, by rw [hR]; exact World.ownsRow_nil _ _ _ _⟩
  · have H1 := Lib.hid h1
    have H2 := Lib.hid h2
    have HB := Lib.hid hb
    have HE := Lib.hid hents
    have HW := Lib.hid hown
    clear h1 h2 hb HO hB hents hown
    obtain ⟨v, hv⟩ : ∃ v, v = evB bs := ⟨_, rfl⟩
    rw [← hv]
    obtain ⟨r, hr⟩ : ∃ r, r = (rest bs).length := ⟨_, rfl⟩
    have HR := Lib.hid hr
    rw [← hr]
    clear hv hr
    obtain ⟨o, ho⟩ : ∃ o : Obj, o = .cells #[.slice A1 L.length c1, .slice A7 r r, .int .i64 (v : Int)] 71 := ⟨_, rfl⟩
    have hx : Lift.Box (W.alloc o) W.heap.size 71 [.slice A1 L.length c1, .slice A7 r r, .int .i64 (v : Int)] := by rw [ho]; exact Lift.Box.new W _ _
    obtain ⟨f0, f1, f2, -, -, -⟩ := hx.facts3
    have hba := Joins.below_alloc1 W o
    have HBW := Lib.hid (HB.out.trans (hba.mono HB.out.size))
    have HE2 : Hid (Ents (W.alloc o) (fun k => w.heap.size ≤ k ∧ k < (W.alloc o).heap.size) A1 c1 L) := Lib.hid (HE.out.later (fun k hk => hba.block k hk.2) fun k hk => ⟨hk.1, Nat.lt_of_lt_of_le hk.2 hba.size⟩)
    have HW2 := Lib.hid (own_later HW.out hba)
    clear hx hba
    go_upto_region 2 with fail
    rw [← ho]
    clear ho
    generalize W.alloc o = W2 at *
    go_wp2_with fail
    go_returns
    have hR : resB bs = rest bs := if_pos H2.out
    have hw3 := HW2.out
    rw [← HR.out] at hw3
    exact ⟨HBW.out, A7, r, by rw [H2.out, hR, ← HR.out]; rfl, by rw [hR, ← HR.out]; exact hw3⟩
theorem may_nil : may [] = 0 := by decide
theorem blk_nil_len (every : Nat) : (blk every []).length = 8 := by rw [blk_len]; rfl
set_option maxRecDepth 100000 in
set_option maxHeartbeats 800000 in
theorem alive_any (w : World) : Calls Try.prog 10 #[] w (Yes w) := by
  have HBU := Lib.hid (obuild_any none 0 [] 4 w (Ents.zero _ _) (by simp))
  have hall : allB (blk (clamp 4) []) = ([], 0) := allB_ok ⟨may_nil, clamp 4, (clamp_in _).1, (clamp_in _).2, rfl⟩
  have HAL := Lib.hid hall
  clear hall
  go_enter Try.func10, Try.ntmps10
  go_wp2_with fail
  refine HBU.out.mono ?_
  rintro e W1 ⟨v, rfl, hown, hb1⟩
  rw [List.map_nil, bldB_ok may_nil] at hown
  rw [List.map_nil, may_nil]
  obtain ⟨A, c, rfl, hc, hm, hl⟩ := own_parts hown
  have h8 : ∀ x, x ∈ blk (clamp 4) [] → x < 256 := blk_byte (L := []) (by simp)
  have hlen := blk_nil_len (clamp 4)
  have HA := Lib.hid (oall_any A c (blk (clamp 4) []) W1 hl hc hm (by omega) h8)
  rw [hlen] at HA ⊢
  have HB1 := Lib.hid hb1
  clear hown hl h8 hlen hc hm hb1 HBU
  go_wp2_with fail
  refine HA.out.mono ?_
  rintro e W2 ⟨hb2, A2, c2, L, rfl, hL, -⟩
  rw [HAL.out] at hL ⊢
  obtain rfl : L = [] := List.map_eq_nil_iff.1 hL
  have HB2 := Lib.hid (HB1.out.trans (hb2.mono HB1.out.size))
  clear hL hb2 HA
  go_wp2_with fail
  refine (num_any _ W2).mono ?_
  rintro e w' ⟨rfl, rfl⟩
  go_wp2_with fail
  refine (num_any _ W2).mono ?_
  rintro e w' ⟨rfl, rfl⟩
  go_wp2_with fail
  go_ret
  exact ⟨rfl, HB2.out⟩
end Go.Proofs.Ytobjiamdljjkjaa.Bk

/- The document's own reading of bytes as entries: loose. -/
namespace Go.Proofs.Ytobjiamdljjkjaa.Bk
set_option linter.unusedVariables false
set_option linter.unusedSimpArgs false
open Go.RowKit Lift Ik Sk Vn
open Vt (res)
/-- What loose answers. -/
def Loosed (w : World) (o : Option (List T)) (e : Ending) (w' : World) : Prop := match o with
  | none => e = .returned (.tuple #[.slice none 0 0, .bool false]) ∧ Below w.heap.size w w'
  | some ts => ∃ (A : Option Addr) (c : Nat) (L : List D), e = .returned (.tuple #[.slice A L.length c, .bool true]) ∧ L.map D.t = ts ∧ Ents w' (fun k => w.heap.size ≤ k ∧ k < w'.heap.size) A c L ∧ Below w.heap.size w w'
/-- What lies in memory in the middle of it. -/
structure Lo (w wr : World) (bs : List Nat) (p f : Nat) (A4 A5 : Option Addr) (c4 c5 : Nat) (L : List D) (last : List Nat) : Prop where
  ac : Ac w.heap.size wr (.slice A4 L.length c4) L
  below : Below w.heap.size w wr
  lies : Lies wr wr.heap.size A5 (last.map vb)
  h5 : last.length ≤ c5
  m5 : c5 ≤ maxLen
  b8 : ∀ x, x ∈ last → x < 256
  fuel : bs.length < p + f
  cnt : L.length ≤ p
  ll : last.length ≤ p
  pl : p ≤ bs.length
  eq : loose bs (bs.length + 1) 0 [] = (loose bs f p last).map (L.map D.t ++ ·)
set_option maxRecDepth 1000000 in
set_option maxHeartbeats 3200000 in
theorem loose_any (A : Option Addr) (cap : Nat) (bs : List Nat) (w : World) (hl : Lies w w.heap.size A (bs.map vb)) (hcap : bs.length ≤ cap) (hm : cap ≤ maxLen) (h8 : ∀ x, x ∈ bs → x < 256) (hs : bs.length ≤ 10000000) :
    Calls Try.prog 40 #[.slice A bs.length cap] w (Loosed w (loose bs (bs.length + 1) 0 [])) := by
  have HL := Lib.hid hl
  have H8 := Lib.hid h8
  have HM := Lib.hid hm
  have hml : bs.length ≤ maxLen := Nat.le_trans hcap hm
  unfold maxLen at hm
  have HML := Lib.hid hml
  clear hl h8 hml
  go_enter Try.func40, Try.ntmps40
  go_wp2_with fail
  go_loopw [4, 5, 6, 7, 8, 9, 10, 11, 12, 13, 14, 15, 16, 17, 18] (fun v4 v5 v6 z7 z8 z9 z10 z11 z12 z13 z14 z15 z16 z17 z18 wr => ∃ (p f : Nat) (A4 A5 : Option Addr) (c4 c5 : Nat) (L : List D) (last : List Nat), v4 = .slice A4 L.length c4 ∧ v5 = .slice A5 last.length c5 ∧ v6 = .int .i64 (p : Int) ∧ Hid (Lo w wr bs p f A4 A5 c4 c5 L last)) (fun _ _ p _ _ _ _ _ _ _ _ _ _ _ _ _ => bs.length + 1 - (intOf p).toNat)
  case atStart => exact ⟨0, bs.length + 1, none, none, 0, 0, [], [], rfl, rfl, rfl, Lib.hid ⟨Ac.nil _ _, Below.refl _ _, .inl rfl, Nat.le_refl _, by decide, by simp, by omega, Nat.le_refl _, Nat.le_refl _, Nat.zero_le _, by cases loose bs (bs.length + 1) 0 [] <;> simp⟩⟩
  case round =>
    obtain ⟨p, f, A4, A5, c4, c5, L, last, rfl, rfl, rfl, hlo⟩ := hrel
    have hpl : p ≤ bs.length := hlo.out.pl
    have hll : last.length ≤ p := hlo.out.ll
    have hlc := hlo.out.h5
    have hlm := hlo.out.m5
    unfold maxLen at hlm
    by_cases hlt : p < bs.length
    · obtain ⟨g, hfg⟩ : ∃ g, f = g + 1 := ⟨f - 1, by have := hlo.out.fuel; omega⟩
      have HFG := Lib.hid hfg
      have HLT := Lib.hid hlt
      have HNO : Hid (step bs p last = none → loose bs (bs.length + 1) 0 [] = none) := Lib.hid fun h => by
        rw [hlo.out.eq, HFG.out, loose_no HLT.out h]
        rfl
      clear hfg
      have hBL : Lies wr w.heap.size A (bs.map vb) := HL.out.below hlo.out.below
      obtain ⟨⟨c, a, e⟩, hr1⟩ : ∃ r, r = res bs (p : Int) := ⟨_, rfl⟩
      have G1 := Lib.hid (Vt.getv_calls A cap w.heap.size bs (p : Int) wr hBL hcap HML.out H8.out)
      rw [← hr1] at G1
      have R1 := Lib.hid hr1.symm
      clear hr1
      have hc64 : c < 18446744073709551616 := by
        have := R1.out
        have h2 : (res bs (p : Int)).1 = c := by rw [this]
        rw [← h2]
        unfold Vt.res
        split
        · simp
        · exact dec_lt _ 0 0 (by omega) (by simp)
      go_wp2_with fail
      refine G1.out.mono ?_
      rintro e1 w' ⟨rfl, rfl⟩
      unfold Vt.told
      simp only
      by_cases he1 : e = 0
      · by_cases hcl : last.length < c
        · have HN := Lib.hid (HNO.out (step_a (.inr (by rw [R1.out]; exact hcl))))
          have d1 : decide (last.length < c) = true := decide_eq_true hcl
          have d2 : (last.length : Int) < (c : Int) := by omega
          subst he1
          clear hBL
          go_wp2_with fail
          go_returns
          rw [HN.out]
          exact ⟨rfl, hlo.out.below⟩
        · subst he1
          obtain ⟨-, ha1, ha2⟩ := res_ok R1.out
          have d1 : decide (last.length < c) = false := decide_eq_false hcl
          have d2 : decide ((last.length : Int) < (c : Int)) = false := decide_eq_false (by omega)
          obtain ⟨⟨n, d, e⟩, hr2⟩ : ∃ r, r = res bs (a : Int) := ⟨_, rfl⟩
          have G2 := Lib.hid (Vt.getv_calls A cap w.heap.size bs (a : Int) wr hBL hcap HML.out H8.out)
          rw [← hr2] at G2
          have R2 := Lib.hid hr2.symm
          clear hr2
          go_wp2_with fail
          refine G2.out.mono ?_
          rintro e1 w' ⟨rfl, rfl⟩
          unfold Vt.told
          simp only
          by_cases he2 : e = 0
          · subst he2
            obtain ⟨hn64, hd1, hd2⟩ := res_ok R2.out
            obtain ⟨⟨v, q, e⟩, hr3⟩ : ∃ r, r = res bs (d : Int) := ⟨_, rfl⟩
            have G3 := Lib.hid (Vt.getv_calls A cap w.heap.size bs (d : Int) wr hBL hcap HML.out H8.out)
            rw [← hr3] at G3
            have R3 := Lib.hid hr3.symm
            clear hr3
            go_wp2_with fail
            refine G3.out.mono ?_
            rintro e1 w' ⟨rfl, rfl⟩
            unfold Vt.told
            simp only
            by_cases he3 : e = 0
            · subst he3
              obtain ⟨hv64, hq1, hq2⟩ := res_ok R3.out
              by_cases hnq : bs.length - q < n
              · have HN := Lib.hid (HNO.out (step_c R1.out hcl R2.out (.inr (.inl (by rw [R3.out]; exact hnq)))))
                have d3 : (bs.length : Int) - (q : Int) < (n : Int) := by omega
                clear hBL
                go_wp2_with fail
                go_returns
                rw [HN.out]
                exact ⟨rfl, hlo.out.below⟩
              · have d3 : decide ((bs.length : Int) - (q : Int) < (n : Int)) = false := decide_eq_false (by omega)
                by_cases hvq : bs.length - q - n < v
                · have HN := Lib.hid (HNO.out (step_c R1.out hcl R2.out (.inr (.inr (by rw [R3.out]; exact hvq)))))
                  have d4 : (bs.length : Int) - (q : Int) - (n : Int) < (v : Int) := by omega
                  clear hBL
                  go_wp2_with fail
                  go_returns
                  rw [HN.out]
                  exact ⟨rfl, hlo.out.below⟩
                · have d4 : decide ((bs.length : Int) - (q : Int) - (n : Int) < (v : Int)) = false := decide_eq_false (by omega)
                  have hnb : n ≤ 10000000 := by omega
                  have hvb : v ≤ 10000000 := by omega
                  have hcb : c ≤ 10000000 := by omega
                  obtain ⟨Ab, hAb, -, hcut2⟩ := cut_mid A bs.length cap q n (by omega) hcap HM.out
                  have hcut1 := cut_to64 A5 last.length c5 c (by omega) hlc hlo.out.m5
                  have hcut3 := hcut2
                  have HAB := Lib.hid hAb
                  have HCL := Lib.hid (show c ≤ last.length by omega)
                  have HQN := Lib.hid (show q + n + v ≤ bs.length ∧ p < q by omega)
                  have hqq : ((q : Int) + (n : Int)) = ((q : Int) + (n : Int)) := rfl
                  have hcut4 : ∀ W : World, Sem.run Try.prog (Instr.slice 25 (.slice A bs.length cap) (some (.int .i64 (q : Int))) (some (.int .i64 ((q : Int) + (n : Int)))) none) W = .ok (.slice Ab n (cap - q)) W := fun W => hcut2 W _ rfl
                  clear hcut2 hcut3 hqq hAb hBL
                  go_upto_region 14 with fail
                  refine wp_region_held_drew (S := fun w' => Hid (Below wr.heap.size wr w')) (by kernel_rfl) (Lib.hid (Below.refl _ _).drew) (fun hS => ?_)
                  refine wpAnyH_take (i := 0) (v := ?_) rfl (by kernel_rfl) (by kernel_rfl) (by kernel_rfl) (fun _ _ _ h => h) (Or.inl ⟨by rfl, ?_⟩) hS ?_
                  rotate_left
                  · intro w hw
                    go_simp
                    try with_reducible rfl
                  try simp only [Act.put, List.getElem_toArray, List.getElem_cons_succ, List.getElem_cons_zero, List.setIfInBounds_toArray, List.set_cons_zero, List.set_cons_succ]
                  refine wpAnyH_take (i := 1) (v := ?_) rfl (by kernel_rfl) (by kernel_rfl) (by kernel_rfl) (fun _ _ _ h => h) (Or.inl ⟨by rfl, ?_⟩) hS ?_
                  rotate_left
                  · intro w hw
                    go_simp
                    try with_reducible rfl
                  try simp only [Act.put, List.getElem_toArray, List.getElem_cons_succ, List.getElem_cons_zero, List.setIfInBounds_toArray, List.set_cons_zero, List.set_cons_succ]
                  refine wpAnyH_take (i := 2) (v := ?_) rfl (by kernel_rfl) (by kernel_rfl) (by kernel_rfl) (fun _ _ _ h => h) (Or.inl ⟨by rfl, ?_⟩) hS ?_
                  rotate_left
                  · intro w hw
                    go_simp
                    try with_reducible rfl
                  try simp only [Act.put, List.getElem_toArray, List.getElem_cons_succ, List.getElem_cons_zero, List.setIfInBounds_toArray, List.set_cons_zero, List.set_cons_succ]
                  refine wpAnyH_take (i := 4) (v := ?_) rfl (by kernel_rfl) (by kernel_rfl) (by kernel_rfl) (fun _ _ _ h => h) (Or.inl ⟨by rfl, ?_⟩) hS ?_
                  rotate_left
                  · intro w hw
                    go_simp
                    try with_reducible rfl
                  try simp only [Act.put, List.getElem_toArray, List.getElem_cons_succ, List.getElem_cons_zero, List.setIfInBounds_toArray, List.set_cons_zero, List.set_cons_succ]
                  refine wpAnyH_take (i := 5) (v := ?_) rfl (by kernel_rfl) (by kernel_rfl) (by kernel_rfl) (fun _ _ _ h => h) (Or.inl ⟨by rfl, ?_⟩) hS ?_
                  rotate_left
                  · intro w hw
                    go_simp
                    try with_reducible rfl
                  try simp only [Act.put, List.getElem_toArray, List.getElem_cons_succ, List.getElem_cons_zero, List.setIfInBounds_toArray, List.set_cons_zero, List.set_cons_succ]
                  refine wpAnyH_take (i := 6) (v := ?_) rfl (by kernel_rfl) (by kernel_rfl) (by kernel_rfl) (fun _ _ _ h => h) (Or.inl ⟨by rfl, ?_⟩) hS ?_
                  rotate_left
                  · intro w hw
                    go_simp
                    try with_reducible rfl
                  try simp only [Act.put, List.getElem_toArray, List.getElem_cons_succ, List.getElem_cons_zero, List.setIfInBounds_toArray, List.set_cons_zero, List.set_cons_succ]
                  refine wpAnyH_take (i := 7) (v := ?_) rfl (by kernel_rfl) (by kernel_rfl) (by kernel_rfl) (fun _ _ _ h => h) (Or.inl ⟨by rfl, ?_⟩) hS ?_
                  rotate_left
                  · intro w hw
                    go_simp
                    try with_reducible rfl
                  try simp only [Act.put, List.getElem_toArray, List.getElem_cons_succ, List.getElem_cons_zero, List.setIfInBounds_toArray, List.set_cons_zero, List.set_cons_succ]
                  refine wpAnyH_take (i := 8) (v := ?_) rfl (by kernel_rfl) (by kernel_rfl) (by kernel_rfl) (fun _ _ _ h => h) (Or.inl ⟨by rfl, ?_⟩) hS ?_
                  rotate_left
                  · intro w hw
                    have ew : IntKind.i64.wrap (n : Int) = (n : Int) := IntWalk.i64_in _ (by omega)
                    go_simp
                    try with_reducible rfl
                  try simp only [Act.put, List.getElem_toArray, List.getElem_cons_succ, List.getElem_cons_zero, List.setIfInBounds_toArray, List.set_cons_zero, List.set_cons_succ]
                  refine wpAnyH_take (i := 9) (v := ?_) rfl (by kernel_rfl) (by kernel_rfl) (by kernel_rfl) (fun _ _ _ h => h) (Or.inl ⟨by rfl, ?_⟩) hS ?_
                  rotate_left
                  · intro w hw
                    have ew : IntKind.i64.wrap ((q : Int) + (n : Int)) = (q : Int) + (n : Int) := IntWalk.i64_in _ (by omega)
                    go_simp
                    try with_reducible rfl
                  try simp only [Act.put, List.getElem_toArray, List.getElem_cons_succ, List.getElem_cons_zero, List.setIfInBounds_toArray, List.set_cons_zero, List.set_cons_succ]
                  refine wpAnyH_take (i := 10) (v := ?_) rfl (by kernel_rfl) (by kernel_rfl) (by kernel_rfl) (fun _ _ _ h => h) (Or.inl ⟨by rfl, ?_⟩) hS ?_
                  rotate_left
                  · intro w hw
                    go_simp
                    try with_reducible rfl
                  try simp only [Act.put, List.getElem_toArray, List.getElem_cons_succ, List.getElem_cons_zero, List.setIfInBounds_toArray, List.set_cons_zero, List.set_cons_succ]
                  have HB0 : Hid (Below wr.heap.size wr wr.drew) := Lib.hid (Below.refl _ _).drew
                  generalize wr.drew = V at hS HB0 ⊢
                  have htk : (last.take c).length = c := by rw [List.length_take]; have := HCL.out; omega
                  have htd : ((bs.drop q).take n).length = n := by rw [List.length_take, List.length_drop]; have := HQN.out; omega
                  obtain ⟨A8, c8, W8, hr8, hown8, hb8⟩ := fresh_bytes A5 c5 V.heap.size (last.take c) V (((hlo.out.lies.below HB0.out).up HB0.out.size).front (by rw [List.map_take]; exact List.take_prefix _ _)) (by omega)
                  rw [htk] at hr8
                  have hbL8 : Lies W8 w.heap.size Ab (((bs.drop q).take n).map vb) := Lies.cut (((HL.out.below hlo.out.below).below (HB0.out.mono hlo.out.below.size)).below (hb8.mono (Nat.le_trans hlo.out.below.size HB0.out.size))) (fun h => HAB.out (by rw [htd] at h; exact h)) (List.take_prefix _ _)
                  obtain ⟨v9, W9x, hr9, hown9, hon9⟩ := append_bytes (c := cap - q) hown8 hbL8 (by omega) hb8.size
                  rw [htd, htk] at hr9
                  have hb9 := hon9.below hown8 hb8.size
                  obtain ⟨kb, hkb⟩ : ∃ kb, kb = last.take c ++ (bs.drop q).take n := ⟨_, rfl⟩
                  rw [← hkb] at hown9
                  obtain ⟨A9, c9, rfl, hc9, hm9, hl9⟩ := own_parts hown9
                  have hkl : kb.length = c + n := by rw [hkb, List.length_append, htk, htd]
                  have hk8 : ∀ x, x ∈ kb → x < 256 := by
                    intro x hx
                    rw [hkb] at hx
                    rcases List.mem_append.1 hx with hx | hx
                    · exact hlo.out.b8 x (List.mem_of_mem_take hx)
                    · exact H8.out x (List.mem_of_mem_drop (List.mem_of_mem_take hx))
                  have hbV9 : Below wr.heap.size wr W9x := HB0.out.trans ((hb8.trans hb9).mono HB0.out.size)
                  have HRK := Lib.hid (rread_allF A9 c9 kb W9x hl9 hc9 hm9 hk8 (by omega))
                  have HKB := Lib.hid hkb
                  have HKL := Lib.hid hkl
                  have HK8 := Lib.hid hk8
                  have HL9 := Lib.hid hl9
                  have HF9 : Hid (LiesP W9x (Fresh wr.heap.size W9x) A9 (kb.map vb)) := Lib.hid ((LiesP.of_own hown9).later (fun _ _ => rfl) fun k hk => ⟨Nat.le_trans HB0.out.size hk.1, hk.2⟩)
                  have HC9 := Lib.hid (show kb.length ≤ c9 ∧ c9 ≤ maxLen from ⟨hc9, hm9⟩)
                  have HR8 := Lib.hid hr8
                  have HR9 := Lib.hid hr9
                  have HB8 : Hid (Below wr.heap.size wr W8) := Lib.hid (HB0.out.trans (hb8.mono HB0.out.size))
                  have HB9 := Lib.hid hbV9
                  clear htk htd hr8 hown8 hb8 hbL8 hr9 hown9 hon9 hb9 hkb hc9 hm9 hl9 hkl hk8 hbV9
                  refine wpAnyH_ready (rs := [3]) (by kernel_rfl) (by simp) ?_
                  refine (AllReadyH.cons rfl (fun K hK => ?_) AllReadyH.nil)
                  refine held_append rfl _ _ 25 rfl rfl rfl HR8.out ?_
                  refine hK.out _ _ HB8 (fun hS => ?_)
                  clear hK K
                  try simp only [Act.put, List.getElem_toArray, List.getElem_cons_succ, List.getElem_cons_zero, List.setIfInBounds_toArray, List.set_cons_zero, List.set_cons_succ]
                  refine wpAnyH_ready (rs := [11]) (by kernel_rfl) (by simp) ?_
                  refine (AllReadyH.cons rfl (fun K hK => ?_) AllReadyH.nil)
                  refine held_append rfl _ _ 25 rfl rfl rfl HR9.out ?_
                  refine hK.out _ _ HB9 (fun hS => ?_)
                  clear hK K
                  try simp only [Act.put, List.getElem_toArray, List.getElem_cons_succ, List.getElem_cons_zero, List.setIfInBounds_toArray, List.set_cons_zero, List.set_cons_succ]
                  refine wpAnyH_take (i := 12) (v := ?_) rfl (by kernel_rfl) (by kernel_rfl) (by kernel_rfl) (fun _ _ _ h => h) (Or.inl ⟨by rfl, ?_⟩) hS ?_
                  rotate_left
                  · intro w hw
                    go_simp
                    try with_reducible rfl
                  try simp only [Act.put, List.getElem_toArray, List.getElem_cons_succ, List.getElem_cons_zero, List.setIfInBounds_toArray, List.set_cons_zero, List.set_cons_succ]
                  refine wpAnyH_done (by kernel_rfl) ?_ _
                  go_wp2_with fail
                  refine HRK.out.mono ?_
                  rintro e W9 ⟨Ax, cx, rfl, hax, hbx, hlx⟩
                  have HAX := Lib.hid hax
                  have HBX := Lib.hid hbx
                  have HLX := Lib.hid hlx
                  clear hax hbx hlx HRK
                  go_upto_region 16 with fail
                  have HWX : Hid (Below wr.heap.size wr (W9.alloc (kbox Ax cx (resK kb)))) := Lib.hid ((HB9.out.trans (HBX.out.mono HB9.out.size)).trans (Joins.below_alloc1 _ _ |>.mono (HB9.out.trans (HBX.out.mono HB9.out.size)).size))
                  have HLD : Hid (∀ W : World, W.heap[W9.heap.size]? = (W9.alloc (kbox Ax cx (resK kb))).heap[W9.heap.size]? → W.cell? ⟨W9.heap.size, 0, none⟩ = some (.slice Ax (resK kb).key.length cx) ∧ W.cell? ⟨W9.heap.size, 1, none⟩ = some (.int .u64 ((resK kb).seq : Int)) ∧ W.cell? ⟨W9.heap.size, 2, none⟩ = some (.int .i64 (resK kb).kind)) := Lib.hid fun W hW => load_kbox W9 W hW
                  have HTY : Hid (∃ cs fr, (W9.alloc (kbox Ax cx (resK kb))).heap[W9.heap.size]? = some (.cells cs 38 fr)) := Lib.hid ⟨_, _, heap_alloc_new W9 _⟩
                  have HSZ : Hid (Below W9.heap.size W9 (W9.alloc (kbox Ax cx (resK kb)))) := Lib.hid (Joins.below_alloc1 _ _)
                  generalize W9.alloc (kbox Ax cx (resK kb)) = WB at HWX HLD HTY HSZ ⊢
                  by_cases hre : resE kb = 0
                  · have d5 : (((resE kb : Nat) : Int) != 0) = false := by rw [hre]; rfl
                    have HRE := Lib.hid hre
                    have HSTEP : Hid (step bs p last = some (⟨resK kb, (bs.drop (q + n)).take v⟩, kb, q + n + v)) := Lib.hid (by
                      rw [step_d R1.out hcl R2.out R3.out hnq hvq, ← HKB.out, hre]
                      rfl)
                    clear hre
                    obtain ⟨Av, hAv, -, hcutv⟩ := cut_mid A bs.length cap (q + n) v HQN.out.1 hcap HM.out
                    have hcut5 : ∀ W : World, Sem.run Try.prog (Instr.slice 25 (.slice A bs.length cap) (some (.int .i64 ((q : Int) + (n : Int)))) (some (.int .i64 ((q : Int) + (n : Int) + (v : Int)))) none) W = .ok (.slice Av v (cap - (q + n))) W := fun W => by
                      rw [show (q : Int) + (n : Int) = ((q + n : Nat) : Int) from by simp]
                      exact hcutv W _ rfl
                    have HAV := Lib.hid hAv
                    clear hcutv hAv
                    go_upto_region 19 with fail
                    refine wp_region_held_drew (S := fun w' => Hid (w'.heap[W9.heap.size]? = WB.heap[W9.heap.size]?)) (by kernel_rfl) (Lib.hid rfl) (fun hS => ?_)
                    refine wpAnyH_take (i := 0) (v := ?_) rfl (by kernel_rfl) (by kernel_rfl) (by kernel_rfl) (fun _ _ _ h => h) (Or.inl ⟨by rfl, ?_⟩) hS ?_
                    rotate_left
                    · intro w hw
                      go_simp
                      try with_reducible rfl
                    try simp only [Act.put, List.getElem_toArray, List.getElem_cons_succ, List.getElem_cons_zero, List.setIfInBounds_toArray, List.set_cons_zero, List.set_cons_succ]
                    refine wpAnyH_take (i := 1) (v := ?_) rfl (by kernel_rfl) (by kernel_rfl) (by kernel_rfl) (fun _ _ _ h => h) (Or.inl ⟨by rfl, ?_⟩) hS ?_
                    rotate_left
                    · intro w hw
                      obtain ⟨p0, p1, p2⟩ := HLD.out w hw.out
                      go_simp
                      try with_reducible rfl
                    try simp only [Act.put, List.getElem_toArray, List.getElem_cons_succ, List.getElem_cons_zero, List.setIfInBounds_toArray, List.set_cons_zero, List.set_cons_succ]
                    refine wpAnyH_take (i := 2) (v := ?_) rfl (by kernel_rfl) (by kernel_rfl) (by kernel_rfl) (fun _ _ _ h => h) (Or.inl ⟨by rfl, ?_⟩) hS ?_
                    rotate_left
                    · intro w hw
                      go_simp
                      try with_reducible rfl
                    try simp only [Act.put, List.getElem_toArray, List.getElem_cons_succ, List.getElem_cons_zero, List.setIfInBounds_toArray, List.set_cons_zero, List.set_cons_succ]
                    refine wpAnyH_take (i := 3) (v := ?_) rfl (by kernel_rfl) (by kernel_rfl) (by kernel_rfl) (fun _ _ _ h => h) (Or.inl ⟨by rfl, ?_⟩) hS ?_
                    rotate_left
                    · intro w hw
                      go_simp
                      try with_reducible rfl
                    try simp only [Act.put, List.getElem_toArray, List.getElem_cons_succ, List.getElem_cons_zero, List.setIfInBounds_toArray, List.set_cons_zero, List.set_cons_succ]
                    refine wpAnyH_take (i := 4) (v := ?_) rfl (by kernel_rfl) (by kernel_rfl) (by kernel_rfl) (fun _ _ _ h => h) (Or.inl ⟨by rfl, ?_⟩) hS ?_
                    rotate_left
                    · intro w hw
                      go_simp
                      try with_reducible rfl
                    try simp only [Act.put, List.getElem_toArray, List.getElem_cons_succ, List.getElem_cons_zero, List.setIfInBounds_toArray, List.set_cons_zero, List.set_cons_succ]
                    refine wpAnyH_take (i := 5) (v := ?_) rfl (by kernel_rfl) (by kernel_rfl) (by kernel_rfl) (fun _ _ _ h => h) (Or.inl ⟨by rfl, ?_⟩) hS ?_
                    rotate_left
                    · intro w hw
                      have ew : IntKind.i64.wrap (n : Int) = (n : Int) := IntWalk.i64_in _ (by omega)
                      go_simp
                      try with_reducible rfl
                    try simp only [Act.put, List.getElem_toArray, List.getElem_cons_succ, List.getElem_cons_zero, List.setIfInBounds_toArray, List.set_cons_zero, List.set_cons_succ]
                    refine wpAnyH_take (i := 6) (v := ?_) rfl (by kernel_rfl) (by kernel_rfl) (by kernel_rfl) (fun _ _ _ h => h) (Or.inl ⟨by rfl, ?_⟩) hS ?_
                    rotate_left
                    · intro w hw
                      have ew : IntKind.i64.wrap ((q : Int) + (n : Int)) = (q : Int) + (n : Int) := IntWalk.i64_in _ (by omega)
                      go_simp
                      try with_reducible rfl
                    try simp only [Act.put, List.getElem_toArray, List.getElem_cons_succ, List.getElem_cons_zero, List.setIfInBounds_toArray, List.set_cons_zero, List.set_cons_succ]
                    refine wpAnyH_take (i := 7) (v := ?_) rfl (by kernel_rfl) (by kernel_rfl) (by kernel_rfl) (fun _ _ _ h => h) (Or.inl ⟨by rfl, ?_⟩) hS ?_
                    rotate_left
                    · intro w hw
                      go_simp
                      try with_reducible rfl
                    try simp only [Act.put, List.getElem_toArray, List.getElem_cons_succ, List.getElem_cons_zero, List.setIfInBounds_toArray, List.set_cons_zero, List.set_cons_succ]
                    refine wpAnyH_take (i := 8) (v := ?_) rfl (by kernel_rfl) (by kernel_rfl) (by kernel_rfl) (fun _ _ _ h => h) (Or.inl ⟨by rfl, ?_⟩) hS ?_
                    rotate_left
                    · intro w hw
                      go_simp
                      try with_reducible rfl
                    try simp only [Act.put, List.getElem_toArray, List.getElem_cons_succ, List.getElem_cons_zero, List.setIfInBounds_toArray, List.set_cons_zero, List.set_cons_succ]
                    have HB1 : Hid (Below WB.heap.size WB WB.drew) := Lib.hid (Below.refl _ _).drew
                    generalize WB.drew = VB at hS HB1 ⊢
                    obtain ⟨val, hval⟩ : ∃ val, val = (bs.drop (q + n)).take v := ⟨_, rfl⟩
                    have hvl : val.length = v := by rw [hval, List.length_take, List.length_drop]; have := HQN.out; omega
                    have hwV : Below w.heap.size w VB := hlo.out.below.trans ((HWX.out.trans (HB1.out.mono HWX.out.size)).mono hlo.out.below.size)
                    have hvV : Lies VB w.heap.size Av (val.map vb) := by
                      rw [hval]
                      refine Lies.cut (HL.out.below hwV) (fun h => HAV.out ?_) (List.take_prefix _ _)
                      rw [← hval, hvl] at h
                      exact h
                    obtain ⟨A10, c10, W10, hr10, hown10, hb10⟩ := fresh_bytes Av (cap - (q + n)) w.heap.size val VB hvV (by omega)
                    rw [hvl] at hr10
                    obtain ⟨_, _, hv10, hc10, hm10, -⟩ := own_parts hown10
                    injection hv10 with hv10 _ hv10'
                    subst hv10 hv10'
                    obtain ⟨d0, hd0⟩ : ∃ d0 : D, d0 = ⟨Ax, cx, resK kb, A10, c10, val⟩ := ⟨_, rfl⟩
                    have h910 : Below W9.heap.size W9 W10 := HSZ.out.trans ((HB1.out.trans (hb10.mono HB1.out.size)).mono HSZ.out.size)
                    have hwr9 : Below wr.heap.size wr W9 := HB9.out.trans (HBX.out.mono HB9.out.size)
                    have hwr10 : Below wr.heap.size wr W10 := hwr9.trans (h910.mono hwr9.size)
                    have hok0 : d0.Ok W10 (Fresh w.heap.size W10) := by
                      rw [hd0]
                      refine ⟨HLX.out.later (fun k hk => h910.block k hk.2.1) fun k hk => Fresh.below h910 k (Fresh.low (Nat.le_trans hlo.out.below.size HB9.out.size) k hk), HAX.out.2.1, HAX.out.2.2.1, HAX.out.2.2.2, (LiesP.of_own hown10).later (fun _ _ => rfl) fun k hk => ⟨Nat.le_trans hwV.size hk.1, hk.2⟩, hc10, hm10, ?_⟩
                      intro x hx
                      rw [show (⟨Ax, cx, resK kb, A10, c10, val⟩ : D).val = val from rfl, hval] at hx
                      exact H8.out x (List.mem_of_mem_drop (List.mem_of_mem_take hx))
                    obtain ⟨v12, W12, hr12, hac12, hb12, hk12⟩ := more2 (hlo.out.ac.below hwr10) hok0 (Nat.le_trans hlo.out.below.size hwr10.size) (by have := hlo.out.cnt; omega)
                    have hf910 : ∀ k, Fresh wr.heap.size W9x k → W12.heap[k]? = W9x.heap[k]? := fun k hk => by
                      obtain ⟨k1, k2, cs, fr, k3⟩ := hk
                      have e1 : W10.heap[k]? = W9x.heap[k]? := by rw [h910.block k (Nat.lt_of_lt_of_le k2 HBX.out.size), HBX.out.block k k2]
                      exact (hk12 k cs _ fr (e1.trans k3) (by decide)).trans e1
                    have h9size : W9x.heap.size ≤ W12.heap.size := Nat.le_trans HBX.out.size (Nat.le_trans h910.size hb12.size)
                    have hl12 : Lies W12 W12.heap.size A9 (kb.map vb) := (HF9.out.later (R' := (· < W12.heap.size)) hf910 fun k hk => Nat.lt_of_lt_of_le hk.2.1 h9size).lies fun k hk => hk
                    have hbw12 : Below w.heap.size w W12 := (hlo.out.below.trans (hwr10.mono hlo.out.below.size)).trans hb12
                    have h1110 : W10.heap[W9.heap.size]? = WB.heap[W9.heap.size]? := by
                      have hlt9 : W9.heap.size < WB.heap.size := by
                        obtain ⟨cs, fr, h⟩ := HTY.out
                        rcases Nat.lt_or_ge W9.heap.size WB.heap.size with hq | hq
                        · exact hq
                        · rw [Array.getElem?_eq_none hq] at h; cases h
                      exact (HB1.out.trans (hb10.mono HB1.out.size)).block _ hlt9
                    have HS10 : Hid (W10.heap[W9.heap.size]? = WB.heap[W9.heap.size]?) := Lib.hid h1110
                    have HS11 : Hid ((W10.alloc (ebox d0)).heap[W9.heap.size]? = WB.heap[W9.heap.size]?) := Lib.hid (by
                      rw [← h1110]
                      refine (Joins.below_alloc1 W10 (ebox d0)).block _ ?_
                      obtain ⟨cs, fr, h⟩ := HTY.out
                      rcases Nat.lt_or_ge W9.heap.size W10.heap.size with hq | hq
                      · exact hq
                      · rw [← h1110, Array.getElem?_eq_none hq] at h; cases h)
                    have HS12 : Hid (W12.heap[W9.heap.size]? = WB.heap[W9.heap.size]?) := Lib.hid (by
                      obtain ⟨cs, fr, h⟩ := HTY.out
                      exact (hk12 _ cs _ fr (h1110.trans h) (by decide)).trans h1110)
                    have hlen12 : (L ++ [d0]).length = L.length + 1 := by simp
                    have HEQ : Hid (loose bs (bs.length + 1) 0 [] = (loose bs g (q + n + v) kb).map ((L ++ [d0]).map D.t ++ ·)) := Lib.hid (by
                      rw [hlo.out.eq, HFG.out, loose_one HLT.out HSTEP.out]
                      have e0 : d0.t = ⟨resK kb, (bs.drop (q + n)).take v⟩ := by rw [hd0, ← hval]; rfl
                      rw [← e0]
                      cases loose bs g (q + n + v) kb <;> simp)
                    obtain ⟨A12, c12, hv12, hc12, hm12, -⟩ := own_parts hac12.own
                    subst hv12
                    have HREL : Hid (Lo w W12 bs (q + n + v) g A12 A9 c12 c9 (L ++ [d0]) kb) := Lib.hid ⟨hac12, hbw12, hl12, HC9.out.1, HC9.out.2, HK8.out, by have := hlo.out.fuel; have := HFG.out; have := HQN.out; omega, by rw [hlen12]; have := hlo.out.cnt; have := HQN.out; omega, by rw [HKL.out]; have := HQN.out; have := HCL.out; omega, HQN.out.1, HEQ.out⟩
                    have hbox : ebox d0 = .cells #[.slice Ax (resK kb).key.length cx, .int .u64 ((resK kb).seq : Int), .int .i64 (resK kb).kind, .slice A10 v c10] 48 := by rw [hd0, ← hvl]
                    have HS11 : Hid ((W10.alloc (.cells #[.slice Ax (resK kb).key.length cx, .int .u64 ((resK kb).seq : Int), .int .i64 (resK kb).kind, .slice A10 v c10] 48)).heap[W9.heap.size]? = WB.heap[W9.heap.size]?) := Lib.hid (by have := HS11.out; rwa [hbox] at this)
                    rw [hbox] at hr12
                    have HED := Lib.hid hd0
                    have HVL := Lib.hid hvl
                    have HR10 := Lib.hid hr10
                    have HR12 := Lib.hid hr12
                    clear hbox hval hvl hwV hvV hr10 hown10 hb10 hc10 hm10 hd0 h910 hwr9 hwr10 hok0 hr12 hac12 hb12 hk12 hf910 h9size hl12 hbw12 h1110 hlen12 hc12 hm12
                    refine wpAnyH_ready (rs := [9]) (by kernel_rfl) (by simp) ?_
                    refine (AllReadyH.cons rfl (fun K hK => ?_) AllReadyH.nil)
                    refine held_append rfl _ _ 25 rfl rfl rfl HR10.out ?_
                    refine hK.out _ _ HS10 (fun hS => ?_)
                    clear hK K
                    try simp only [Act.put, List.getElem_toArray, List.getElem_cons_succ, List.getElem_cons_zero, List.setIfInBounds_toArray, List.set_cons_zero, List.set_cons_succ]
                    refine wpAnyH_take (i := 10) (v := ?_) rfl (by kernel_rfl) (by kernel_rfl) (by kernel_rfl) (fun _ _ _ h => h) (Or.inl ⟨by rfl, ?_⟩) hS ?_
                    rotate_left
                    · intro w hw
                      go_simp
                      try with_reducible rfl
                    try simp only [Act.put, List.getElem_toArray, List.getElem_cons_succ, List.getElem_cons_zero, List.setIfInBounds_toArray, List.set_cons_zero, List.set_cons_succ]
                    refine wpAnyH_ready (rs := [11]) (by kernel_rfl) (by simp) ?_
                    refine (AllReadyH.cons rfl (fun K hK => ?_) AllReadyH.nil)
                    go_simp
                    refine hK.out _ _ HS11 (fun hS => ?_)
                    clear hK K
                    try simp only [Act.put, List.getElem_toArray, List.getElem_cons_succ, List.getElem_cons_zero, List.setIfInBounds_toArray, List.set_cons_zero, List.set_cons_succ]
                    refine wpAnyH_ready (rs := [12]) (by kernel_rfl) (by simp) ?_
                    refine (AllReadyH.cons rfl (fun K hK => ?_) AllReadyH.nil)
                    refine held_append rfl _ _ 22 rfl rfl rfl HR12.out ?_
                    refine hK.out _ _ HS12 (fun hS => ?_)
                    clear hK K
                    try simp only [Act.put, List.getElem_toArray, List.getElem_cons_succ, List.getElem_cons_zero, List.setIfInBounds_toArray, List.set_cons_zero, List.set_cons_succ]
                    refine wpAnyH_take (i := 13) (v := ?_) rfl (by kernel_rfl) (by kernel_rfl) (by kernel_rfl) (fun _ _ _ h => h) (Or.inl ⟨by rfl, ?_⟩) hS ?_
                    rotate_left
                    · intro w hw
                      go_simp
                      try with_reducible rfl
                    try simp only [Act.put, List.getElem_toArray, List.getElem_cons_succ, List.getElem_cons_zero, List.setIfInBounds_toArray, List.set_cons_zero, List.set_cons_succ]
                    refine wpAnyH_done (by kernel_rfl) ?_ _
                    go_wp2_with fail
                    go_roundw
                    case rel => exact ⟨q + n + v, g, A12, A9, c12, c9, L ++ [d0], kb, by first | rfl | simp, by rw [HKL.out], by go_num, HREL⟩
                    case measure => simp [intOf]; have := HQN.out; omega
                  · have d5 : (((resE kb : Nat) : Int) != 0) = true := by rw [bne_iff_ne]; omega
                    have HN := Lib.hid (HNO.out (by rw [step_d R1.out hcl R2.out R3.out hnq hvq, ← HKB.out, if_pos hre]))
                    go_wp2_with fail
                    go_returns
                    rw [HN.out]
                    exact ⟨rfl, hlo.out.below.trans (HWX.out.mono hlo.out.below.size)⟩
            · have HN := Lib.hid (HNO.out (step_c R1.out hcl R2.out (.inl (by rw [R3.out]; exact he3))))
              have d3 : ((e : Int) != 0) = true := by rw [bne_iff_ne]; omega
              clear hBL
              go_wp2_with fail
              go_returns
              rw [HN.out]
              exact ⟨rfl, hlo.out.below⟩
          · have HN := Lib.hid (HNO.out (step_b R1.out hcl (by rw [R2.out]; exact he2)))
            have d3 : ((e : Int) != 0) = true := by rw [bne_iff_ne]; omega
            clear hBL
            go_wp2_with fail
            go_returns
            rw [HN.out]
            exact ⟨rfl, hlo.out.below⟩
      · have HN := Lib.hid (HNO.out (step_a (.inl (by rw [R1.out]; exact he1))))
        have d3 : ((e : Int) != 0) = true := by rw [bne_iff_ne]; omega
        clear hBL
        go_wp2_with fail
        go_returns
        rw [HN.out]
        exact ⟨rfl, hlo.out.below⟩
    · have hE : loose bs (bs.length + 1) 0 [] = some (L.map D.t) := by
        obtain ⟨g, hfg⟩ : ∃ g, f = g + 1 := ⟨f - 1, by have := hlo.out.fuel; omega⟩
        rw [hlo.out.eq, hfg, loose_end (by omega)]
        simp
      have HE := Lib.hid hE
      obtain ⟨A', c', hv, ⟨A2, c2, L2, he2, ht2, hen2, hb2⟩⟩ := hlo.out.ac.gave hlo.out.below
      injection he2 with he2
      have HEN := Lib.hid hen2
      have HT2 := Lib.hid ht2
      have HV := Lib.hid he2
      clear hE hv he2 ht2 hen2 hb2
      go_wp2_with fail
      go_returns
      rw [HE.out]
      exact ⟨A2, c2, L2, by rw [← HV.out]; rfl, HT2.out, HEN.out, hlo.out.below⟩
end Go.Proofs.Ytobjiamdljjkjaa.Bk

/- The document's own reading of a block: BlockAll. -/
namespace Go.Proofs.Ytobjiamdljjkjaa.Bk
set_option linter.unusedVariables false
set_option linter.unusedSimpArgs false
open Go.RowKit Lift Ik Sk Vn
/-- What BlockAll answers. -/
def Ball (w : World) (bs : List Nat) (e : Ending) (w' : World) : Prop :=
  Below w.heap.size w w' ∧ ∃ (A : Option Addr) (c : Nat) (L : List D) (ev : Int), e = .returned (.tuple #[.slice A L.length c, .int .i64 ev, .int .i64 ((allB bs).2 : Nat)]) ∧ L.map D.t = (allB bs).1 ∧ Ents w' (fun k => w.heap.size ≤ k ∧ k < w'.heap.size) A c L
/-- What BlockAll answers, and which interval it tells. -/
def BallE (w : World) (bs : List Nat) (e : Ending) (w' : World) : Prop :=
  Below w.heap.size w w' ∧ ∃ (A : Option Addr) (c : Nat) (L : List D) (ev : Int), e = .returned (.tuple #[.slice A L.length c, .int .i64 ev, .int .i64 ((allB bs).2 : Nat)]) ∧ L.map D.t = (allB bs).1 ∧ Ents w' (fun k => w.heap.size ≤ k ∧ k < w'.heap.size) A c L ∧
    ((allB bs).2 = 0 → ∃ m : Nat, ev = (m : Int) ∧ 1 ≤ m ∧ blk m (allB bs).1 = bs ∧ ∀ i, 1 ≤ i → i < m → blk i (allB bs).1 ≠ bs)
theorem BallE.ball {w w' : World} {bs : List Nat} {e : Ending} (h : BallE w bs e w') : Ball w bs e w' := by
  obtain ⟨h1, A, c, L, ev, h2, h3, h4, -⟩ := h
  exact ⟨h1, A, c, L, ev, h2, h3, h4⟩
theorem balle_bad {w w' : World} {bs : List Nat} {n : Nat} (hn : n ≠ 0) (h : allB bs = ([], n)) (hb : Below w.heap.size w w') : BallE w bs (.returned (.tuple #[.slice none 0 0, .int .i64 0, .int .i64 (n : Int)])) w' :=
  ⟨hb, none, 0, [], 0, by rw [h]; rfl, by rw [h]; rfl, Ents.zero _ _, fun h0 => by rw [h] at h0; exact absurd h0 hn⟩
theorem isB_every {bs : List Nat} {ts : List T} (h : raw bs = some ts) (hno : ∀ i, 1 ≤ i → i < 101 → blk i ts ≠ bs) : ¬ ∃ us, IsB bs us := fun ⟨us, hu⟩ => by
  have h1 := (isB_raw hu).2.2.2
  rw [h] at h1
  injection h1 with h1
  subst h1
  obtain ⟨-, ev, h2, h3, h4⟩ := hu
  exact hno ev h2 (by omega) h4
set_option maxRecDepth 1000000 in
set_option maxHeartbeats 3200000 in
theorem balle_any (A : Option Addr) (c : Nat) (bs : List Nat) (w : World) (hl : Lies w w.heap.size A (bs.map vb)) (hc : bs.length ≤ c) (hm : c ≤ maxLen) (hs : bs.length ≤ 10000000) (h8 : ∀ x, x ∈ bs → x < 256) :
    Calls Try.prog 17 #[.slice A bs.length c] w (BallE w bs) := by
  have HL := Lib.hid hl
  have H8 := Lib.hid h8
  have HM := Lib.hid hm
  have hcs := hm
  unfold maxLen at hcs
  by_cases h8l : bs.length < 8
  · have HE := Lib.hid (allB_short h8l)
    have d1 : decide ((bs.length : Int) < 8) = true := decide_eq_true (by omega)
    clear hl h8
    go_enter Try.func17, Try.ntmps17
    go_wp2_with fail
    go_returns
    exact balle_bad (by decide) HE.out (Below.refl _ _)
  · have d1 : decide ((bs.length : Int) < 8) = false := decide_eq_false (by omega)
    have d1' : ¬ (bs.length : Int) < 8 := by omega
    obtain ⟨m, hmm⟩ : ∃ m, bs.length = m + 8 := ⟨bs.length - 8, by omega⟩
    have H8L := Lib.hid h8l
    have HMM := Lib.hid hmm
    have e4 : bs.length - 4 = m + 4 := by omega
    have e8 : bs.length - 8 = m := by omega
    have HE4 := Lib.hid e4
    have HE8 := Lib.hid e8
    obtain ⟨A4, hA4, -, hcutA⟩ := cut_from A bs.length c (m + 4) (by omega) hc hm
    rw [show bs.length - (m + 4) = 4 from by omega] at hcutA hA4
    have hcutB := cut_to A bs.length c (m + 4) (by omega) hc hm
    have ei4 : (bs.length : Int) - 4 = (m : Int) + 4 := by omega
    have ei8 : (bs.length : Int) - 8 = (m : Int) := by omega
    have HCA : Hid (∀ W : World, Sem.run Try.prog (Instr.slice 25 (.slice A bs.length c) (some (.int .i64 ((m : Int) + 4))) none none) W = .ok (.slice A4 4 (c - (m + 4))) W) := Lib.hid fun W => by
      have h := hcutA W
      rwa [show (((m + 4 : Nat) : Int)) = (m : Int) + 4 from by omega] at h
    have HCB : Hid (∀ W : World, Sem.run Try.prog (Instr.slice 25 (.slice A bs.length c) none (some (.int .i64 ((m : Int) + 4))) none) W = .ok (.slice A (m + 4) c) W) := Lib.hid fun W => by
      have h := hcutB W
      rwa [show (((m + 4 : Nat) : Int)) = (m : Int) + 4 from by omega] at h
    have hd4 : (bs.drop (m + 4)).length = 4 := by rw [List.length_drop]; omega
    have ht4 : (bs.take (m + 4)).length = m + 4 := by rw [List.length_take]; omega
    have hlA : Lies w w.heap.size A4 ((bs.drop (m + 4)).map vb) := Lies.cut hl (fun _ => hA4 (by omega)) (List.prefix_refl _)
    have hlB : Lies w w.heap.size A ((bs.take (m + 4)).map vb) := hl.front (by rw [List.map_take]; exact List.take_prefix _ _)
    have HR1 : Hid (∀ W : World, Below w.heap.size w W → Sem.run Try.prog (convert 25 9 (.slice A4 4 (c - (m + 4)))) W = .ok (.string (str (bs.drop (m + 4)))) W) := Lib.hid fun W hb => by
      have h := run_str (c := c - (m + 4)) (hlA.below hb)
      rwa [hd4] at h
    have HMK : Hid (∀ W : World, Below w.heap.size w W → Calls Try.prog 38 #[.slice A (m + 4) c] W (Made W.heap.size W (sum4 (bs.take (m + 4))))) := Lib.hid fun W hb => by
      have h := masked_any A c w.heap.size (bs.take (m + 4)) W (hlB.below hb) (by rw [ht4]; omega) hm (fun x hx => h8 x (List.mem_of_mem_take hx))
      rwa [ht4] at h
    have hse := str_eq (x := bs.drop (m + 4)) (y := sum4 (bs.take (m + 4))) (fun x hx => h8 x (List.mem_of_mem_drop hx)) (sum4_byte _)
    have HSL : Hid ((sum4 (bs.take (m + 4))).length = 4) := Lib.hid (sum4_len _)
    obtain ⟨sm, hsm⟩ : ∃ sm, sm = sum4 (bs.take (m + 4)) := ⟨_, rfl⟩
    rw [← hsm] at hse HMK HSL
    have HSM := Lib.hid hsm
    have hm6 : m ≤ 10000000 := by omega
    have hbl6 : bs.length ≤ 10000000 := hs
    have HSE : Hid (((str (bs.drop (m + 4))).toList == (str sm).toList) = decide (bs.drop (m + 4) = sm)) := Lib.hid hse
    clear hl h8 hmm e4 e8 h8l hd4 ht4 hlA hlB hcutA hcutB hsm hA4 hse
    go_enter Try.func17, Try.ntmps17
    go_upto_region 3 with fail
    refine wp_region_held_drew (S := fun w' => Hid (Below w.heap.size w w')) (by kernel_rfl) (Lib.hid (Below.refl _ _).drew) (fun hS => ?_)
    refine wpAnyH_take (i := 0) (v := ?_) rfl (by kernel_rfl) (by kernel_rfl) (by kernel_rfl) (fun _ _ _ h => h) (Or.inl ⟨by rfl, ?_⟩) hS ?_
    rotate_left
    · intro wi hw
      go_simp
      try with_reducible rfl
    try simp only [Act.put, List.getElem_toArray, List.getElem_cons_succ, List.getElem_cons_zero, List.setIfInBounds_toArray, List.set_cons_zero, List.set_cons_succ]
    refine wpAnyH_take (i := 1) (v := ?_) rfl (by kernel_rfl) (by kernel_rfl) (by kernel_rfl) (fun _ _ _ h => h) (Or.inl ⟨by rfl, ?_⟩) hS ?_
    rotate_left
    · intro wi hw
      go_simp
      try with_reducible rfl
    try simp only [Act.put, List.getElem_toArray, List.getElem_cons_succ, List.getElem_cons_zero, List.setIfInBounds_toArray, List.set_cons_zero, List.set_cons_succ]
    refine wpAnyH_take (i := 2) (v := ?_) rfl (by kernel_rfl) (by kernel_rfl) (by kernel_rfl) (fun _ _ _ h => h) (Or.inl ⟨by rfl, ?_⟩) hS ?_
    rotate_left
    · intro wi hw
      go_simp
      try with_reducible rfl
    try simp only [Act.put, List.getElem_toArray, List.getElem_cons_succ, List.getElem_cons_zero, List.setIfInBounds_toArray, List.set_cons_zero, List.set_cons_succ]
    refine wpAnyH_take (i := 3) (v := ?_) rfl (by kernel_rfl) (by kernel_rfl) (by kernel_rfl) (fun _ _ _ h => h) (Or.inl ⟨by rfl, ?_⟩) hS ?_
    rotate_left
    · intro wi hw
      have ew : IntKind.i64.wrap ((m : Int) + 4) = (m : Int) + 4 := IntWalk.i64_in _ (by omega)
      have ew2 : IntKind.i64.wrap ((bs.length : Int) - 4) = (bs.length : Int) - 4 := IntWalk.i64_in _ (by omega)
      go_simp
      try with_reducible rfl
    try simp only [Act.put, List.getElem_toArray, List.getElem_cons_succ, List.getElem_cons_zero, List.setIfInBounds_toArray, List.set_cons_zero, List.set_cons_succ]
    refine wpAnyH_take (i := 4) (v := ?_) rfl (by kernel_rfl) (by kernel_rfl) (by kernel_rfl) (fun _ _ _ h => h) (Or.inl ⟨by rfl, ?_⟩) hS ?_
    rotate_left
    · intro wi hw
      have hca := HCA.out
      go_simp
      try with_reducible rfl
    try simp only [Act.put, List.getElem_toArray, List.getElem_cons_succ, List.getElem_cons_zero, List.setIfInBounds_toArray, List.set_cons_zero, List.set_cons_succ]
    refine wpAnyH_take (i := 5) (v := ?_) rfl (by kernel_rfl) (by kernel_rfl) (by kernel_rfl) (fun _ _ _ h => h) (Or.inl ⟨by rfl, ?_⟩) hS ?_
    rotate_left
    · intro wi hw
      have hr1 := HR1.out wi hw.out
      go_simp
      try with_reducible rfl
    try simp only [Act.put, List.getElem_toArray, List.getElem_cons_succ, List.getElem_cons_zero, List.setIfInBounds_toArray, List.set_cons_zero, List.set_cons_succ]
    refine wpAnyH_take (i := 6) (v := ?_) rfl (by kernel_rfl) (by kernel_rfl) (by kernel_rfl) (fun _ _ _ h => h) (Or.inl ⟨by rfl, ?_⟩) hS ?_
    rotate_left
    · intro wi hw
      go_simp
      try with_reducible rfl
    try simp only [Act.put, List.getElem_toArray, List.getElem_cons_succ, List.getElem_cons_zero, List.setIfInBounds_toArray, List.set_cons_zero, List.set_cons_succ]
    refine wpAnyH_take (i := 7) (v := ?_) rfl (by kernel_rfl) (by kernel_rfl) (by kernel_rfl) (fun _ _ _ h => h) (Or.inl ⟨by rfl, ?_⟩) hS ?_
    rotate_left
    · intro wi hw
      go_simp
      try with_reducible rfl
    try simp only [Act.put, List.getElem_toArray, List.getElem_cons_succ, List.getElem_cons_zero, List.setIfInBounds_toArray, List.set_cons_zero, List.set_cons_succ]
    refine wpAnyH_take (i := 8) (v := ?_) rfl (by kernel_rfl) (by kernel_rfl) (by kernel_rfl) (fun _ _ _ h => h) (Or.inl ⟨by rfl, ?_⟩) hS ?_
    rotate_left
    · intro wi hw
      go_simp
      try with_reducible rfl
    try simp only [Act.put, List.getElem_toArray, List.getElem_cons_succ, List.getElem_cons_zero, List.setIfInBounds_toArray, List.set_cons_zero, List.set_cons_succ]
    refine wpAnyH_take (i := 9) (v := ?_) rfl (by kernel_rfl) (by kernel_rfl) (by kernel_rfl) (fun _ _ _ h => h) (Or.inl ⟨by rfl, ?_⟩) hS ?_
    rotate_left
    · intro wi hw
      have ew : IntKind.i64.wrap ((m : Int) + 4) = (m : Int) + 4 := IntWalk.i64_in _ (by omega)
      have ew2 : IntKind.i64.wrap ((bs.length : Int) - 4) = (bs.length : Int) - 4 := IntWalk.i64_in _ (by omega)
      go_simp
      try with_reducible rfl
    try simp only [Act.put, List.getElem_toArray, List.getElem_cons_succ, List.getElem_cons_zero, List.setIfInBounds_toArray, List.set_cons_zero, List.set_cons_succ]
    refine wpAnyH_take (i := 10) (v := ?_) rfl (by kernel_rfl) (by kernel_rfl) (by kernel_rfl) (fun _ _ _ h => h) (Or.inl ⟨by rfl, ?_⟩) hS ?_
    rotate_left
    · intro wi hw
      have hcb := HCB.out
      go_simp
      try with_reducible rfl
    try simp only [Act.put, List.getElem_toArray, List.getElem_cons_succ, List.getElem_cons_zero, List.setIfInBounds_toArray, List.set_cons_zero, List.set_cons_succ]
    refine wpAnyH_ready (rs := [11]) (by kernel_rfl) (by simp) ?_
    refine (AllReadyH.cons rfl (fun K hK => ?_) AllReadyH.nil)
    go_simp
    have hb7 := hS.out
    refine (HMK.out _ hb7).mono ?_
    intro e W8 hmade
    obtain ⟨v8, rfl, -, ⟨A8, c8, hv8, h1, h2, h3⟩, hb8⟩ := made_byts hmade
    rw [HSL.out] at hv8 h1
    subst hv8
    have HB8 := Lib.hid (hb7.trans (hb8.mono hb7.size))
    have HR2 : Hid (∀ W : World, Below W8.heap.size W8 W → Sem.run Try.prog (convert 25 9 (.slice A8 4 c8)) W = .ok (.string (str sm)) W) := Lib.hid fun W hb => by
      have h := run_str (c := c8) (h3.below hb)
      rwa [HSL.out] at h
    clear hmade hb8 h1 h2 h3
    go_wp2_with fail
    refine hK.out _ _ HB8 (fun _ => ?_)
    clear hK K hS
    refine wpAnyH_other (S' := fun w' => Hid (Below W8.heap.size W8 w')) (fun w hw => Lib.hid (HB8.out.trans (hw.out.mono HB8.out.size))) _ _ _ _ ?_
    have hS : Hid (Below W8.heap.size W8 W8) := Lib.hid (Below.refl _ _)
    try simp only [Act.put, List.getElem_toArray, List.getElem_cons_succ, List.getElem_cons_zero, List.setIfInBounds_toArray, List.set_cons_zero, List.set_cons_succ]
    refine wpAnyH_take (i := 12) (v := ?_) rfl (by kernel_rfl) (by kernel_rfl) (by kernel_rfl) (fun _ _ _ h => h) (Or.inl ⟨by rfl, ?_⟩) hS ?_
    rotate_left
    · intro wi hw
      have hr2 := HR2.out wi hw.out
      go_simp
      try with_reducible rfl
    try simp only [Act.put, List.getElem_toArray, List.getElem_cons_succ, List.getElem_cons_zero, List.setIfInBounds_toArray, List.set_cons_zero, List.set_cons_succ]
    refine wpAnyH_take (i := 13) (v := ?_) rfl (by kernel_rfl) (by kernel_rfl) (by kernel_rfl) (fun _ _ _ h => h) (Or.inl ⟨by rfl, ?_⟩) hS ?_
    rotate_left
    · intro wi hw
      have hse := HSE.out
      have hse2 : ((str (bs.drop (m + 4))).toList != (str sm).toList) = !decide (bs.drop (m + 4) = sm) := by rw [← hse]; rfl
      go_simp
      try with_reducible rfl
    try simp only [Act.put, List.getElem_toArray, List.getElem_cons_succ, List.getElem_cons_zero, List.setIfInBounds_toArray, List.set_cons_zero, List.set_cons_succ]
    refine wpAnyH_done (by kernel_rfl) ?_ _
    by_cases hsum : bs.drop (m + 4) = sm
    · have hsum2 : bs.drop (bs.length - 4) = sum4 (bs.take (bs.length - 4)) := by rw [HE4.out, ← HSM.out]; exact hsum
      have HSUM := Lib.hid hsum2
      have d3 : decide (bs.drop (m + 4) = sm) = true := decide_eq_true hsum
      rw [d3]
      clear hsum hsum2 d3
      obtain ⟨n, hn⟩ : ∃ n, n = cnt bs := ⟨_, rfl⟩
      have HN := Lib.hid hn
      have HG : Hid (Calls Try.prog 39 #[.slice A bs.length c, .int .i64 (m : Int), .int .i64 4] W8 fun e w' => e = .returned (.int .u64 (n : Nat)) ∧ W8 = w') := Lib.hid (by
        have h := get_any A c w.heap.size m 4 bs W8 (HL.out.below HB8.out) hc HM.out H8.out (by omega) (by have := HMM.out; omega)
        rw [hn]
        unfold cnt
        rw [HE8.out]
        exact h)
      have hnl : n < 4294967296 := by
        rw [hn]
        unfold cnt
        rw [HE8.out]
        have h1 := num_lt ((bs.drop m).take 4) fun x hx => H8.out x (List.mem_of_mem_drop (List.mem_of_mem_take hx))
        have h2 : ((bs.drop m).take 4).length = 4 := by rw [List.length_take, List.length_drop]; have := HMM.out; omega
        rwa [h2] at h1
      clear hn
      go_wp2_with fail
      refine HG.out.mono ?_
      rintro e w' ⟨rfl, rfl⟩
      clear HG
      have eq4 : (m : Int) / 4 = ((m / 4 : Nat) : Int) := by omega
      by_cases hbig : m / 4 < n
      · have HE : Hid (allB bs = ([], 2)) := Lib.hid (allB_bad H8L.out HSUM.out fun ⟨us, hu⟩ => by have := (isB_raw hu).2.2.1; rw [HE8.out, ← HN.out] at this; omega)
        have d4 : decide ((m : Int) / 4 < (n : Int)) = true := decide_eq_true (by omega)
        have d5 : decide (m / 4 < n) = true := decide_eq_true hbig
        clear eq4
        go_wp2_with fail
        go_returns
        exact balle_bad (by decide) HE.out HB8.out
      · have d4 : decide ((m : Int) / 4 < (n : Int)) = false := decide_eq_false (by omega)
        have d5 : decide (m / 4 < n) = false := decide_eq_false hbig
        obtain ⟨F, hF⟩ : ∃ F, m = F + 4 * n := ⟨m - 4 * n, by omega⟩
        have eF : (m : Int) - 4 * (n : Int) = (F : Int) := by omega
        have hFl : (front bs).length = F := by unfold front; rw [List.length_take, HE8.out, ← HN.out]; have := HMM.out; omega
        have hn1 : n ≤ 10000000 := by omega
        have hcF := cut_to A bs.length c F (by have := HMM.out; omega) hc HM.out
        have HLO : Hid (Calls Try.prog 40 #[.slice A F c] W8 (Loosed W8 (raw bs))) := Lib.hid (by
          have h := loose_any A c (front bs) W8 (((HL.out.below HB8.out).up HB8.out.size).front (by obtain ⟨t, ht⟩ := (List.take_prefix (bs.length - 8 - 4 * cnt bs) bs); exact ⟨t.map vb, by unfold front; rw [← List.map_append, ht]⟩)) (by rw [hFl]; have := HMM.out; omega) HM.out (fun x hx => H8.out x (List.take_subset _ _ hx)) (by rw [hFl]; omega)
          rw [hFl] at h
          rw [raw_front, hFl]
          exact h)
        have HNB := Lib.hid hbig
        clear hF hFl hbig eq4
        go_wp2_with fail
        refine HLO.out.mono ?_
        intro e W9 hlo
        clear HLO hcF eF
        cases hraw : raw bs with
        | none =>
          rw [hraw] at hlo
          obtain ⟨rfl, hb9⟩ := hlo
          have HB9 := Lib.hid (HB8.out.trans (hb9.mono HB8.out.size))
          have HE : Hid (allB bs = ([], 2)) := Lib.hid (raw_no H8L.out HSUM.out (.inl hraw))
          clear hb9 hraw
          go_wp2_with fail
          go_returns
          exact balle_bad (by decide) HE.out HB9.out
        | some ts =>
          rw [hraw] at hlo
          obtain ⟨AL, cL, L, rfl, hts, hents, hb9⟩ := hlo
          have HRAW := Lib.hid hraw
          have HTS := Lib.hid hts
          have HB9 := Lib.hid (HB8.out.trans (hb9.mono HB8.out.size))
          have HEN : Hid (Ents W9 (fun k => w.heap.size ≤ k ∧ k < W9.heap.size) AL cL L) := Lib.hid (hents.mono fun k hk => ⟨Nat.le_trans HB8.out.size hk.1, hk.2⟩)
          have HMAY := Lib.hid (may_any AL cL L W9 (hents.mono fun k hk => hk.2))
          clear hraw hts hents hb9
          go_wp2_with fail
          refine HMAY.out.mono ?_
          rintro e W10 ⟨rfl, hb10⟩
          have HB10 := Lib.hid (HB9.out.trans (hb10.mono HB9.out.size))
          have HEN10 : Hid (Ents W10 (fun k => w.heap.size ≤ k ∧ k < W10.heap.size) AL cL L) := Lib.hid (HEN.out.later (fun k hk => hb10.block k hk.2) fun k hk => ⟨hk.1, Nat.lt_of_lt_of_le hk.2 hb10.size⟩)
          clear hb10 HMAY HEN
          by_cases hmay : may (L.map D.t) = 0
          · obtain ⟨hok, -, hn10⟩ := may_zero hmay
            rw [List.length_map] at hn10
            have HOK : Hid (∀ d, d ∈ L → okT d.t = true) := Lib.hid fun d hd => hok _ (List.mem_map.2 ⟨d, hd, rfl⟩)
            have HM0 := Lib.hid hmay
            rw [hmay]
            clear hmay hok
            go_wp2_with fail
            go_loopw [8] (fun i wr => ∃ j : Nat, 1 ≤ j ∧ j ≤ 101 ∧ i = .int .i64 (j : Int) ∧ Hid (Below W10.heap.size W10 wr) ∧ Hid (∀ i, 1 ≤ i → i < j → blk i ts ≠ bs)) (fun i _ => 110 - (intOf i).toNat)
            case atStart => exact ⟨1, by omega, by omega, rfl, Lib.hid (Below.refl _ _), Lib.hid fun i h1 h2 => by omega⟩
            case round =>
              obtain ⟨j, hj1, hj, rfl, hbr, hno⟩ := hrel
              by_cases hj2 : j ≤ 100
              · have HBR := Lib.hid (HB10.out.trans (hbr.out.mono HB10.out.size))
                have hse2 := str_eq (x := blk j ts) (y := bs) (by
                  rw [← HTS.out]
                  exact blk_byte fun d hd => ⟨HOK.out d hd, (HEN10.out.ok d hd).ok, (HEN10.out.ok d hd).v8⟩) H8.out
                have HSE2 : Hid (((str (blk j ts)).toList == (str bs).toList) = decide (blk j ts = bs)) := Lib.hid hse2
                clear hse2
                go_upto_region 14 with fail
                refine wp_region_held_drew (S := fun w' => Hid (Below wr.heap.size wr w')) (by kernel_rfl) (Lib.hid (Below.refl _ _).drew) (fun hS => ?_)
                refine wpAnyH_take (i := 0) (v := ?_) rfl (by kernel_rfl) (by kernel_rfl) (by kernel_rfl) (fun _ _ _ h => h) (Or.inl ⟨by rfl, ?_⟩) hS ?_
                rotate_left
                · intro wi hw
                  go_simp
                  try with_reducible rfl
                try simp only [Act.put, List.getElem_toArray, List.getElem_cons_succ, List.getElem_cons_zero, List.setIfInBounds_toArray, List.set_cons_zero, List.set_cons_succ]
                refine wpAnyH_take (i := 1) (v := ?_) rfl (by kernel_rfl) (by kernel_rfl) (by kernel_rfl) (fun _ _ _ h => h) (Or.inl ⟨by rfl, ?_⟩) hS ?_
                rotate_left
                · intro wi hw
                  go_simp
                  try with_reducible rfl
                try simp only [Act.put, List.getElem_toArray, List.getElem_cons_succ, List.getElem_cons_zero, List.setIfInBounds_toArray, List.set_cons_zero, List.set_cons_succ]
                refine wpAnyH_take (i := 4) (v := ?_) rfl (by kernel_rfl) (by kernel_rfl) (by kernel_rfl) (fun _ _ _ h => h) (Or.inl ⟨by rfl, ?_⟩) hS ?_
                rotate_left
                · intro wi hw
                  go_simp
                  try with_reducible rfl
                try simp only [Act.put, List.getElem_toArray, List.getElem_cons_succ, List.getElem_cons_zero, List.setIfInBounds_toArray, List.set_cons_zero, List.set_cons_succ]
                refine wpAnyH_take (i := 5) (v := ?_) rfl (by kernel_rfl) (by kernel_rfl) (by kernel_rfl) (fun _ _ _ h => h) (Or.inl ⟨by rfl, ?_⟩) hS ?_
                rotate_left
                · intro wi hw
                  have hr1 := run_str (c := c) (HL.out.below (HBR.out.trans (hw.out.mono HBR.out.size)))
                  go_simp
                  try with_reducible rfl
                try simp only [Act.put, List.getElem_toArray, List.getElem_cons_succ, List.getElem_cons_zero, List.setIfInBounds_toArray, List.set_cons_zero, List.set_cons_succ]
                refine wpAnyH_ready (rs := [2]) (by kernel_rfl) (by simp) ?_
                refine (AllReadyH.cons rfl (fun K hK => ?_) AllReadyH.nil)
                go_simp
                have hb7 := hS.out
                refine (build_any AL cL L j _ ((HEN10.out.later (R' := (· < W10.heap.size)) (fun _ _ => rfl) fun k hk => hk.2).next (hbr.out.trans (hb7.mono hbr.out.size))) HOK.out hn10 ⟨hj1, hj2⟩).mono ?_
                intro e W11 hmade
                obtain ⟨v8, rfl, -, ⟨A8, c8, hv8, h1, h2, h3⟩, hb8⟩ := made_byts hmade
                rw [HTS.out] at hv8 h1 h3
                subst hv8
                have HB11 := Lib.hid (hb7.trans (hb8.mono hb7.size))
                have HR2 : Hid (∀ W : World, Below W11.heap.size W11 W → Sem.run Try.prog (convert 25 9 (.slice A8 (blk j ts).length c8)) W = .ok (.string (str (blk j ts))) W) := Lib.hid fun W hb => run_str (c := c8) (h3.below hb)
                clear hmade hb8 h1 h2 h3 hb7
                go_wp2_with fail
                refine hK.out _ _ HB11 (fun _ => ?_)
                clear hK K hS
                refine wpAnyH_other (S' := fun w' => Hid (Below W11.heap.size W11 w')) (fun w hw => Lib.hid (HB11.out.trans (hw.out.mono HB11.out.size))) _ _ _ _ ?_
                have hS : Hid (Below W11.heap.size W11 W11) := Lib.hid (Below.refl _ _)
                try simp only [Act.put, List.getElem_toArray, List.getElem_cons_succ, List.getElem_cons_zero, List.setIfInBounds_toArray, List.set_cons_zero, List.set_cons_succ]
                refine wpAnyH_take (i := 3) (v := ?_) rfl (by kernel_rfl) (by kernel_rfl) (by kernel_rfl) (fun _ _ _ h => h) (Or.inl ⟨by rfl, ?_⟩) hS ?_
                rotate_left
                · intro wi hw
                  have hr2 := HR2.out wi hw.out
                  go_simp
                  try with_reducible rfl
                try simp only [Act.put, List.getElem_toArray, List.getElem_cons_succ, List.getElem_cons_zero, List.setIfInBounds_toArray, List.set_cons_zero, List.set_cons_succ]
                refine wpAnyH_take (i := 6) (v := ?_) rfl (by kernel_rfl) (by kernel_rfl) (by kernel_rfl) (fun _ _ _ h => h) (Or.inl ⟨by rfl, ?_⟩) hS ?_
                rotate_left
                · intro wi hw
                  have hse := HSE2.out
                  go_simp
                  try with_reducible rfl
                try simp only [Act.put, List.getElem_toArray, List.getElem_cons_succ, List.getElem_cons_zero, List.setIfInBounds_toArray, List.set_cons_zero, List.set_cons_succ]
                refine wpAnyH_done (by kernel_rfl) ?_ _
                have HW12 : Hid (Below W10.heap.size W10 W11) := Lib.hid (hbr.out.trans (HB11.out.mono hbr.out.size))
                obtain ⟨W12, hW12⟩ : ∃ W12, W12 = W11 := ⟨_, rfl⟩
                rw [← hW12] at HW12 ⊢
                clear hW12
                by_cases heq : blk j ts = bs
                · have HIS : Hid (allB bs = (ts, 0)) := Lib.hid (allB_ok ⟨by rw [← HTS.out]; exact HM0.out, j, hj1, hj2, heq⟩)
                  have d9 : decide (blk j ts = bs) = true := decide_eq_true heq
                  have HQ := Lib.hid heq
                  rw [d9]
                  clear heq d9
                  go_wp2_with fail
                  go_returns
                  have hents := HEN10.out.later (R' := fun k => w.heap.size ≤ k ∧ k < W12.heap.size) (fun k hk => HW12.out.block k hk.2) fun k hk => ⟨hk.1, Nat.lt_of_lt_of_le hk.2 HW12.out.size⟩
                  exact ⟨HB10.out.trans (HW12.out.mono HB10.out.size), AL, cL, L, (j : Int), by rw [HIS.out]; rfl, by rw [HIS.out]; exact HTS.out, hents, fun _ => ⟨j, rfl, hj1, by rw [HIS.out]; exact HQ.out, by rw [HIS.out]; exact hno.out⟩⟩
                · have d9 : decide (blk j ts = bs) = false := decide_eq_false heq
                  rw [d9]
                  have HNO : Hid (∀ i, 1 ≤ i → i < j + 1 → blk i ts ≠ bs) := Lib.hid fun i h1 h2 => by
                    by_cases hi : i = j
                    · rw [hi]; exact heq
                    · exact hno.out i h1 (by omega)
                  clear heq d9
                  go_wp2_with fail
                  go_roundw
                  case rel => exact ⟨j + 1, by omega, by omega, by go_num, HW12, HNO⟩
                  case measure => simp [intOf]; omega
              · obtain rfl : j = 101 := by omega
                have HE : Hid (allB bs = ([], 2)) := Lib.hid (allB_bad H8L.out HSUM.out (isB_every HRAW.out hno.out))
                go_wp2_with fail
                go_returns
                exact balle_bad (by decide) HE.out (HB10.out.trans (hbr.out.mono HB10.out.size))
          · have HE : Hid (allB bs = ([], 2)) := Lib.hid (raw_no H8L.out HSUM.out (.inr ⟨_, HRAW.out, by rw [← HTS.out]; exact hmay⟩))
            have d6 : ((may (L.map D.t) : Int) != 0) = true := by rw [bne_iff_ne]; omega
            have hml := may_le (L.map D.t)
            clear hmay
            generalize may (L.map D.t) = mm at *
            go_wp2_with fail
            go_returns
            exact balle_bad (by decide) HE.out HB10.out
    · have HE : Hid (allB bs = ([], 5)) := Lib.hid (allB_sum H8L.out (by rw [HE4.out, ← HSM.out]; exact hsum))
      have d3 : decide (bs.drop (m + 4) = sm) = false := decide_eq_false hsum
      rw [d3]
      clear hsum d3
      go_wp2_with fail
      go_returns
      exact balle_bad (by decide) HE.out HB8.out
theorem ball_any (A : Option Addr) (c : Nat) (bs : List Nat) (w : World) (hl : Lies w w.heap.size A (bs.map vb)) (hc : bs.length ≤ c) (hm : c ≤ maxLen) (hs : bs.length ≤ 10000000) (h8 : ∀ x, x ∈ bs → x < 256) :
    Calls Try.prog 17 #[.slice A bs.length c] w (Ball w bs) := (balle_any A c bs w hl hc hm hs h8).mono fun _ _ h => h.ball
end Go.Proofs.Ytobjiamdljjkjaa.Bk

/- The document's Restarts; two lists of whole numbers that are one. -/
namespace Go.Proofs.Ytobjiamdljjkjaa.Bk
set_option linter.unusedVariables false
set_option linter.unusedSimpArgs false
open Go.RowKit Lift Ik Sk Vn
theorem allB_len (bs : List Nat) : (allB bs).1.length ≤ bs.length := by
  unfold allB
  split
  · simp
  · split
    · simp
    · split
      · rename_i h
        obtain ⟨-, ev, -, -, h4⟩ := h.choose_spec
        have h1 := body_len ev h.choose 0 []
        have h2 := blk_len ev h.choose
        rw [h4] at h2
        show h.choose.length ≤ _
        omega
      · simp
theorem allB_isB {bs : List Nat} (h : (allB bs).2 = 0) : ∃ ts, IsB bs ts := by
  unfold allB at h
  split at h
  · cases h
  · split at h
    · cases h
    · split at h
      · rename_i h3
        exact h3
      · cases h
theorem rest_len (bs : List Nat) : (rest bs).length = cnt bs := by unfold rest; rw [List.length_map, List.length_range]
theorem rest_at {bs : List Nat} {j : Nat} (h : j < cnt bs) : (rest bs)[j]? = some (num ((bs.drop (bs.length - 8 - 4 * (cnt bs - j))).take 4)) := by
  unfold rest
  rw [List.getElem?_map, List.getElem?_range h]
  rfl
theorem resB_len (bs : List Nat) : (resB bs).length ≤ bs.length := by
  unfold resB
  split
  · rename_i h
    obtain ⟨ts, hi⟩ := allB_isB h
    have := (isB_raw hi).2.2.1
    rw [rest_len]
    omega
  · simp
set_option maxRecDepth 100000 in
set_option maxHeartbeats 1600000 in
theorem rrests_any (A : Option Addr) (c : Nat) (bs : List Nat) (w : World) (hl : Lies w w.heap.size A (bs.map vb)) (hc : bs.length ≤ c) (hm : c ≤ maxLen) (hs : bs.length ≤ 10000000) (h8 : ∀ x, x ∈ bs → x < 256) :
    Calls Try.prog 19 #[.slice A bs.length c] w (Rsts w bs) := by
  have HO := Lib.hid (ball_any A c bs w hl hc hm hs h8)
  have HL := Lib.hid hl
  have H8 := Lib.hid h8
  have HM := Lib.hid hm
  have hm1 := hm
  unfold maxLen at hm1
  clear hl h8
  go_enter Try.func19, Try.ntmps19
  go_wp2_with fail
  refine HO.out.mono ?_
  rintro e W1 ⟨hb1, A1, c1, L, ev, rfl, -, -⟩
  have HB1 := Lib.hid hb1
  obtain ⟨n, hn⟩ : ∃ n, (allB bs).2 = n := ⟨_, rfl⟩
  have HN := Lib.hid hn
  clear hb1 HO
  by_cases h2 : n = 0
  · subst h2
    have HR : Hid (resB bs = rest bs) := Lib.hid (if_pos hn)
    obtain ⟨ts, hi⟩ := allB_isB hn
    obtain ⟨i1, -, i3, -⟩ := isB_raw hi
    rw [hn]
    obtain ⟨m, hmm⟩ : ∃ m, bs.length = m + 8 := ⟨bs.length - 8, by omega⟩
    have HMM := Lib.hid hmm
    have ei8 : (bs.length : Int) - 8 = (m : Int) := by omega
    have e8 : bs.length - 8 = m := by omega
    obtain ⟨q, hq⟩ : ∃ q, q = cnt bs := ⟨_, rfl⟩
    have HQ := Lib.hid hq
    have hqm : 4 * q ≤ m := by rw [hq]; omega
    have hmb : m ≤ 10000000 := by omega
    have HE8 := Lib.hid e8
    have HG : Hid (Calls Try.prog 39 #[.slice A bs.length c, .int .i64 (m : Int), .int .i64 4] W1 fun e w' => e = .returned (.int .u64 (q : Nat)) ∧ W1 = w') := Lib.hid (by
      have h := get_any A c w.heap.size m 4 bs W1 (HL.out.below HB1.out) hc HM.out H8.out (by omega) (by omega)
      rw [hq]
      unfold cnt
      rw [e8]
      exact h)
    clear hn hi i1 i3 hmm e8 hq
    go_wp2_with fail
    refine HG.out.mono ?_
    rintro e w' ⟨rfl, rfl⟩
    clear HG
    go_wp2_with fail
    go_loopw [8, 9] (fun v8 v9 wr => ∃ (j : Nat) (A8 : Option Addr) (c8 : Nat) (X : List Nat), j ≤ q ∧ v8 = .slice A8 X.length c8 ∧ v9 = .int .i64 (j : Int) ∧ Hid (X = (rest bs).take j) ∧ Hid (wr.ownsRow w.heap.size 3 1 (.slice A8 X.length c8) X.length (X.map vn)) ∧ Hid (Below w.heap.size w wr)) (fun _ i _ => q + 1 - (intOf i).toNat)
    case atStart => exact ⟨0, none, 0, [], Nat.zero_le _, rfl, rfl, Lib.hid rfl, Lib.hid (World.ownsRow_nil _ _ _ _), HB1⟩
    case round =>
      obtain ⟨j, A8, c8, X, hj, rfl, rfl, hX, hown, hb⟩ := hrel
      have HRL := Lib.hid (rest_len bs)
      have hXl : X.length = j := by rw [hX.out, List.length_take, HRL.out, ← HQ.out]; omega
      by_cases hlt : j < q
      · obtain ⟨p, hp⟩ : ∃ p, p = m - 4 * (q - j) := ⟨_, rfl⟩
        have ep : (m : Int) - 4 * ((q : Int) - (j : Int)) = (p : Int) := by omega
        have hpl : p + 4 ≤ bs.length := by have := HMM.out; omega
        obtain ⟨y, hy⟩ : ∃ y, y = num ((bs.drop p).take 4) := ⟨_, rfl⟩
        have HY : Hid ((rest bs)[j]? = some y) := Lib.hid (by rw [rest_at (by rw [← HQ.out]; exact hlt), HE8.out, ← HQ.out, ← hp, hy])
        have hyl : y < 4294967296 := by
          rw [hy]
          have h1 := num_lt ((bs.drop p).take 4) fun x hx => H8.out x (List.mem_of_mem_drop (List.mem_of_mem_take hx))
          have h2 : ((bs.drop p).take 4).length = 4 := by rw [List.length_take, List.length_drop]; omega
          rwa [h2] at h1
        have HG : Hid (Calls Try.prog 39 #[.slice A bs.length c, .int .i64 (p : Int), .int .i64 4] wr fun e w' => e = .returned (.int .u64 (y : Nat)) ∧ wr = w') := Lib.hid (by
          have h := get_any A c w.heap.size p 4 bs wr (HL.out.below hb.out) hc HM.out H8.out (by omega) hpl
          rw [hy]
          exact h)
        obtain ⟨v', W2, hr2, hown2, hon2⟩ := append_num y hown.out (by omega) hb.out.size
        obtain ⟨A9, c9, rfl, -, -, -⟩ := own_parts hown2
        have HR2 := Lib.hid hr2
        have HO2 := Lib.hid hown2
        have HB2 := Lib.hid (hb.out.trans (hon2.below hown.out hb.out.size))
        have HX2 : Hid (X ++ [y] = (rest bs).take (j + 1)) := Lib.hid (by rw [List.take_add_one, HY.out, hX.out]; rfl)
        have HXL := Lib.hid hXl
        have hXb : X.length ≤ 10000000 := by omega
        clear hp hpl hy hr2 hown2 hon2 hXl
        go_wp2_with fail
        refine HG.out.mono ?_
        rintro e w' ⟨rfl, rfl⟩
        clear HG ep
        go_wp2_with (at_builtin; refine wpList_append_run rfl _ _ 41 rfl rfl rfl HR2.out ?_)
        go_roundw
        case rel => exact ⟨j + 1, A9, c9, X ++ [y], by omega, by first | rfl | simp, by go_num, HX2, HO2, HB2⟩
        case measure => simp [intOf]; omega
      · obtain rfl : j = q := by omega
        have HXR : Hid (X = rest bs) := Lib.hid (by rw [hX.out, List.take_of_length_le (by rw [HRL.out, ← HQ.out]; exact Nat.le_refl _)])
        clear hXl
        go_wp2_with fail
        go_returns
        refine ⟨hb.out, A8, c8, ?_, ?_⟩
        · rw [HN.out, HR.out, ← HXR.out]; rfl
        · rw [HR.out, ← HXR.out]; exact hown.out
  · have HR : Hid (resB bs = []) := Lib.hid (if_neg (by rw [hn]; exact h2))
    have hne : ((n : Int) != 0) = true := by rw [bne_iff_ne]; omega
    rw [hn]
    clear hn
    go_wp2_with fail
    go_returns
    exact ⟨HB1.out, none, 0, by rw [HN.out, HR.out]; rfl, by rw [HR.out]; exact World.ownsRow_nil _ _ _ _⟩
set_option maxRecDepth 100000 in
set_option maxHeartbeats 800000 in
theorem same_ints {w : World} {B B' c c' : Nat} {A A' : Option Addr} {xs : List Nat} (h1 : Lies w B A (xs.map vn)) (h2 : Lies w B' A' (xs.map vn)) (hn : xs.length ≤ 1000) :
    Calls Try.prog 20 #[.slice A xs.length c, .slice A' xs.length c'] w fun e w' => e = .returned (.bool true) ∧ ∃ m, w' = w.drewN m := by
  have H1 := Lib.hid h1
  have H2 := Lib.hid h2
  clear h1 h2
  go_enter Try.func20, Try.ntmps20
  go_wp2_with fail
  go_loopw [5] (fun i wr => ∃ j n : Nat, j ≤ xs.length ∧ i = .int .i64 j ∧ Hid (wr = w.drewN n)) (fun i _ => xs.length + 1 - (intOf i).toNat)
  case atStart => exact ⟨0, 0, by omega, rfl, Lib.hid rfl⟩
  case round =>
    obtain ⟨j, n, hj, rfl, hd⟩ := hrel
    by_cases hlt : j < xs.length
    · obtain ⟨a1, e1, _, g1⟩ := H1.out.place (by simp; omega)
      obtain ⟨a2, e2, _, g2⟩ := H2.out.place (by simp; omega)
      subst e1
      subst e2
      obtain ⟨x, hx⟩ : ∃ x : Nat, xs[j]? = some x := ⟨_, List.getElem?_eq_getElem hlt⟩
      have d1 : wr.cell? (a1.add j) = some (.int .i64 (x : Int)) := by rw [hd.out]; exact g1 j _ (by rw [List.getElem?_map, hx]; rfl)
      have d2 : wr.cell? (a2.add j) = some (.int .i64 (x : Int)) := by rw [hd.out]; exact g2 j _ (by rw [List.getElem?_map, hx]; rfl)
      clear g1 g2 hx
      go_wp2_with fail
      go_quiet (fail)
      go_wp2_with fail
      go_roundw
      case rel => exact ⟨j + 1, n + nq, by omega, by go_num, Lib.hid (by rw [hd.out, World.drewN_drewN])⟩
      case measure => simp [intOf]; omega
    · obtain rfl : j = xs.length := by omega
      go_wp2_with fail
      go_ret
      exact ⟨rfl, _, hd.out⟩
end Go.Proofs.Ytobjiamdljjkjaa.Bk

/- Package block: what Seek answers: BinarySearchFunc over entries, with its function. -/
namespace Go.Proofs.Ytobjiamdljjkjaa.Bk
set_option linter.unusedVariables false
set_option linter.unusedSimpArgs false
open Go.RowKit Lift Ik Sk Vn
set_option maxRecDepth 100000 in
theorem oclo_any (d : D) (Ak : Option Addr) (ck : Nat) (k : K) (w : World) (hd : d.Ok w (· < w.heap.size)) (hk : At w w.heap.size Ak ck k) :
    Calls Try.prog 42 #[d.v, key Ak ck k] w fun e w' => e = .returned (.int .i64 (cmpK d.k k)) ∧ Below w.heap.size w w' := by
  have hb0 : Below w.heap.size w ((w.alloc (ebox d)).alloc (.cells #[.slice Ak k.key.length ck, .int .u64 (k.seq : Int), .int .i64 k.kind] 38)) := Joins.below_alloc2 w _ _
  have hsz : (w.alloc (ebox d)).heap.size = w.heap.size + 1 := by simp
  have hx1 : Bx ((w.alloc (ebox d)).alloc (.cells #[.slice Ak k.key.length ck, .int .u64 (k.seq : Int), .int .i64 k.kind] 38)) w.heap.size d := (Bx.new w d).alloc _
  have hx2 := Lift.Box.new (w.alloc (ebox d)) 38 [.slice Ak k.key.length ck, .int .u64 (k.seq : Int), .int .i64 k.kind]
  rw [hsz] at hx2
  have HC := Lib.hid (cmp_any d.ka Ak d.kc ck d.k k _ ((hd.next hb0).at' fun k hk => hk) (hk.next hb0))
  have HB := Lib.hid hb0
  obtain ⟨c0, c1, c2, -, -, -, -, -⟩ := hx1.facts
  obtain ⟨k0, k1, k2, -, -, -⟩ := hx2.facts3
  have hkd := KD.load (p := ⟨w.heap.size, 0, none⟩) (d := ⟨d.ka, d.kc, d.k⟩) c0 c1 c2
  have hkk := KD.load (p := ⟨w.heap.size + 1, 0, none⟩) (d := ⟨Ak, ck, k⟩) k0 k1 k2
  clear hb0 hx1 hx2 hd hk hsz
  go_enter (Try.func42), (Try.ntmps42)
  go_wp2_with fail
  refine HC.out.mono ?_
  rintro e W ⟨rfl, hb1⟩
  have HB1 := Lib.hid (HB.out.trans (hb1.mono HB.out.size))
  clear hb1
  go_wp2_with fail
  go_ret
  exact ⟨rfl, HB1.out⟩
/-- How many entries stand ahead of a key. -/
def ahead (L : List D) (k : K) : Nat := (bef D.k L k).length
theorem rises_pair {L : List D} (h : rises (L.map D.t) = true) : Sorted D.k L := by
  unfold Sorted
  rw [List.pairwise_iff_getElem]
  intro i j hi hj hij
  have hall := (rises_iff _).1 h
  have hstep : ∀ n (hn : i + (n + 1) < L.length), cmpK (L[i]).k (L[i + (n + 1)]).k < 0 := by
    intro n
    induction n with
    | zero =>
      intro hn
      have h1 : (L.map D.t)[i]? = some (L[i]).t := by rw [List.getElem?_map, List.getElem?_eq_getElem hi]; rfl
      have h2 : (L.map D.t)[i + 1]? = some (L[i + (0 + 1)]).t := by rw [List.getElem?_map, List.getElem?_eq_getElem hn]; rfl
      exact hall i _ _ h1 h2
    | succ n ih =>
      intro hn
      have h0 := ih (by omega)
      have h1 : (L.map D.t)[i + (n + 1)]? = some (L[i + (n + 1)]).t := by rw [List.getElem?_map, List.getElem?_eq_getElem (by omega)]; rfl
      have h2 : (L.map D.t)[i + (n + 1) + 1]? = some (L[i + (n + 1 + 1)]).t := by rw [List.getElem?_map, show i + (n + 1) + 1 = i + (n + 1 + 1) from by omega, List.getElem?_eq_getElem hn]; rfl
      exact lt_trans h0 (hall _ _ _ h1 h2)
  have := hstep (j - i - 1) (by omega)
  have e : i + (j - i - 1 + 1) = j := by omega
  simpa only [e] using this
theorem ahead_split {L : List D} {k : K} {lo : Nat} (hlo : lo ≤ L.length) (h1 : ∀ i d, i < lo → L[i]? = some d → cmpK d.k k < 0) (h2 : ∀ i d, lo ≤ i → L[i]? = some d → ¬ cmpK d.k k < 0) : ahead L k = lo := by
  have h := bef_eq (f := D.k) (k := k) (u := L.take lo) (v := L.drop lo) (fun q hq => by
    obtain ⟨i, hi⟩ := List.getElem?_of_mem hq
    have hil : i < lo := by
      have := (List.getElem?_eq_some_iff.1 hi).1
      rw [List.length_take] at this
      omega
    rw [List.getElem?_take_of_lt hil] at hi
    exact h1 i q hil hi) (fun q hq => by
    obtain ⟨i, hi⟩ := List.getElem?_of_mem hq
    rw [List.getElem?_drop] at hi
    exact h2 _ q (by omega) hi)
  rw [List.take_append_drop] at h
  unfold ahead
  rw [h.1, List.length_take]
  omega
theorem sorted_le {L : List D} (h : Sorted D.k L) {i j : Nat} {a b : D} (hi : L[i]? = some a) (hj : L[j]? = some b) (hij : i ≤ j) : cmpK a.k b.k ≤ 0 := by
  rcases Nat.lt_or_ge i j with h1 | h1
  · obtain ⟨h2, h3⟩ := List.getElem?_eq_some_iff.1 hi
    obtain ⟨h4, h5⟩ := List.getElem?_eq_some_iff.1 hj
    have := List.pairwise_iff_getElem.1 h i j h2 h4 h1
    rw [h3, h5] at this
    omega
  · obtain rfl : i = j := by omega
    rw [hi] at hj
    injection hj with hj
    subst hj
    rw [cmpK_self]
    decide
set_option maxRecDepth 1000000 in
set_option maxHeartbeats 3200000 in
theorem obinf_any (A : Option Addr) (c : Nat) (L : List D) (Ak : Option Addr) (ck : Nat) (k : K) (w : World) (h1 : Ents w (· < w.heap.size) A c L) (hk : At w w.heap.size Ak ck k) (hn : L.length ≤ 10000) (hs : Sorted D.k L) :
    Calls Try.prog 41 #[.slice A L.length c, key Ak ck k, .func (.func 42) #[] #[]] w fun e w' => (∃ b, e = .returned (.tuple #[.int .i64 ((ahead L k : Nat) : Int), .bool b])) ∧ Below w.heap.size w w' := by
  have H1 := Lib.hid h1
  have HKA := Lib.hid hk
  have HS := Lib.hid hs
  have hc1 := h1.len
  have hm1 := h1.cap
  unfold maxLen at hm1
  have hb0 : Below w.heap.size w (w.alloc (.cells #[.slice Ak k.key.length ck, .int .u64 (k.seq : Int), .int .i64 k.kind] 38)) := Joins.below_alloc1 w _
  have hkb := Lift.Box.new w 38 [.slice Ak k.key.length ck, .int .u64 (k.seq : Int), .int .i64 k.kind]
  have HB0 := Lib.hid hb0
  have hz0 : (w.alloc (.cells #[.slice Ak k.key.length ck, .int .u64 (k.seq : Int), .int .i64 k.kind] 38)).heap.size = w.heap.size + 1 := by simp
  have HZ0 := Lib.hid hz0
  have HKB := Lib.hid hkb
  clear h1 hk hs hb0 hkb hz0
  go_enter (Try.func41), (Try.ntmps41)
  go_upto_region 1 with fail
  change Code.wp _ _ _ _ (w.alloc (.cells #[.slice Ak k.key.length ck, .int .u64 (k.seq : Int), .int .i64 k.kind] 38))
  obtain ⟨W0, hW0⟩ : ∃ W0, W0 = w.alloc (.cells #[.slice Ak k.key.length ck, .int .u64 (k.seq : Int), .int .i64 k.kind] 38) := ⟨_, rfl⟩
  rw [← hW0] at HB0 HKB HZ0 ⊢
  clear hW0
  go_wp2_with fail
  go_loopw [9, 10] (fun i j wr => ∃ lo hi : Nat, lo ≤ hi ∧ hi ≤ L.length ∧ i = .int .i64 (lo : Int) ∧ j = .int .i64 (hi : Int) ∧ Hid (∀ i d, i < lo → L[i]? = some d → cmpK d.k k < 0) ∧ Hid (∀ i d, hi ≤ i → L[i]? = some d → 0 ≤ cmpK d.k k) ∧ Hid (Below W0.heap.size W0 wr)) (fun i j _ => (intOf j).toNat - (intOf i).toNat)
  case atStart => exact ⟨0, L.length, Nat.zero_le _, Nat.le_refl _, rfl, rfl, Lib.hid fun i d hi => by omega, Lib.hid fun i d hi hd => by have := (List.getElem?_eq_some_iff.1 hd).1; omega, Lib.hid (Below.refl _ _)⟩
  case round =>
    obtain ⟨lo, hi, hlh, hhi, rfl, rfl, g1, g2, hbr⟩ := hrel
    have hb : Hid (Below w.heap.size w wr) := Lib.hid (HB0.out.trans (hbr.out.mono HB0.out.size))
    have HGL : Hid (w.heap.size < W0.heap.size) := Lib.hid (by have := HZ0.out; omega)
    by_cases hlt : lo < hi
    · obtain ⟨m, hm⟩ : ∃ m, m = (lo + hi) / 2 := ⟨_, rfl⟩
      have em : ((lo : Int) + (hi : Int)) / 2 = (m : Int) := by omega
      have hm1 : lo ≤ m := by omega
      have hm2 : m < hi := by omega
      obtain ⟨d, hd⟩ : ∃ d, L[m]? = some d := ⟨_, List.getElem?_eq_getElem (by omega)⟩
      obtain ⟨ad, pp, hA, -, hpp, -⟩ := H1.out.place hd
      subst hA
      have HPP := Lib.hid hpp
      have HD := Lib.hid hd
      have HO := Lib.hid (H1.out.ok d (List.mem_of_getElem? hd))
      have HML := Lib.hid (show m < L.length by omega)
      clear hd hpp hm
      have hcases : (cmpK d.k k < 0 ∧ decide (cmpK d.k k < 0) = true) ∨ (¬ cmpK d.k k < 0 ∧ decide (cmpK d.k k < 0) = false) := by
        by_cases h : cmpK d.k k < 0
        · exact .inl ⟨h, decide_eq_true h⟩
        · exact .inr ⟨h, decide_eq_false h⟩
      rcases hcases with ⟨hc, hdc⟩ | ⟨hc, hdc⟩
      · have HR : Hid (∀ i e, i < m + 1 → L[i]? = some e → cmpK e.k k < 0) := Lib.hid fun i e hi he => le_lt (sorted_le HS.out he HD.out (by omega)) hc
        have HDC := Lib.hid hdc
        clear hc hdc
        go_upto_region 5 with fail
        refine wp_region_held_drew (S := fun w' => Hid (Below wr.heap.size wr w')) (by kernel_rfl) (Lib.hid (Below.refl _ _).drew) (fun hS => ?_)
        refine wpAnyH_take (i := 0) (v := ?_) rfl (by kernel_rfl) (by kernel_rfl) (by kernel_rfl) (fun _ _ _ h => h) (Or.inl ⟨by rfl, ?_⟩) hS ?_
        rotate_left
        · intro wi hw
          go_simp
          try with_reducible rfl
        try simp only [Act.put, List.getElem_toArray, List.getElem_cons_succ, List.getElem_cons_zero, List.setIfInBounds_toArray, List.set_cons_zero, List.set_cons_succ]
        refine wpAnyH_take (i := 1) (v := ?_) rfl (by kernel_rfl) (by kernel_rfl) (by kernel_rfl) (fun _ _ _ h => h) (Or.inl ⟨by rfl, ?_⟩) hS ?_
        rotate_left
        · intro wi hw
          go_simp
          try with_reducible rfl
        try simp only [Act.put, List.getElem_toArray, List.getElem_cons_succ, List.getElem_cons_zero, List.setIfInBounds_toArray, List.set_cons_zero, List.set_cons_succ]
        refine wpAnyH_take (i := 2) (v := ?_) rfl (by kernel_rfl) (by kernel_rfl) (by kernel_rfl) (fun _ _ _ h => h) (Or.inl ⟨by rfl, ?_⟩) hS ?_
        rotate_left
        · intro wi hw
          go_simp
          try with_reducible rfl
        try simp only [Act.put, List.getElem_toArray, List.getElem_cons_succ, List.getElem_cons_zero, List.setIfInBounds_toArray, List.set_cons_zero, List.set_cons_succ]
        refine wpAnyH_take (i := 3) (v := ?_) rfl (by kernel_rfl) (by kernel_rfl) (by kernel_rfl) (fun _ _ _ h => h) (Or.inl ⟨by rfl, ?_⟩) hS ?_
        rotate_left
        · intro wi hw
          have hpp := HPP.out
          have hml := HML.out
          go_simp
          try with_reducible rfl
        try simp only [Act.put, List.getElem_toArray, List.getElem_cons_succ, List.getElem_cons_zero, List.setIfInBounds_toArray, List.set_cons_zero, List.set_cons_succ]
        refine wpAnyH_take (i := 4) (v := ?_) rfl (by kernel_rfl) (by kernel_rfl) (by kernel_rfl) (fun _ _ _ h => h) (Or.inl ⟨by rfl, ?_⟩) hS ?_
        rotate_left
        · intro wi hw
          obtain ⟨ad', pi, hA, -, hpi, q0, q1, q2, q3⟩ := (H1.out.below (hb.out.trans (hw.out.mono hb.out.size))).place HD.out
          injection hA with hA
          subst hA
          obtain rfl : pi = pp := hpi.symm.trans HPP.out
          have hld := D.load q0 q1 q2 q3
          go_simp
          try with_reducible rfl
        try simp only [Act.put, List.getElem_toArray, List.getElem_cons_succ, List.getElem_cons_zero, List.setIfInBounds_toArray, List.set_cons_zero, List.set_cons_succ]
        refine wpAnyH_take (i := 5) (v := ?_) rfl (by kernel_rfl) (by kernel_rfl) (by kernel_rfl) (fun _ _ _ h => h) (Or.inl ⟨by rfl, ?_⟩) hS ?_
        rotate_left
        · intro wi hw
          obtain ⟨k0, k1, k2, -, -, -⟩ := Lift.Box.facts3 (Lift.Box.below HKB.out (hbr.out.trans (hw.out.mono hbr.out.size)) HGL.out)
          have hkk := KD.load (p := ⟨w.heap.size, 0, none⟩) (d := ⟨Ak, ck, k⟩) k0 k1 k2
          go_simp
          try with_reducible rfl
        try simp only [Act.put, List.getElem_toArray, List.getElem_cons_succ, List.getElem_cons_zero, List.setIfInBounds_toArray, List.set_cons_zero, List.set_cons_succ]
        refine wpAnyH_ready (rs := [6]) (by kernel_rfl) (by simp) ?_
        refine AllReadyH.cons rfl (fun K hK => ?_) AllReadyH.nil
        go_simp
        have hb7 := hS.out
        have hb8 := hb.out.trans (hb7.mono hb.out.size)
        refine (oclo_any d Ak ck k _ (((HO.out.next HB0.out).next (hbr.out.trans (hb7.mono hbr.out.size))).mono fun k hk => hk) ((HKA.out.next HB0.out).next (hbr.out.trans (hb7.mono hbr.out.size)))).mono ?_
        rintro e W8 ⟨rfl, hb9⟩
        have HB8 := Lib.hid (hb7.trans (hb9.mono hb7.size))
        clear hb7 hb8 hb9
        go_wp2_with fail
        refine hK.out _ _ HB8 (fun _ => ?_)
        clear hK K hS
        refine wpAnyH_other (S' := fun w' => Hid (Below W8.heap.size W8 w')) (fun w hw => Lib.hid (HB8.out.trans (hw.out.mono HB8.out.size))) _ _ _ _ ?_
        have hS : Hid (Below W8.heap.size W8 W8) := Lib.hid (Below.refl _ _)
        try simp only [Act.put, List.getElem_toArray, List.getElem_cons_succ, List.getElem_cons_zero, List.setIfInBounds_toArray, List.set_cons_zero, List.set_cons_succ]
        refine wpAnyH_take (i := 7) (v := ?_) rfl (by kernel_rfl) (by kernel_rfl) (by kernel_rfl) (fun _ _ _ h => h) (Or.inl ⟨by rfl, ?_⟩) hS ?_
        rotate_left
        · intro wi hw
          have dc := HDC.out
          go_simp
          try with_reducible rfl
        try simp only [Act.put, List.getElem_toArray, List.getElem_cons_succ, List.getElem_cons_zero, List.setIfInBounds_toArray, List.set_cons_zero, List.set_cons_succ]
        refine wpAnyH_done (by kernel_rfl) ?_ _
        have dc := HDC.out
        have HW8 := Lib.hid (hbr.out.trans (HB8.out.mono hbr.out.size))
        go_wp2_with fail
        go_roundw
        case rel => exact ⟨m + 1, hi, by omega, hhi, by go_num, rfl, HR, g2, HW8⟩
        case measure => simp [intOf]; omega
      · have HR : Hid (∀ i e, m ≤ i → L[i]? = some e → 0 ≤ cmpK e.k k) := Lib.hid fun i e hi he => Int.not_lt.1 fun h => hc (le_lt (sorted_le HS.out HD.out he hi) h)
        have HDC := Lib.hid hdc
        clear hc hdc
        go_upto_region 5 with fail
        refine wp_region_held_drew (S := fun w' => Hid (Below wr.heap.size wr w')) (by kernel_rfl) (Lib.hid (Below.refl _ _).drew) (fun hS => ?_)
        refine wpAnyH_take (i := 0) (v := ?_) rfl (by kernel_rfl) (by kernel_rfl) (by kernel_rfl) (fun _ _ _ h => h) (Or.inl ⟨by rfl, ?_⟩) hS ?_
        rotate_left
        · intro wi hw
          go_simp
          try with_reducible rfl
        try simp only [Act.put, List.getElem_toArray, List.getElem_cons_succ, List.getElem_cons_zero, List.setIfInBounds_toArray, List.set_cons_zero, List.set_cons_succ]
        refine wpAnyH_take (i := 1) (v := ?_) rfl (by kernel_rfl) (by kernel_rfl) (by kernel_rfl) (fun _ _ _ h => h) (Or.inl ⟨by rfl, ?_⟩) hS ?_
        rotate_left
        · intro wi hw
          go_simp
          try with_reducible rfl
        try simp only [Act.put, List.getElem_toArray, List.getElem_cons_succ, List.getElem_cons_zero, List.setIfInBounds_toArray, List.set_cons_zero, List.set_cons_succ]
        refine wpAnyH_take (i := 2) (v := ?_) rfl (by kernel_rfl) (by kernel_rfl) (by kernel_rfl) (fun _ _ _ h => h) (Or.inl ⟨by rfl, ?_⟩) hS ?_
        rotate_left
        · intro wi hw
          go_simp
          try with_reducible rfl
        try simp only [Act.put, List.getElem_toArray, List.getElem_cons_succ, List.getElem_cons_zero, List.setIfInBounds_toArray, List.set_cons_zero, List.set_cons_succ]
        refine wpAnyH_take (i := 3) (v := ?_) rfl (by kernel_rfl) (by kernel_rfl) (by kernel_rfl) (fun _ _ _ h => h) (Or.inl ⟨by rfl, ?_⟩) hS ?_
        rotate_left
        · intro wi hw
          have hpp := HPP.out
          have hml := HML.out
          go_simp
          try with_reducible rfl
        try simp only [Act.put, List.getElem_toArray, List.getElem_cons_succ, List.getElem_cons_zero, List.setIfInBounds_toArray, List.set_cons_zero, List.set_cons_succ]
        refine wpAnyH_take (i := 4) (v := ?_) rfl (by kernel_rfl) (by kernel_rfl) (by kernel_rfl) (fun _ _ _ h => h) (Or.inl ⟨by rfl, ?_⟩) hS ?_
        rotate_left
        · intro wi hw
          obtain ⟨ad', pi, hA, -, hpi, q0, q1, q2, q3⟩ := (H1.out.below (hb.out.trans (hw.out.mono hb.out.size))).place HD.out
          injection hA with hA
          subst hA
          obtain rfl : pi = pp := hpi.symm.trans HPP.out
          have hld := D.load q0 q1 q2 q3
          go_simp
          try with_reducible rfl
        try simp only [Act.put, List.getElem_toArray, List.getElem_cons_succ, List.getElem_cons_zero, List.setIfInBounds_toArray, List.set_cons_zero, List.set_cons_succ]
        refine wpAnyH_take (i := 5) (v := ?_) rfl (by kernel_rfl) (by kernel_rfl) (by kernel_rfl) (fun _ _ _ h => h) (Or.inl ⟨by rfl, ?_⟩) hS ?_
        rotate_left
        · intro wi hw
          obtain ⟨k0, k1, k2, -, -, -⟩ := Lift.Box.facts3 (Lift.Box.below HKB.out (hbr.out.trans (hw.out.mono hbr.out.size)) HGL.out)
          have hkk := KD.load (p := ⟨w.heap.size, 0, none⟩) (d := ⟨Ak, ck, k⟩) k0 k1 k2
          go_simp
          try with_reducible rfl
        try simp only [Act.put, List.getElem_toArray, List.getElem_cons_succ, List.getElem_cons_zero, List.setIfInBounds_toArray, List.set_cons_zero, List.set_cons_succ]
        refine wpAnyH_ready (rs := [6]) (by kernel_rfl) (by simp) ?_
        refine AllReadyH.cons rfl (fun K hK => ?_) AllReadyH.nil
        go_simp
        have hb7 := hS.out
        have hb8 := hb.out.trans (hb7.mono hb.out.size)
        refine (oclo_any d Ak ck k _ (((HO.out.next HB0.out).next (hbr.out.trans (hb7.mono hbr.out.size))).mono fun k hk => hk) ((HKA.out.next HB0.out).next (hbr.out.trans (hb7.mono hbr.out.size)))).mono ?_
        rintro e W8 ⟨rfl, hb9⟩
        have HB8 := Lib.hid (hb7.trans (hb9.mono hb7.size))
        clear hb7 hb8 hb9
        go_wp2_with fail
        refine hK.out _ _ HB8 (fun _ => ?_)
        clear hK K hS
        refine wpAnyH_other (S' := fun w' => Hid (Below W8.heap.size W8 w')) (fun w hw => Lib.hid (HB8.out.trans (hw.out.mono HB8.out.size))) _ _ _ _ ?_
        have hS : Hid (Below W8.heap.size W8 W8) := Lib.hid (Below.refl _ _)
        try simp only [Act.put, List.getElem_toArray, List.getElem_cons_succ, List.getElem_cons_zero, List.setIfInBounds_toArray, List.set_cons_zero, List.set_cons_succ]
        refine wpAnyH_take (i := 7) (v := ?_) rfl (by kernel_rfl) (by kernel_rfl) (by kernel_rfl) (fun _ _ _ h => h) (Or.inl ⟨by rfl, ?_⟩) hS ?_
        rotate_left
        · intro wi hw
          have dc := HDC.out
          go_simp
          try with_reducible rfl
        try simp only [Act.put, List.getElem_toArray, List.getElem_cons_succ, List.getElem_cons_zero, List.setIfInBounds_toArray, List.set_cons_zero, List.set_cons_succ]
        refine wpAnyH_done (by kernel_rfl) ?_ _
        have dc := HDC.out
        have HW8 := Lib.hid (hbr.out.trans (HB8.out.mono hbr.out.size))
        go_wp2_with fail
        go_roundw
        case rel => exact ⟨lo, m, by omega, by omega, rfl, rfl, g1, HR, HW8⟩
        case measure => simp [intOf]; omega
    · obtain rfl : lo = hi := by omega
      have HC := Lib.hid (ahead_split hhi g1.out fun i d h1 h2 => Int.not_lt.2 (g2.out i d h1 h2))
      by_cases hle : lo < L.length
      · obtain ⟨d, hd⟩ : ∃ d, L[lo]? = some d := ⟨_, List.getElem?_eq_getElem hle⟩
        obtain ⟨ad, pp, hA, -, hpp, -⟩ := H1.out.place hd
        subst hA
        have HPP := Lib.hid hpp
        have HD := Lib.hid hd
        have HO := Lib.hid (H1.out.ok d (List.mem_of_getElem? hd))
        have hdl : decide ((lo : Int) < (L.length : Int)) = true := decide_eq_true (by omega)
        clear hd hpp
        go_upto_region 8 with fail
        refine wp_region_held_drew (S := fun w' => Hid (Below wr.heap.size wr w')) (by kernel_rfl) (Lib.hid (Below.refl _ _).drew) (fun hS => ?_)
        refine wpAnyH_take (i := 0) (v := ?_) rfl (by kernel_rfl) (by kernel_rfl) (by kernel_rfl) (fun _ _ _ h => h) (Or.inl ⟨by rfl, ?_⟩) hS ?_
        rotate_left
        · intro wi hw
          go_simp
          try with_reducible rfl
        try simp only [Act.put, List.getElem_toArray, List.getElem_cons_succ, List.getElem_cons_zero, List.setIfInBounds_toArray, List.set_cons_zero, List.set_cons_succ]
        refine wpAnyH_take (i := 1) (v := ?_) rfl (by kernel_rfl) (by kernel_rfl) (by kernel_rfl) (fun _ _ _ h => h) (Or.inl ⟨by rfl, ?_⟩) hS ?_
        rotate_left
        · intro wi hw
          go_simp
          try with_reducible rfl
        try simp only [Act.put, List.getElem_toArray, List.getElem_cons_succ, List.getElem_cons_zero, List.setIfInBounds_toArray, List.set_cons_zero, List.set_cons_succ]
        refine wpAnyH_take (i := 2) (v := ?_) rfl (by kernel_rfl) (by kernel_rfl) (by kernel_rfl) (fun _ _ _ h => h) (Or.inl ⟨by rfl, ?_⟩) hS ?_
        rotate_left
        · intro wi hw
          go_simp
          try with_reducible rfl
        try simp only [Act.put, List.getElem_toArray, List.getElem_cons_succ, List.getElem_cons_zero, List.setIfInBounds_toArray, List.set_cons_zero, List.set_cons_succ]
        refine wpAnyH_take (i := 3) (v := ?_) rfl (by kernel_rfl) (by kernel_rfl) (by kernel_rfl) (fun _ _ _ h => h) (Or.inl ⟨by rfl, ?_⟩) hS ?_
        rotate_left
        · intro wi hw
          go_simp
          try with_reducible rfl
        try simp only [Act.put, List.getElem_toArray, List.getElem_cons_succ, List.getElem_cons_zero, List.setIfInBounds_toArray, List.set_cons_zero, List.set_cons_succ]
        refine wpAnyH_take (i := 4) (v := ?_) rfl (by kernel_rfl) (by kernel_rfl) (by kernel_rfl) (fun _ _ _ h => h) (Or.inl ⟨by rfl, ?_⟩) hS ?_
        rotate_left
        · intro wi hw
          go_simp
          try with_reducible rfl
        try simp only [Act.put, List.getElem_toArray, List.getElem_cons_succ, List.getElem_cons_zero, List.setIfInBounds_toArray, List.set_cons_zero, List.set_cons_succ]
        refine wpAnyH_take (i := 5) (v := ?_) rfl (by kernel_rfl) (by kernel_rfl) (by kernel_rfl) (fun _ _ _ h => h) (Or.inl ⟨by rfl, ?_⟩) hS ?_
        rotate_left
        · intro wi hw
          go_simp
          try with_reducible rfl
        try simp only [Act.put, List.getElem_toArray, List.getElem_cons_succ, List.getElem_cons_zero, List.setIfInBounds_toArray, List.set_cons_zero, List.set_cons_succ]
        refine wpAnyH_take (i := 6) (v := ?_) rfl (by kernel_rfl) (by kernel_rfl) (by kernel_rfl) (fun _ _ _ h => h) (Or.inl ⟨by rfl, ?_⟩) hS ?_
        rotate_left
        · intro wi hw
          go_simp
          try with_reducible rfl
        try simp only [Act.put, List.getElem_toArray, List.getElem_cons_succ, List.getElem_cons_zero, List.setIfInBounds_toArray, List.set_cons_zero, List.set_cons_succ]
        refine wpAnyH_take (i := 7) (v := ?_) rfl (by kernel_rfl) (by kernel_rfl) (by kernel_rfl) (fun _ _ _ h => h) (Or.inl ⟨by rfl, ?_⟩) hS ?_
        rotate_left
        · intro wi hw
          go_simp
          try with_reducible rfl
        try simp only [Act.put, List.getElem_toArray, List.getElem_cons_succ, List.getElem_cons_zero, List.setIfInBounds_toArray, List.set_cons_zero, List.set_cons_succ]
        refine wpAnyH_take (i := 8) (v := ?_) rfl (by kernel_rfl) (by kernel_rfl) (by kernel_rfl) (fun _ _ _ h => h) (Or.inl ⟨by rfl, ?_⟩) hS ?_
        rotate_left
        · intro wi hw
          have hpp := HPP.out
          go_simp
          try with_reducible rfl
        try simp only [Act.put, List.getElem_toArray, List.getElem_cons_succ, List.getElem_cons_zero, List.setIfInBounds_toArray, List.set_cons_zero, List.set_cons_succ]
        refine wpAnyH_take (i := 9) (v := ?_) rfl (by kernel_rfl) (by kernel_rfl) (by kernel_rfl) (fun _ _ _ h => h) (Or.inl ⟨by rfl, ?_⟩) hS ?_
        rotate_left
        · intro wi hw
          obtain ⟨ad', pi, hA, -, hpi, q0, q1, q2, q3⟩ := (H1.out.below (hb.out.trans (hw.out.mono hb.out.size))).place HD.out
          injection hA with hA
          subst hA
          obtain rfl : pi = pp := hpi.symm.trans HPP.out
          have hld := D.load q0 q1 q2 q3
          go_simp
          try with_reducible rfl
        try simp only [Act.put, List.getElem_toArray, List.getElem_cons_succ, List.getElem_cons_zero, List.setIfInBounds_toArray, List.set_cons_zero, List.set_cons_succ]
        refine wpAnyH_take (i := 10) (v := ?_) rfl (by kernel_rfl) (by kernel_rfl) (by kernel_rfl) (fun _ _ _ h => h) (Or.inl ⟨by rfl, ?_⟩) hS ?_
        rotate_left
        · intro wi hw
          obtain ⟨k0, k1, k2, -, -, -⟩ := Lift.Box.facts3 (Lift.Box.below HKB.out (hbr.out.trans (hw.out.mono hbr.out.size)) HGL.out)
          have hkk := KD.load (p := ⟨w.heap.size, 0, none⟩) (d := ⟨Ak, ck, k⟩) k0 k1 k2
          go_simp
          try with_reducible rfl
        try simp only [Act.put, List.getElem_toArray, List.getElem_cons_succ, List.getElem_cons_zero, List.setIfInBounds_toArray, List.set_cons_zero, List.set_cons_succ]
        refine wpAnyH_ready (rs := [11]) (by kernel_rfl) (by simp) ?_
        refine AllReadyH.cons rfl (fun K hK => ?_) AllReadyH.nil
        go_simp
        have hb7 := hS.out
        have hb8 := hb.out.trans (hb7.mono hb.out.size)
        refine (oclo_any d Ak ck k _ (((HO.out.next HB0.out).next (hbr.out.trans (hb7.mono hbr.out.size))).mono fun k hk => hk) ((HKA.out.next HB0.out).next (hbr.out.trans (hb7.mono hbr.out.size)))).mono ?_
        rintro e W8 ⟨rfl, hb9⟩
        have HB8 := Lib.hid (hb7.trans (hb9.mono hb7.size))
        clear hb7 hb8 hb9
        go_wp2_with fail
        refine hK.out _ _ HB8 (fun _ => ?_)
        clear hK K hS
        refine wpAnyH_other (S' := fun w' => Hid (Below W8.heap.size W8 w')) (fun w hw => Lib.hid (HB8.out.trans (hw.out.mono HB8.out.size))) _ _ _ _ ?_
        have hS : Hid (Below W8.heap.size W8 W8) := Lib.hid (Below.refl _ _)
        try simp only [Act.put, List.getElem_toArray, List.getElem_cons_succ, List.getElem_cons_zero, List.setIfInBounds_toArray, List.set_cons_zero, List.set_cons_succ]
        generalize cmpK d.k k = cc
        refine wpAnyH_take (i := 12) (v := ?_) rfl (by kernel_rfl) (by kernel_rfl) (by kernel_rfl) (fun _ _ _ h => h) (Or.inl ⟨by rfl, ?_⟩) hS ?_
        rotate_left
        · intro wi hw
          go_simp
          try with_reducible rfl
        try simp only [Act.put, List.getElem_toArray, List.getElem_cons_succ, List.getElem_cons_zero, List.setIfInBounds_toArray, List.set_cons_zero, List.set_cons_succ]
        refine wpAnyH_take (i := 13) (v := ?_) rfl (by kernel_rfl) (by kernel_rfl) (by kernel_rfl) (fun _ _ _ h => h) (Or.inl ⟨by rfl, ?_⟩) hS ?_
        rotate_left
        · intro wi hw
          go_simp
          try with_reducible rfl
        try simp only [Act.put, List.getElem_toArray, List.getElem_cons_succ, List.getElem_cons_zero, List.setIfInBounds_toArray, List.set_cons_zero, List.set_cons_succ]
        refine wpAnyH_take (i := 14) (v := ?_) rfl (by kernel_rfl) (by kernel_rfl) (by kernel_rfl) (fun _ _ _ h => h) (Or.inl ⟨by rfl, ?_⟩) hS ?_
        rotate_left
        · intro wi hw
          go_simp
          try with_reducible rfl
        try simp only [Act.put, List.getElem_toArray, List.getElem_cons_succ, List.getElem_cons_zero, List.setIfInBounds_toArray, List.set_cons_zero, List.set_cons_succ]
        refine wpAnyH_take (i := 15) (v := ?_) rfl (by kernel_rfl) (by kernel_rfl) (by kernel_rfl) (fun _ _ _ h => h) (Or.inl ⟨by rfl, ?_⟩) hS ?_
        rotate_left
        · intro wi hw
          go_simp
          try with_reducible rfl
        try simp only [Act.put, List.getElem_toArray, List.getElem_cons_succ, List.getElem_cons_zero, List.setIfInBounds_toArray, List.set_cons_zero, List.set_cons_succ]
        refine wpAnyH_done (by kernel_rfl) ?_ _
        have HW8 := Lib.hid (hb.out.trans (HB8.out.mono hb.out.size))
        go_wp2_with fail
        go_returns
        exact ⟨⟨cc == 0, by rw [HC.out]; rfl⟩, HW8.out⟩
      · have hdl : decide ((lo : Int) < (L.length : Int)) = false := decide_eq_false (by omega)
        go_upto_region 8 with fail
        refine wp_region_held_drew (S := fun w' => Hid (Below wr.heap.size wr w')) (by kernel_rfl) (Lib.hid (Below.refl _ _).drew) (fun hS => ?_)
        refine wpAnyH_take (i := 0) (v := ?_) rfl (by kernel_rfl) (by kernel_rfl) (by kernel_rfl) (fun _ _ _ h => h) (Or.inl ⟨by rfl, ?_⟩) hS ?_
        rotate_left
        · intro wi hw
          go_simp
          try with_reducible rfl
        try simp only [Act.put, List.getElem_toArray, List.getElem_cons_succ, List.getElem_cons_zero, List.setIfInBounds_toArray, List.set_cons_zero, List.set_cons_succ]
        refine wpAnyH_take (i := 1) (v := ?_) rfl (by kernel_rfl) (by kernel_rfl) (by kernel_rfl) (fun _ _ _ h => h) (Or.inl ⟨by rfl, ?_⟩) hS ?_
        rotate_left
        · intro wi hw
          go_simp
          try with_reducible rfl
        try simp only [Act.put, List.getElem_toArray, List.getElem_cons_succ, List.getElem_cons_zero, List.setIfInBounds_toArray, List.set_cons_zero, List.set_cons_succ]
        refine wpAnyH_take (i := 2) (v := ?_) rfl (by kernel_rfl) (by kernel_rfl) (by kernel_rfl) (fun _ _ _ h => h) (Or.inl ⟨by rfl, ?_⟩) hS ?_
        rotate_left
        · intro wi hw
          go_simp
          try with_reducible rfl
        try simp only [Act.put, List.getElem_toArray, List.getElem_cons_succ, List.getElem_cons_zero, List.setIfInBounds_toArray, List.set_cons_zero, List.set_cons_succ]
        refine wpAnyH_take (i := 3) (v := ?_) rfl (by kernel_rfl) (by kernel_rfl) (by kernel_rfl) (fun _ _ _ h => h) (Or.inl ⟨by rfl, ?_⟩) hS ?_
        rotate_left
        · intro wi hw
          go_simp
          try with_reducible rfl
        try simp only [Act.put, List.getElem_toArray, List.getElem_cons_succ, List.getElem_cons_zero, List.setIfInBounds_toArray, List.set_cons_zero, List.set_cons_succ]
        refine wpAnyH_take (i := 4) (v := ?_) rfl (by kernel_rfl) (by kernel_rfl) (by kernel_rfl) (fun _ _ _ h => h) (Or.inl ⟨by rfl, ?_⟩) hS ?_
        rotate_left
        · intro wi hw
          go_simp
          try with_reducible rfl
        try simp only [Act.put, List.getElem_toArray, List.getElem_cons_succ, List.getElem_cons_zero, List.setIfInBounds_toArray, List.set_cons_zero, List.set_cons_succ]
        refine wpAnyH_take (i := 5) (v := undef) rfl (by kernel_rfl) (by kernel_rfl) (by kernel_rfl) (fun _ _ _ h => h) (Or.inr ⟨by rfl, rfl⟩) hS ?_
        try simp only [Act.put, List.getElem_toArray, List.getElem_cons_succ, List.getElem_cons_zero, List.setIfInBounds_toArray, List.set_cons_zero, List.set_cons_succ]
        refine wpAnyH_take (i := 6) (v := undef) rfl (by kernel_rfl) (by kernel_rfl) (by kernel_rfl) (fun _ _ _ h => h) (Or.inr ⟨by rfl, rfl⟩) hS ?_
        try simp only [Act.put, List.getElem_toArray, List.getElem_cons_succ, List.getElem_cons_zero, List.setIfInBounds_toArray, List.set_cons_zero, List.set_cons_succ]
        refine wpAnyH_take (i := 7) (v := undef) rfl (by kernel_rfl) (by kernel_rfl) (by kernel_rfl) (fun _ _ _ h => h) (Or.inr ⟨by rfl, rfl⟩) hS ?_
        try simp only [Act.put, List.getElem_toArray, List.getElem_cons_succ, List.getElem_cons_zero, List.setIfInBounds_toArray, List.set_cons_zero, List.set_cons_succ]
        refine wpAnyH_take (i := 8) (v := undef) rfl (by kernel_rfl) (by kernel_rfl) (by kernel_rfl) (fun _ _ _ h => h) (Or.inr ⟨by rfl, rfl⟩) hS ?_
        try simp only [Act.put, List.getElem_toArray, List.getElem_cons_succ, List.getElem_cons_zero, List.setIfInBounds_toArray, List.set_cons_zero, List.set_cons_succ]
        refine wpAnyH_take (i := 9) (v := undef) rfl (by kernel_rfl) (by kernel_rfl) (by kernel_rfl) (fun _ _ _ h => h) (Or.inr ⟨by rfl, rfl⟩) hS ?_
        try simp only [Act.put, List.getElem_toArray, List.getElem_cons_succ, List.getElem_cons_zero, List.setIfInBounds_toArray, List.set_cons_zero, List.set_cons_succ]
        refine wpAnyH_take (i := 10) (v := undef) rfl (by kernel_rfl) (by kernel_rfl) (by kernel_rfl) (fun _ _ _ h => h) (Or.inr ⟨by rfl, rfl⟩) hS ?_
        try simp only [Act.put, List.getElem_toArray, List.getElem_cons_succ, List.getElem_cons_zero, List.setIfInBounds_toArray, List.set_cons_zero, List.set_cons_succ]
        refine wpAnyH_take (i := 11) (v := undef) rfl (by kernel_rfl) (by kernel_rfl) (by kernel_rfl) (fun _ _ _ h => h) (Or.inr ⟨by rfl, rfl⟩) hS ?_
        try simp only [Act.put, List.getElem_toArray, List.getElem_cons_succ, List.getElem_cons_zero, List.setIfInBounds_toArray, List.set_cons_zero, List.set_cons_succ]
        refine wpAnyH_take (i := 12) (v := undef) rfl (by kernel_rfl) (by kernel_rfl) (by kernel_rfl) (fun _ _ _ h => h) (Or.inr ⟨by rfl, rfl⟩) hS ?_
        try simp only [Act.put, List.getElem_toArray, List.getElem_cons_succ, List.getElem_cons_zero, List.setIfInBounds_toArray, List.set_cons_zero, List.set_cons_succ]
        refine wpAnyH_take (i := 13) (v := ?_) rfl (by kernel_rfl) (by kernel_rfl) (by kernel_rfl) (fun _ _ _ h => h) (Or.inl ⟨by rfl, ?_⟩) hS ?_
        rotate_left
        · intro wi hw
          go_simp
          try with_reducible rfl
        try simp only [Act.put, List.getElem_toArray, List.getElem_cons_succ, List.getElem_cons_zero, List.setIfInBounds_toArray, List.set_cons_zero, List.set_cons_succ]
        refine wpAnyH_take (i := 14) (v := ?_) rfl (by kernel_rfl) (by kernel_rfl) (by kernel_rfl) (fun _ _ _ h => h) (Or.inl ⟨by rfl, ?_⟩) hS ?_
        rotate_left
        · intro wi hw
          go_simp
          try with_reducible rfl
        try simp only [Act.put, List.getElem_toArray, List.getElem_cons_succ, List.getElem_cons_zero, List.setIfInBounds_toArray, List.set_cons_zero, List.set_cons_succ]
        refine wpAnyH_take (i := 15) (v := ?_) rfl (by kernel_rfl) (by kernel_rfl) (by kernel_rfl) (fun _ _ _ h => h) (Or.inl ⟨by rfl, ?_⟩) hS ?_
        rotate_left
        · intro wi hw
          go_simp
          try with_reducible rfl
        try simp only [Act.put, List.getElem_toArray, List.getElem_cons_succ, List.getElem_cons_zero, List.setIfInBounds_toArray, List.set_cons_zero, List.set_cons_succ]
        refine wpAnyH_done (by kernel_rfl) ?_ _
        go_wp2_with fail
        go_returns
        exact ⟨⟨false, by rw [HC.out]; rfl⟩, hb.out.drew⟩
end Go.Proofs.Ytobjiamdljjkjaa.Bk

/- What Seek answers, the project's own and the document's. -/
namespace Go.Proofs.Ytobjiamdljjkjaa.Bk
set_option linter.unusedVariables false
set_option linter.unusedSimpArgs false
open Go.RowKit Lift Ik Sk Vn
theorem results_box3 {P : Program} {fn : Func} {p u v g : Nat} {T : TypeId} {us : List Value} {w : World} {fs : Array Field} (h : fn.results = #[.cell p T, .tmp u, .tmp v]) (hu : P.underlying T = some (.struct fs))
    (hi : (P.info? T).map (·.size) = some us.toArray.size) (tmps : Array Value) (hp : tmps.getD p undef = .pointer (some ⟨g, 0, none⟩)) (hb : Lift.Box w g T us) :
    (results fn tmps).run P w = .ok (.tuple #[.agg us.toArray, tmps.getD u undef, tmps.getD v undef]) w := by
  have hl := run_loadVar_row (P := P) w g T T us.toArray (0, 0) (.struct fs) hb hu rfl hi
  have hc : (results fn tmps).run P w = ((asAddr (tmps.getD p undef)).run P w).andThen fun a w₁ => ((loadVar T a).run P w₁).andThen fun x w₂ => .ok (.tuple #[x, tmps.getD u undef, tmps.getD v undef]) w₂ := by
    simp only [results, h]
    simp [Sem.run_bind, Result.andThen]
  rw [hc, hp]
  simp only [asAddr, Sem.run_pure, Result.andThen, hl]
/-- The first entry at or behind a key. -/
def seekT (ts : List T) (k : K) : Option T := (aft (fun t : T => t.k) ts k).head?
theorem seekT_map (L : List D) (k : K) : seekT (L.map D.t) k = (aft D.k L k).head?.map D.t := by
  unfold seekT
  rw [(bef_map (f := fun t : T => t.k) (k := k) D.t L).2, List.head?_map]
  rfl
theorem ahead_at (L : List D) (k : K) : L[ahead L k]? = (aft D.k L k).head? := by
  have h := bef_aft (f := D.k) L k
  have e : L[ahead L k]? = (bef D.k L k ++ aft D.k L k)[ahead L k]? := by rw [h]
  rw [e]
  unfold ahead
  rw [List.getElem?_append_right (Nat.le_refl _), Nat.sub_self, List.head?_eq_getElem?]
theorem ahead_le (L : List D) (k : K) : ahead L k ≤ L.length := by
  have h := congrArg List.length (bef_aft (f := D.k) L k)
  rw [List.length_append] at h
  unfold ahead
  omega
theorem seek_own {L : List D} {k : K} : seekT (L.map D.t) k = (L[ahead L k]?).map D.t := by rw [seekT_map, ahead_at]
theorem aft_skip : ∀ (L : List D) (k : K) (j : Nat), (∀ i e, i < j → L[i]? = some e → cmpK e.k k < 0) → aft D.k L k = aft D.k (L.drop j) k := by
  intro L k j
  induction j generalizing L with
  | zero => intro _; rfl
  | succ j ih =>
    intro h
    match L with
    | [] => rfl
    | d :: L =>
      have h0 : cmpK d.k k < 0 := h 0 d (by omega) rfl
      have e : aft D.k (d :: L) k = aft D.k L k := by
        unfold aft
        rw [List.dropWhile_cons_of_pos (by simpa using h0)]
      rw [e, List.drop_succ_cons]
      exact ih L fun i e hi he => h (i + 1) e (by omega) (by simpa using he)
theorem seek_some {L : List D} {k : K} {j : Nat} {d : D} (h : ∀ i e, i < j → L[i]? = some e → cmpK e.k k < 0) (hd : L[j]? = some d) (h0 : ¬ cmpK d.k k < 0) : seekT (L.map D.t) k = some d.t := by
  obtain ⟨hj, hd'⟩ := List.getElem?_eq_some_iff.1 hd
  rw [seekT_map, aft_skip L k j h, List.drop_eq_getElem_cons hj, hd']
  unfold aft
  rw [List.dropWhile_cons_of_neg (by simpa using h0)]
  rfl
theorem seek_none {L : List D} {k : K} (h : ∀ i e, i < L.length → L[i]? = some e → cmpK e.k k < 0) : seekT (L.map D.t) k = none := by
  rw [seekT_map, aft_skip L k L.length h, List.drop_length]
  rfl
theorem allB_err {bs : List Nat} (h : (allB bs).2 ≠ 0) : (allB bs).1 = [] := by
  unfold allB at h ⊢
  split
  · rfl
  · rename_i h1
    rw [if_neg h1] at h
    split
    · rfl
    · rename_i h2
      rw [if_neg h2] at h
      split
      · rename_i h3
        rw [dif_pos h3] at h
        exact absurd rfl h
      · rfl
theorem allB_isB2 {bs : List Nat} (h : (allB bs).2 = 0) : IsB bs (allB bs).1 := by
  by_cases h1 : bs.length < 8
  · rw [allB_short h1] at h; cases h
  · by_cases h2 : bs.drop (bs.length - 4) = sum4 (bs.take (bs.length - 4))
    · by_cases h3 : ∃ ts, IsB bs ts
      · obtain ⟨ts, h4⟩ := h3
        rw [allB_ok h4]; exact h4
      · rw [allB_bad h1 h2 h3] at h; cases h
    · rw [allB_sum h1 h2] at h; cases h
/-- What Seek answers. -/
def SkT (w : World) (r : List T × Nat) (k : K) (e : Ending) (w' : World) : Prop :=
  ∃ d : D, e = .returned (.tuple #[d.v, .bool (seekT r.1 k).isSome, .int .i64 (r.2 : Nat)]) ∧ d.t = (seekT r.1 k).getD ⟨⟨[], 0, 0⟩, []⟩ ∧ d.Ok w' (· < w'.heap.size) ∧ Below w.heap.size w w'
theorem dz_ok (w : World) (R : Nat → Prop) : dz.Ok w R := ⟨.inl rfl, Nat.le_refl _, by decide, ⟨by simp, by decide, by decide, by decide⟩, .inl rfl, Nat.le_refl _, by decide, by simp⟩
theorem skT_no {w w' : World} {r : List T × Nat} {k : K} {n : Nat} (h : seekT r.1 k = none) (hn : r.2 = n) (hb : Below w.heap.size w w') : SkT w r k (.returned (.tuple #[dz.v, .bool false, .int .i64 (n : Int)])) w' := ⟨dz, by rw [h, hn]; rfl, by rw [h]; rfl, dz_ok _ _, hb⟩
theorem skT_yes {w W : World} {bs : List T × Nat} {k : K} {g : Nat} {d : D} (h : seekT bs.1 k = some d.t) (hn : bs.2 = 0) (hd : d.Ok W (fun k => g < k ∧ k < W.heap.size)) (hb : Below w.heap.size w (put W g d)) : SkT w bs k (.returned (.tuple #[d.v, .bool true, .int .i64 0])) (put W g d) :=
  ⟨d, by rw [h, hn]; rfl, by rw [h]; rfl, hd.later (fun k hk => put_off _ _ _ _ (by omega)) fun k hk => by rw [put_size]; exact hk.2, hb⟩
theorem key_boxes (w : World) (A : Option Addr) (c : Nat) (k : K) : Lift.Box ((w.alloc (kbox A c k)).alloc zbox) w.heap.size 38 [.slice A k.key.length c, .int .u64 (k.seq : Int), .int .i64 k.kind] ∧ Bx ((w.alloc (kbox A c k)).alloc zbox) (w.heap.size + 1) dz ∧ Below w.heap.size w ((w.alloc (kbox A c k)).alloc zbox) ∧ ((w.alloc (kbox A c k)).alloc zbox).heap.size = w.heap.size + 2 := by
  have h1 : (w.alloc (kbox A c k)).heap.size = w.heap.size + 1 := by simp
  refine ⟨Lift.Box.below (B := w.heap.size + 1) (Lift.Box.new w 38 [.slice A k.key.length c, .int .u64 (k.seq : Int), .int .i64 k.kind]) (by rw [← h1]; exact Joins.below_alloc1 _ _) (by omega), ?_, Joins.below_alloc2 w _ _, by simp⟩
  rw [← h1]
  exact Bx.new (w.alloc (kbox A c k)) dz
set_option maxRecDepth 1000000 in
set_option maxHeartbeats 3200000 in
theorem oseek_any (A : Option Addr) (c : Nat) (bs : List Nat) (Ak : Option Addr) (ck : Nat) (k : K) (w : World) (hl : Lies w w.heap.size A (bs.map vb)) (hc : bs.length ≤ c) (hm : c ≤ maxLen) (hs : bs.length ≤ 50000000) (h8 : ∀ x, x ∈ bs → x < 256) (hk : At w w.heap.size Ak ck k) :
    Calls Try.prog 21 #[.slice A bs.length c, key Ak ck k] w (SkT w (allB bs) k) := by
  obtain ⟨x0, z0, b0, s0⟩ := key_boxes w Ak ck k
  obtain ⟨W0, hW0⟩ : ∃ W0, W0 = (w.alloc (kbox Ak ck k)).alloc zbox := ⟨_, rfl⟩
  rw [← hW0] at x0 z0 b0 s0
  have HO := Lib.hid (oall_any A c bs W0 ((hl.below b0).up b0.size) hc hm hs h8)
  have HK := Lib.hid hk
  have X0 := Lib.hid x0
  have Z0 := Lib.hid z0
  have B0 := Lib.hid b0
  have S0 := Lib.hid s0
  have HW0 := Lib.hid hW0
  clear hl h8 hk x0 z0 b0 s0 hW0
  go_enter Try.func21, Try.ntmps21
  go_upto_region 1 with fail
  change Code.wp _ _ _ _ ((w.alloc (kbox Ak ck k)).alloc zbox)
  rw [← HW0.out]
  go_wp2_with fail
  refine HO.out.mono ?_
  rintro e W1 ⟨hb1, A1, c1, L, rfl, hL, hents⟩
  by_cases h2 : (allB bs).2 ≠ 0
  · have h1 := allB_err h2
    have HB1 := Lib.hid (B0.out.trans (hb1.mono B0.out.size))
    have z1 : Bx W1 (w.heap.size + 1) dz := Z0.out.below hb1 Z0.out.lt
    obtain ⟨y0, y1, y2, y3, i0, i1, i2, i3⟩ := z1.facts
    have hbx : Bx (put W1 (w.heap.size + 1) dz) (w.heap.size + 1) dz := put_box _ z1
    have HBX := Lib.hid hbx
    have HS : Hid (seekT (allB bs).1 k = none) := Lib.hid (by rw [h1]; rfl)
    obtain ⟨n, hn⟩ : ∃ n, (allB bs).2 = n := ⟨_, rfl⟩
    have HN := Lib.hid hn
    have HPB := Lib.hid (put_below (B := w.heap.size) HB1.out (g := w.heap.size + 1) (by omega) dz)
    rw [hn] at h2 ⊢
    have hne : ((n : Int) != 0) = true := by rw [bne_iff_ne]; omega
    clear hb1 h1 hbx z1 HO hn hL hents
    go_wp2_with fail
    refine bodyPost_ret (results_box3 rfl Try.underlying48 (by kernel_rfl) _ rfl HBX.out) rfl ?_
    exact skT_no HS.out HN.out HPB.out
  · have h2 : (allB bs).2 = 0 := by omega
    have hB : IsB bs (L.map D.t) := by rw [hL]; exact allB_isB2 h2
    have h1 := hL.symm
    rw [h2]
    have HB1 := Lib.hid (B0.out.trans (hb1.mono B0.out.size))
    have Z1 : Hid (Bx W1 (w.heap.size + 1) dz) := Lib.hid (Z0.out.below hb1 Z0.out.lt)
    have hx1 := X0.out.below hb1 X0.out.lt
    obtain ⟨k0, k1, k2, -, -, -⟩ := hx1.facts3
    have hkk := KD.load (p := ⟨w.heap.size, 0, none⟩) (d := ⟨Ak, ck, k⟩) k0 k1 k2
    have hz := may_zero hB.1
    have hlL : L.length ≤ 10000 := by have := hz.2.2; rwa [List.length_map] at this
    have HEN : Hid (Ents W1 (fun k => w.heap.size + 1 < k ∧ k < W1.heap.size) A1 c1 L) := Lib.hid (hents.mono fun k hk => ⟨by have := hk.1; have := S0.out; omega, hk.2⟩)
    have HBS := Lib.hid (obinf_any A1 c1 L Ak ck k W1 (hents.mono fun k hk => hk.2) (HK.out.next HB1.out) hlL (rises_pair hz.2.1))
    have H1 := Lib.hid h1
    have H2 := Lib.hid h2
    have HSK := Lib.hid (seek_own (L := L) (k := k))
    have hal := ahead_le L k
    clear hb1 h1 h2 hB hz hents hL hx1 HO
    generalize ahead L k = a at HBS HSK hal
    go_wp2_with fail
    refine HBS.out.mono ?_
    rintro e W2 ⟨⟨fd, rfl⟩, hb2⟩
    have z2 : Bx W2 (w.heap.size + 1) dz := Z1.out.below hb2 Z1.out.lt
    obtain ⟨y0, y1, y2, y3, i0, i1, i2, i3⟩ := z2.facts
    have HB2 := Lib.hid (HB1.out.trans (hb2.mono HB1.out.size))
    have HE2 : Hid (Ents W2 (fun k => w.heap.size + 1 < k ∧ k < W2.heap.size) A1 c1 L) := Lib.hid (HEN.out.later (fun k hk => hb2.block k hk.2) fun k hk => ⟨hk.1, Nat.lt_of_lt_of_le hk.2 hb2.size⟩)
    clear hb2 HBS k0 k1 k2 hkk
    by_cases hend : a = L.length
    · have hbx : Bx (put W2 (w.heap.size + 1) dz) (w.heap.size + 1) dz := put_box _ z2
      have HBX := Lib.hid hbx
      have HS : Hid (seekT (allB bs).1 k = none) := Lib.hid (by rw [H1.out, HSK.out, List.getElem?_eq_none (by omega)]; rfl)
      have HPB := Lib.hid (put_below (B := w.heap.size) HB2.out (g := w.heap.size + 1) (by omega) dz)
      have hq : ((a : Int) == (L.length : Int)) = true := by rw [beq_iff_eq]; omega
      subst hend
      clear hbx z2 HSK
      go_wp2_with fail
      refine bodyPost_ret (results_box3 rfl Try.underlying48 (by kernel_rfl) _ rfl HBX.out) rfl ?_
      exact skT_no HS.out H2.out HPB.out
    · have hlt : a < L.length := by omega
      have hq : ((a : Int) == (L.length : Int)) = false := by rw [beq_eq_false_iff_ne]; omega
      have hqn : ¬ (a : Int) = (L.length : Int) := by omega
      obtain ⟨d, hd⟩ : ∃ d, L[a]? = some d := ⟨_, List.getElem?_eq_getElem hlt⟩
      obtain ⟨ad, p, hA, hpb, hp, q0, q1, q2, q3⟩ := HE2.out.place hd
      subst hA
      have hld := D.load q0 q1 q2 q3
      have hbx : Bx (put W2 (w.heap.size + 1) d) (w.heap.size + 1) d := put_box _ z2
      have HBX := Lib.hid hbx
      have HD := Lib.hid (HE2.out.ok d (List.mem_of_getElem? hd))
      have HS : Hid (seekT (allB bs).1 k = some d.t) := Lib.hid (by rw [H1.out, HSK.out, hd]; rfl)
      have HPB := Lib.hid (put_below (B := w.heap.size) HB2.out (g := w.heap.size + 1) (by omega) d)
      have hc1 := HE2.out.len
      have hm1 := HE2.out.cap
      unfold maxLen at hm1
      clear hbx z2 hd HSK hend hpb
      go_wp2_with fail
      refine bodyPost_ret (results_box3 rfl Try.underlying48 (by kernel_rfl) _ rfl HBX.out) rfl ?_
      exact skT_yes HS.out H2.out HD.out HPB.out
set_option maxRecDepth 1000000 in
set_option maxHeartbeats 3200000 in
theorem bseek_any (A : Option Addr) (c : Nat) (bs : List Nat) (Ak : Option Addr) (ck : Nat) (k : K) (w : World) (hl : Lies w w.heap.size A (bs.map vb)) (hc : bs.length ≤ c) (hm : c ≤ maxLen) (hs : bs.length ≤ 10000000) (h8 : ∀ x, x ∈ bs → x < 256) (hk : At w w.heap.size Ak ck k) :
    Calls Try.prog 22 #[.slice A bs.length c, key Ak ck k] w (SkT w (allB bs) k) := by
  obtain ⟨x0, z0, b0, s0⟩ := key_boxes w Ak ck k
  obtain ⟨W0, hW0⟩ : ∃ W0, W0 = (w.alloc (kbox Ak ck k)).alloc zbox := ⟨_, rfl⟩
  rw [← hW0] at x0 z0 b0 s0
  have HO := Lib.hid (ball_any A c bs W0 ((hl.below b0).up b0.size) hc hm hs h8)
  have HK := Lib.hid hk
  have X0 := Lib.hid x0
  have Z0 := Lib.hid z0
  have B0 := Lib.hid b0
  have S0 := Lib.hid s0
  have HW0 := Lib.hid hW0
  clear hl h8 hk x0 z0 b0 s0 hW0
  go_enter Try.func22, Try.ntmps22
  go_upto_region 1 with fail
  change Code.wp _ _ _ _ ((w.alloc (kbox Ak ck k)).alloc zbox)
  rw [← HW0.out]
  go_wp2_with fail
  refine HO.out.mono ?_
  rintro e W1 ⟨hb1, A1, c1, L, ev, rfl, h1, hents⟩
  have HB1 := Lib.hid (B0.out.trans (hb1.mono B0.out.size))
  have Z1 : Hid (Bx W1 (w.heap.size + 1) dz) := Lib.hid (Z0.out.below hb1 Z0.out.lt)
  obtain ⟨n, hn⟩ : ∃ n, (allB bs).2 = n := ⟨_, rfl⟩
  have HN := Lib.hid hn
  have H1 := Lib.hid h1
  have X1 := Lib.hid (X0.out.below hb1 X0.out.lt)
  have HEN : Hid (Ents W1 (fun k => w.heap.size + 1 < k ∧ k < W1.heap.size) A1 c1 L) := Lib.hid (hents.mono fun k hk => ⟨by have := hk.1; have := S0.out; omega, hk.2⟩)
  by_cases h2 : n = 0
  · rw [hn, h2]
    have H2 : Hid ((allB bs).2 = 0) := Lib.hid (by rw [hn, h2])
    have hc1 := hents.len
    have hm1 := hents.cap
    unfold maxLen at hm1
    clear hb1 h1 hents hn h2 HN HO
    go_wp2_with fail
    go_loopw [10] (fun i wr => ∃ j : Nat, j ≤ L.length ∧ i = .int .i64 (j : Int) ∧ Hid (Below W1.heap.size W1 wr) ∧ Hid (∀ i e, i < j → L[i]? = some e → cmpK e.k k < 0)) (fun i _ => L.length + 1 - (intOf i).toNat)
    case atStart => exact ⟨0, by omega, rfl, Lib.hid (Below.refl _ _), Lib.hid fun i e hi => by omega⟩
    case round =>
      obtain ⟨j, hj, rfl, hbr, hno⟩ := hrel
      have HBR := Lib.hid (HB1.out.trans (hbr.out.mono HB1.out.size))
      by_cases hlt : j < L.length
      · obtain ⟨d, hd⟩ : ∃ d, L[j]? = some d := ⟨_, List.getElem?_eq_getElem hlt⟩
        obtain ⟨ad, pp, hA, -, hpp, -⟩ := HEN.out.place hd
        subst hA
        have HPP := Lib.hid hpp
        have HD := Lib.hid hd
        have HO := Lib.hid (HEN.out.ok d (List.mem_of_getElem? hd))
        have HML := Lib.hid hlt
        clear hd hpp
        have hcases : (cmpK d.k k < 0 ∧ decide (0 ≤ cmpK d.k k) = false) ∨ (0 ≤ cmpK d.k k ∧ decide (0 ≤ cmpK d.k k) = true) := by
          by_cases h : cmpK d.k k < 0
          · exact .inl ⟨h, decide_eq_false (by omega)⟩
          · exact .inr ⟨by omega, decide_eq_true (by omega)⟩
        go_upto_region 7 with fail
        refine wp_region_held_drew (S := fun w' => Hid (Below wr.heap.size wr w')) (by kernel_rfl) (Lib.hid (Below.refl _ _).drew) (fun hS => ?_)
        refine wpAnyH_take (i := 0) (v := ?_) rfl (by kernel_rfl) (by kernel_rfl) (by kernel_rfl) (fun _ _ _ h => h) (Or.inl ⟨by rfl, ?_⟩) hS ?_
        rotate_left
        · intro wi hw
          go_simp
          try with_reducible rfl
        try simp only [Act.put, List.getElem_toArray, List.getElem_cons_succ, List.getElem_cons_zero, List.setIfInBounds_toArray, List.set_cons_zero, List.set_cons_succ]
        refine wpAnyH_take (i := 1) (v := ?_) rfl (by kernel_rfl) (by kernel_rfl) (by kernel_rfl) (fun _ _ _ h => h) (Or.inl ⟨by rfl, ?_⟩) hS ?_
        rotate_left
        · intro wi hw
          go_simp
          try with_reducible rfl
        try simp only [Act.put, List.getElem_toArray, List.getElem_cons_succ, List.getElem_cons_zero, List.setIfInBounds_toArray, List.set_cons_zero, List.set_cons_succ]
        refine wpAnyH_take (i := 2) (v := ?_) rfl (by kernel_rfl) (by kernel_rfl) (by kernel_rfl) (fun _ _ _ h => h) (Or.inl ⟨by rfl, ?_⟩) hS ?_
        rotate_left
        · intro wi hw
          have hpp := HPP.out
          have hml := HML.out
          go_simp
          try with_reducible rfl
        try simp only [Act.put, List.getElem_toArray, List.getElem_cons_succ, List.getElem_cons_zero, List.setIfInBounds_toArray, List.set_cons_zero, List.set_cons_succ]
        refine wpAnyH_take (i := 3) (v := ?_) rfl (by kernel_rfl) (by kernel_rfl) (by kernel_rfl) (fun _ _ _ h => h) (Or.inl ⟨by rfl, ?_⟩) hS ?_
        rotate_left
        · intro wi hw
          go_simp
          try with_reducible rfl
        try simp only [Act.put, List.getElem_toArray, List.getElem_cons_succ, List.getElem_cons_zero, List.setIfInBounds_toArray, List.set_cons_zero, List.set_cons_succ]
        refine wpAnyH_take (i := 4) (v := ?_) rfl (by kernel_rfl) (by kernel_rfl) (by kernel_rfl) (fun _ _ _ h => h) (Or.inl ⟨by rfl, ?_⟩) hS ?_
        rotate_left
        · intro wi hw
          obtain ⟨ad', pi, hA, -, hpi, q0, q1, q2, q3⟩ := ((HEN.out.later (R' := (· < W1.heap.size)) (fun _ _ => rfl) fun k hk => hk.2).below (hbr.out.trans (hw.out.mono hbr.out.size))).place HD.out
          injection hA with hA
          subst hA
          obtain rfl : pi = pp := hpi.symm.trans HPP.out
          have hkd := KD.load (p := pi) (d := ⟨d.ka, d.kc, d.k⟩) q0 q1 q2
          go_simp
          try with_reducible rfl
        try simp only [Act.put, List.getElem_toArray, List.getElem_cons_succ, List.getElem_cons_zero, List.setIfInBounds_toArray, List.set_cons_zero, List.set_cons_succ]
        refine wpAnyH_take (i := 5) (v := ?_) rfl (by kernel_rfl) (by kernel_rfl) (by kernel_rfl) (fun _ _ _ h => h) (Or.inl ⟨by rfl, ?_⟩) hS ?_
        rotate_left
        · intro wi hw
          obtain ⟨k0, k1, k2, -, -, -⟩ := Lift.Box.facts3 (Lift.Box.below X1.out (hbr.out.trans (hw.out.mono hbr.out.size)) X1.out.lt)
          have hkk := KD.load (p := ⟨w.heap.size, 0, none⟩) (d := ⟨Ak, ck, k⟩) k0 k1 k2
          go_simp
          try with_reducible rfl
        try simp only [Act.put, List.getElem_toArray, List.getElem_cons_succ, List.getElem_cons_zero, List.setIfInBounds_toArray, List.set_cons_zero, List.set_cons_succ]
        refine wpAnyH_ready (rs := [6]) (by kernel_rfl) (by simp) ?_
        refine (AllReadyH.cons rfl (fun K hK => ?_) AllReadyH.nil)
        go_simp
        have hb7 := hS.out
        have hbw := hbr.out.trans (hb7.mono hbr.out.size)
        refine (rcmp_any d.ka Ak d.kc ck d.k k _ ((HO.out.later (R' := (· < W1.heap.size)) (fun _ _ => rfl) fun k hk => hk.2).next hbw |>.at' fun k hk => hk) (HK.out.next (HB1.out.trans (hbw.mono HB1.out.size)))).mono ?_
        rintro e W8 ⟨rfl, hb9⟩
        have HB8 := Lib.hid (hb7.trans (hb9.mono hb7.size))
        clear hb7 hbw hb9
        go_wp2_with fail
        refine hK.out _ _ HB8 (fun _ => ?_)
        clear hK K hS
        refine wpAnyH_other (S' := fun w' => Hid (Below W8.heap.size W8 w')) (fun w hw => Lib.hid (HB8.out.trans (hw.out.mono HB8.out.size))) _ _ _ _ ?_
        have hS : Hid (Below W8.heap.size W8 W8) := Lib.hid (Below.refl _ _)
        try simp only [Act.put, List.getElem_toArray, List.getElem_cons_succ, List.getElem_cons_zero, List.setIfInBounds_toArray, List.set_cons_zero, List.set_cons_succ]
        refine wpAnyH_take (i := 7) (v := ?_) rfl (by kernel_rfl) (by kernel_rfl) (by kernel_rfl) (fun _ _ _ h => h) (Or.inl ⟨by rfl, ?_⟩) hS ?_
        rotate_left
        · intro wi hw
          go_simp
          try with_reducible rfl
        try simp only [Act.put, List.getElem_toArray, List.getElem_cons_succ, List.getElem_cons_zero, List.setIfInBounds_toArray, List.set_cons_zero, List.set_cons_succ]
        refine wpAnyH_done (by kernel_rfl) ?_ _
        have HW8 : Hid (Below W1.heap.size W1 W8) := Lib.hid (hbr.out.trans (HB8.out.mono hbr.out.size))
        rcases hcases with ⟨hc, hdc⟩ | ⟨hc, hdc⟩
        · have HR : Hid (∀ i e, i < j + 1 → L[i]? = some e → cmpK e.k k < 0) := Lib.hid fun i e hi he => by
            by_cases h : i = j
            · subst h
              rw [HD.out] at he
              injection he with he
              subst he
              exact hc
            · exact hno.out i e (by omega) he
          rw [hdc]
          clear hc hdc
          go_wp2_with fail
          go_roundw
          case rel => exact ⟨j + 1, by omega, by go_num, HW8, HR⟩
          case measure => simp [intOf]; omega
        · have HS : Hid (seekT (allB bs).1 k = some d.t) := Lib.hid (by rw [← H1.out]; exact seek_some hno.out HD.out (by omega))
          rw [hdc]
          clear hc hdc
          have z2 : Bx W8 (w.heap.size + 1) dz := Z1.out.below HW8.out Z1.out.lt
          obtain ⟨y0, y1, y2, y3, i0, i1, i2, i3⟩ := z2.facts
          have HE2 : Hid (Ents W8 (fun k => w.heap.size + 1 < k ∧ k < W8.heap.size) (some ad) c1 L) := Lib.hid (HEN.out.later (fun k hk => HW8.out.block k hk.2) fun k hk => ⟨hk.1, Nat.lt_of_lt_of_le hk.2 HW8.out.size⟩)
          obtain ⟨ad', p, hA, hpb, hp, q0, q1, q2, q3⟩ := HE2.out.place HD.out
          injection hA with hA
          subst hA
          have hld := D.load q0 q1 q2 q3
          have hbx : Bx (put W8 (w.heap.size + 1) d) (w.heap.size + 1) d := put_box _ z2
          have HBX := Lib.hid hbx
          have HDO := Lib.hid (HE2.out.ok d (List.mem_of_getElem? HD.out))
          have HB2 := Lib.hid (HB1.out.trans (HW8.out.mono HB1.out.size))
          have HPB := Lib.hid (put_below (B := w.heap.size) HB2.out (g := w.heap.size + 1) (by omega) d)
          clear hbx z2 hpb
          go_wp2_with fail
          refine bodyPost_ret (results_box3 rfl Try.underlying48 (by kernel_rfl) _ rfl HBX.out) rfl ?_
          exact skT_yes HS.out H2.out HDO.out HPB.out
      · obtain rfl : j = L.length := by omega
        have HS : Hid (seekT (allB bs).1 k = none) := Lib.hid (by rw [← H1.out]; exact seek_none hno.out)
        have z2 : Bx wr (w.heap.size + 1) dz := Z1.out.below hbr.out Z1.out.lt
        obtain ⟨y0, y1, y2, y3, i0, i1, i2, i3⟩ := z2.facts
        have hbx : Bx (put wr (w.heap.size + 1) dz) (w.heap.size + 1) dz := put_box _ z2
        have HBX := Lib.hid hbx
        have HPB := Lib.hid (put_below (B := w.heap.size) HBR.out (g := w.heap.size + 1) (by omega) dz)
        clear hbx z2
        go_wp2_with fail
        refine bodyPost_ret (results_box3 rfl Try.underlying48 (by kernel_rfl) _ rfl HBX.out) rfl ?_
        exact skT_no HS.out H2.out HPB.out
  · have z1 := Z1.out
    obtain ⟨y0, y1, y2, y3, i0, i1, i2, i3⟩ := z1.facts
    have hbx : Bx (put W1 (w.heap.size + 1) dz) (w.heap.size + 1) dz := put_box _ z1
    have HBX := Lib.hid hbx
    have HS : Hid (seekT (allB bs).1 k = none) := Lib.hid (by rw [allB_err (by rw [hn]; exact h2)]; rfl)
    have HPB := Lib.hid (put_below (B := w.heap.size) HB1.out (g := w.heap.size + 1) (by omega) dz)
    have hne : ((n : Int) != 0) = true := by rw [bne_iff_ne]; omega
    rw [hn]
    clear hb1 h1 hents hbx z1 HO hn
    go_wp2_with fail
    refine bodyPost_ret (results_box3 rfl Try.underlying48 (by kernel_rfl) _ rfl HBX.out) rfl ?_
    exact skT_no HS.out HN.out HPB.out
end Go.Proofs.Ytobjiamdljjkjaa.Bk
