/- Proved: for any entries, heights and keys, SkipPlays of butterylaw9 answers true (Insert, Get, Seek, Before, Len, Bytes, Level and All agree with the definition, and another list is not affected), and its arguments read as before. Conditions: none beyond what the given row states. -/
import Derived.Test.YtmnhklfljfglhaaStrl
import Derived.Test.YtmnhklfljfglhaaSref3
import Derived.Test.YtmnhklfljfglhaaSref4
import Derived.Test.YtmnhklfljfglhaaSlev
import Derived.Deep.RegionHeld3
import Derived.Deep.QuietTactic
import Derived.BigQuiet
import Derived.LoopTactic
namespace Go.Proofs.Ytmnhklfljfglhaa.skipPlays
set_option linter.unusedVariables false
set_option linter.unusedSimpArgs false
open Go.ChangeShapes Go.WideShapes Go.ChangeAt Go.RowKit Lift Sk Ik

theorem own : ownKnob Try.prog.godebug = none := by kernel_rfl

theorem xor_u8 (x : Nat) : ∃ y : Nat, y < 256 ∧ bits .xor .u8 (x : Int) 255 = (y : Int) := by
  have h : ∃ n : Int, bits .xor .u8 (x : Int) 255 = IntKind.u8.wrap n := ⟨_, rfl⟩
  obtain ⟨n, h⟩ := h
  rw [h, IntKind.wrap_u8]
  exact ⟨(n % 256).toNat, by omega, by omega⟩
theorem levI_len (R : Row) (i : Int) : (levI R i).length ≤ R.length := by
  unfold levI
  split
  · exact Nat.zero_le _
  · unfold levR
    rw [List.length_map]
    exact List.length_filter_le _ _
theorem own_at {w : World} {base n c : Nat} {va : Option Addr} {bs : List Nat} (h : w.ownsRow base 5 1 (.slice va n c) n (bs.map vb)) (hn : 0 < n) : ∃ p, va = some ⟨p, 0, none⟩ ∧ base ≤ p ∧ p < w.heap.size := by
  rcases h.2 with ⟨_, h0⟩ | ⟨g, cap, cur, hv, hB, hh, _⟩
  · omega
  · injection hv with hv
    exact ⟨g, hv, hB, (Array.getElem?_eq_some_iff.1 hh).1⟩
/-- The entry that is put in, in its box; its value in a row of its own. -/
structure Ent (B : Nat) (X : Nat) (d : D) (bs : List Nat) (w : World) : Prop where
  box : Bx w X d
  own : w.ownsRow B 5 1 (.slice d.va d.val.length d.vc) d.val.length (bs.map vb)
theorem Ent.later {B X : Nat} {d : D} {bs : List Nat} {w w' : World} (h : Ent B X d bs w) (hX : w'.heap[X]? = w.heap[X]?) (hv : ∀ k, (Value.slice d.va d.val.length d.vc).ownBlock = some k → w'.heap[k]? = w.heap[k]?) : Ent B X d bs w' := ⟨h.box.at_block hX, own_same h.own hv⟩
set_option maxRecDepth 1000000 in
set_option maxHeartbeats 8000000 in
theorem walk (A0 A1 A2 : Option Addr) (c0 c1 c2 : Nat) (L : List D) (hs : List Int) (L2 : List KD) (w : World) (h0 : Ents w (· < w.heap.size) A0 c0 L) (h1 : Lies w w.heap.size A1 (hs.map (Value.int .i64))) (hc1 : hs.length ≤ c1) (hm1 : c1 ≤ maxLen) (hw : ∀ x, x ∈ hs → (Lit.int .i64 x).wf = true) (h2 : Keys w (· < w.heap.size) A2 c2 L2) :
    Calls Try.prog 3 #[.slice A0 L.length c0, .slice A1 hs.length c1, .slice A2 L2.length c2] w (Sk.Yes w) := by
  have H0 := Lib.hid h0
  have H1 := Lib.hid h1
  have H2 := Lib.hid h2
  have HW := Lib.hid hw
  have hc0 := h0.len
  have hm0 := h0.cap
  have hc2 := h2.len
  have hm2 := h2.cap
  unfold maxLen at hm0 hm1 hm2
  clear h0 h1 h2 hw
  go_enter Try.func3, Try.ntmps3
  go_wp2_with fail
  refine (alive_any _).mono ?_
  rintro e W1 ⟨rfl, hb1⟩
  have HB1 := Lib.hid hb1
  clear hb1
  go_wp2_with fail
  refine (big_any A0 c0 _ L W1 (H0.out.below HB1.out)).mono ?_
  rintro e W2 ⟨rfl, rfl⟩
  cases hg : bigL L
  · by_cases hlen : hs.length < L.length
    · go_wp2_with fail
      go_ret
      exact ⟨rfl, HB1.out⟩
    · by_cases hkey : 20 < L2.length
      · go_wp2_with fail
        go_ret
        exact ⟨rfl, HB1.out⟩
      · obtain ⟨hn60, hsm⟩ := big_no hg
        have HSM := Lib.hid hsm
        clear hg hsm
        go_wp2_with fail
        refine (new_any W1).mono ?_
        rintro e W2 ⟨rfl, hs2, hb2⟩
        have HS2 := Lib.hid hs2
        have HB2 := Lib.hid hb2
        clear hs2 hb2
        go_wp2_with fail
        refine (new_any W2).mono ?_
        rintro e W3 ⟨rfl, hs3, hb3⟩
        have HS3 := Lib.hid hs3
        have HB3 := Lib.hid hb3
        clear hs3 hb3
        go_wp2_with fail
        refine (rnew_any W3).mono ?_
        rintro e W4 ⟨rfl, hs4, hb4⟩
        have HT : Hid (Trl w (fun _ => False) W1.heap.size W2.heap.size W3.heap.size [] [] [] W4) := Lib.hid (by
          have l2 := HS2.out.lt _ rfl
          have l3 := HS3.out.lt _ rfl
          have s1 := HB1.out.size
          have s2 := HB2.out.size
          have s3 := HB3.out.size
          have b23 : Below W2.heap.size W2 W4 := HB3.out.trans (hb4.mono s3)
          refine ⟨_, _, _, HS2.out.below b23, HS3.out.below hb4, hs4, fun k hk => ?_, fun k hk ho => ?_, fun k hk ho => ?_, fun k hk ho => ?_, fun k hk => hk.elim, HB1.out.trans ((HB2.out.trans (b23.mono s2)).mono s1)⟩
          · rcases hk with hk | hk | hk <;> omega
          · omega
          · omega
          · omega)
        clear hs4 hb4 HS2 HS3 HB2 HB3 HB1
        generalize W1.heap.size = gx at HT ⊢
        generalize W2.heap.size = go at HT ⊢
        generalize W3.heap.size = gr at HT ⊢
        clear W1 W2 W3
        go_wp2_with fail
        go_loopw [12, 13, 14] (fun i x1 x2 wr => ∃ (j : Nat) (R Ro : Row), j ≤ L.length ∧ i = .int .i64 (j : Int) ∧ Hid (Trl w (fun _ => False) gx go gr R Ro R wr) ∧ Hid (R.length ≤ j) ∧ Hid (Ro.length ≤ j)) (fun i _ _ _ => 70 - (intOf i).toNat)
        case atStart => exact ⟨0, [], [], Nat.zero_le _, rfl, HT, Lib.hid (Nat.le_refl _), Lib.hid (Nat.le_refl _)⟩
        case round =>
        obtain ⟨j, R, Ro, hj, rfl, ht, hR, hRo⟩ := hrel
        clear HT
        by_cases hlt : j < L.length
        · obtain ⟨d, hd⟩ : ∃ d, L[j]? = some d := ⟨_, List.getElem?_eq_getElem hlt⟩
          obtain ⟨h, hh⟩ : ∃ h, hs[j]? = some h := ⟨_, List.getElem?_eq_getElem (by omega)⟩
          obtain ⟨ad, p, hA, -, hp, p0, p1, p2, p3⟩ := (H0.out.below ht.out.bel).place hd
          subst hA
          obtain ⟨ad2, hA2, -, -⟩ := (H1.out.below ht.out.bel).place (by rw [List.length_map]; omega)
          subst hA2
          have hld := D.load p0 p1 p2 p3
          have HP := Lib.hid hp
          have HJD := Lib.hid hd
          have HJH := Lib.hid hh
          have HWF := Lib.hid (HW.out h (List.mem_of_getElem? hh))
          have HDK := Lib.hid (H0.out.ok d (List.mem_of_getElem? hd))
          have HSD : Hid (small d) := Lib.hid (by
            have := HSM.out d (List.mem_of_getElem? hd)
            exact ⟨by omega, by omega⟩)
          have HC := Lib.hid (copy_own d wr ((HDK.out.below ht.out.bel).mono fun k hk => Nat.lt_of_lt_of_le hk ht.out.bel.size) HSD.out)
          clear hd hh
          go_wp2_with fail
          refine HC.out.mono ?_
          rintro e Wc ⟨d', rfl, htd, hok, hbc, hown⟩
          have HTD := Lib.hid htd
          have HOK := Lib.hid hok
          have HBC := Lib.hid hbc
          have HOWN := Lib.hid hown
          clear htd hok hbc hown HC p0 p1 p2 p3 hld
          go_upto_region 12 with fail
          change Code.wp _ _ _ _ (Wc.alloc (ebox d'))
          have hba : Below Wc.heap.size Wc (Wc.alloc (ebox d')) := Joins.below_alloc1 Wc _
          have hx1 : Bx (Wc.alloc (ebox d')) Wc.heap.size d' := Bx.new Wc d'
          have hsz : (Wc.alloc (ebox d')).heap.size = Wc.heap.size + 1 := by simp
          obtain ⟨V, hV⟩ : ∃ V, V = Wc.alloc (ebox d') := ⟨_, rfl⟩
          rw [← hV] at hba hx1 hsz ⊢
          clear hV
          have hbV : Below wr.heap.size wr V := HBC.out.trans (hba.mono HBC.out.size)
          have hownV := own_later HOWN.out hba
          obtain ⟨F, hF⟩ : ∃ F : Nat → Prop, F = fun k => wr.heap.size ≤ k ∧ k < V.heap.size := ⟨_, rfl⟩
          have HT1 : Hid (Trl w F gx go gr R Ro R V) := Lib.hid (by rw [hF]; exact ht.out.fresh hbV)
          have HOKF : Hid (d'.Ok V F) := Lib.hid (by
            rw [hF]
            exact HOK.out.later (fun k hk => hba.block k hk.2.1) fun k hk => ⟨hk.1, Nat.lt_of_lt_of_le hk.2.1 hba.size⟩)
          obtain ⟨X, hX⟩ : ∃ X, X = Wc.heap.size := ⟨_, rfl⟩
          rw [← hX] at hx1 ⊢
          have HFX : Hid (F X) := Lib.hid (by rw [hF, hX]; exact ⟨HBC.out.size, by omega⟩)
          have HFV : Hid (∀ k, (Value.slice d'.va d'.val.length d'.vc).ownBlock = some k → F k) := Lib.hid fun k hk => by
            rw [hF]
            exact hownV.lt k hk
          have HEN : Hid (Ent wr.heap.size X d' d'.val V) := Lib.hid ⟨hx1, hownV⟩
          obtain ⟨B0, hB0⟩ : ∃ B0, B0 = wr.heap.size := ⟨_, rfl⟩
          rw [← hB0] at HEN
          clear hba hx1 hsz hbV hownV hF hX HOK HBC HOWN ht hB0
          have hRj : R.length ≤ 150 := by have := hR.out; omega
          have hRoj : Ro.length ≤ 150 := by have := hRo.out; omega
          refine wp_region_held_drew (S := fun w' => Hid (Below w.heap.size w w' ∧ Bx w' X d')) (by kernel_rfl) (Lib.hid ⟨HT1.out.bel.drew, HEN.out.box⟩) (fun hS => ?_)
          refine wpAnyH_take (i := 0) (v := ?_) rfl (by kernel_rfl) (by kernel_rfl) (by kernel_rfl) (fun _ _ _ h => h) (Or.inl ⟨by rfl, ?_⟩) hS ?_
          rotate_left
          · intro w hw
            go_simp
            try with_reducible rfl
          try simp only [Act.put, List.getElem_toArray, List.getElem_cons_succ, List.getElem_cons_zero, List.setIfInBounds_toArray, List.set_cons_zero, List.set_cons_succ]
          refine wpAnyH_take (i := 1) (v := ?_) rfl (by kernel_rfl) (by kernel_rfl) (by kernel_rfl) (fun _ _ _ h => h) (Or.inl ⟨by rfl, ?_⟩) hS ?_
          rotate_left
          · intro w hw
            obtain ⟨t0, t1, t2, t3, -, -, -, -⟩ := hw.out.2.facts
            have hld := D.load (p := ⟨X, 0, none⟩) t0 t1 t2 t3
            go_simp
            try with_reducible rfl
          try simp only [Act.put, List.getElem_toArray, List.getElem_cons_succ, List.getElem_cons_zero, List.setIfInBounds_toArray, List.set_cons_zero, List.set_cons_succ]
          refine wpAnyH_take (i := 2) (v := ?_) rfl (by kernel_rfl) (by kernel_rfl) (by kernel_rfl) (fun _ _ _ h => h) (Or.inl ⟨by rfl, ?_⟩) hS ?_
          rotate_left
          · intro w hw
            go_simp
            try with_reducible rfl
          try simp only [Act.put, List.getElem_toArray, List.getElem_cons_succ, List.getElem_cons_zero, List.setIfInBounds_toArray, List.set_cons_zero, List.set_cons_succ]
          refine wpAnyH_take (i := 3) (v := ?_) rfl (by kernel_rfl) (by kernel_rfl) (by kernel_rfl) (fun _ _ _ h => h) (Or.inl ⟨by rfl, ?_⟩) hS ?_
          rotate_left
          · intro w hw
            go_simp
            try with_reducible rfl
          try simp only [Act.put, List.getElem_toArray, List.getElem_cons_succ, List.getElem_cons_zero, List.setIfInBounds_toArray, List.set_cons_zero, List.set_cons_succ]
          refine wpAnyH_take (i := 4) (v := ?_) rfl (by kernel_rfl) (by kernel_rfl) (by kernel_rfl) (fun _ _ _ h => h) (Or.inl ⟨by rfl, ?_⟩) hS ?_
          rotate_left
          · intro w hw
            have hjl := (List.getElem?_eq_some_iff.1 HJH.out).1
            go_simp
            try with_reducible rfl
          try simp only [Act.put, List.getElem_toArray, List.getElem_cons_succ, List.getElem_cons_zero, List.setIfInBounds_toArray, List.set_cons_zero, List.set_cons_succ]
          refine wpAnyH_take (i := 5) (v := ?_) rfl (by kernel_rfl) (by kernel_rfl) (by kernel_rfl) (fun _ _ _ h => h) (Or.inl ⟨by rfl, ?_⟩) hS ?_
          rotate_left
          · intro w hw
            obtain ⟨ad', hA, -, hcell⟩ := (H1.out.below hw.out.1).place (by have := (List.getElem?_eq_some_iff.1 HJH.out).1; rw [List.length_map]; omega)
            injection hA with hA
            subst hA
            have p0 := hcell j _ (by rw [List.getElem?_map, HJH.out]; rfl)
            have hjl := (List.getElem?_eq_some_iff.1 HJH.out).1
            clear hcell
            go_simp
            try with_reducible rfl
          try simp only [Act.put, List.getElem_toArray, List.getElem_cons_succ, List.getElem_cons_zero, List.setIfInBounds_toArray, List.set_cons_zero, List.set_cons_succ]
          refine wpAnyH_take (i := 8) (v := ?_) rfl (by kernel_rfl) (by kernel_rfl) (by kernel_rfl) (fun _ _ _ h => h) (Or.inl ⟨by rfl, ?_⟩) hS ?_
          rotate_left
          · intro w hw
            go_simp
            try with_reducible rfl
          try simp only [Act.put, List.getElem_toArray, List.getElem_cons_succ, List.getElem_cons_zero, List.setIfInBounds_toArray, List.set_cons_zero, List.set_cons_succ]
          refine wpAnyH_take (i := 9) (v := ?_) rfl (by kernel_rfl) (by kernel_rfl) (by kernel_rfl) (fun _ _ _ h => h) (Or.inl ⟨by rfl, ?_⟩) hS ?_
          rotate_left
          · intro w hw
            go_simp
            try with_reducible rfl
          try simp only [Act.put, List.getElem_toArray, List.getElem_cons_succ, List.getElem_cons_zero, List.setIfInBounds_toArray, List.set_cons_zero, List.set_cons_succ]
          refine wpAnyH_take (i := 10) (v := ?_) rfl (by kernel_rfl) (by kernel_rfl) (by kernel_rfl) (fun _ _ _ h => h) (Or.inl ⟨by rfl, ?_⟩) hS ?_
          rotate_left
          · intro w hw
            go_simp
            try with_reducible rfl
          try simp only [Act.put, List.getElem_toArray, List.getElem_cons_succ, List.getElem_cons_zero, List.setIfInBounds_toArray, List.set_cons_zero, List.set_cons_succ]
          refine wpAnyH_take (i := 11) (v := ?_) rfl (by kernel_rfl) (by kernel_rfl) (by kernel_rfl) (fun _ _ _ h => h) (Or.inl ⟨by rfl, ?_⟩) hS ?_
          rotate_left
          · intro w hw
            have hpp := HP.out
            go_simp
            try with_reducible rfl
          try simp only [Act.put, List.getElem_toArray, List.getElem_cons_succ, List.getElem_cons_zero, List.setIfInBounds_toArray, List.set_cons_zero, List.set_cons_succ]
          refine wpAnyH_take (i := 12) (v := ?_) rfl (by kernel_rfl) (by kernel_rfl) (by kernel_rfl) (fun _ _ _ h => h) (Or.inl ⟨by rfl, ?_⟩) hS ?_
          rotate_left
          · intro w hw
            obtain ⟨ad', pp, hA, -, hp', p0, p1, p2, p3⟩ := (H0.out.below hw.out.1).place HJD.out
            injection hA with hA
            subst hA
            obtain rfl : pp = p := hp'.symm.trans HP.out
            have hld := D.load p0 p1 p2 p3
            go_simp
            try with_reducible rfl
          try simp only [Act.put, List.getElem_toArray, List.getElem_cons_succ, List.getElem_cons_zero, List.setIfInBounds_toArray, List.set_cons_zero, List.set_cons_succ]
          refine wpAnyH_take (i := 13) (v := ?_) rfl (by kernel_rfl) (by kernel_rfl) (by kernel_rfl) (fun _ _ _ h => h) (Or.inl ⟨by rfl, ?_⟩) hS ?_
          rotate_left
          · intro w hw
            go_simp
            try with_reducible rfl
          try simp only [Act.put, List.getElem_toArray, List.getElem_cons_succ, List.getElem_cons_zero, List.setIfInBounds_toArray, List.set_cons_zero, List.set_cons_succ]
          refine wpAnyH_take (i := 14) (v := ?_) rfl (by kernel_rfl) (by kernel_rfl) (by kernel_rfl) (fun _ _ _ h => h) (Or.inl ⟨by rfl, ?_⟩) hS ?_
          rotate_left
          · intro w hw
            go_simp
            try with_reducible rfl
          try simp only [Act.put, List.getElem_toArray, List.getElem_cons_succ, List.getElem_cons_zero, List.setIfInBounds_toArray, List.set_cons_zero, List.set_cons_succ]
          refine wpAnyH_take (i := 15) (v := ?_) rfl (by kernel_rfl) (by kernel_rfl) (by kernel_rfl) (fun _ _ _ h => h) (Or.inl ⟨by rfl, ?_⟩) hS ?_
          rotate_left
          · intro w hw
            have hjl := (List.getElem?_eq_some_iff.1 HJH.out).1
            go_simp
            try with_reducible rfl
          try simp only [Act.put, List.getElem_toArray, List.getElem_cons_succ, List.getElem_cons_zero, List.setIfInBounds_toArray, List.set_cons_zero, List.set_cons_succ]
          refine wpAnyH_take (i := 16) (v := ?_) rfl (by kernel_rfl) (by kernel_rfl) (by kernel_rfl) (fun _ _ _ h => h) (Or.inl ⟨by rfl, ?_⟩) hS ?_
          rotate_left
          · intro w hw
            obtain ⟨ad', hA, -, hcell⟩ := (H1.out.below hw.out.1).place (by have := (List.getElem?_eq_some_iff.1 HJH.out).1; rw [List.length_map]; omega)
            injection hA with hA
            subst hA
            have p0 := hcell j _ (by rw [List.getElem?_map, HJH.out]; rfl)
            have hjl := (List.getElem?_eq_some_iff.1 HJH.out).1
            clear hcell
            go_simp
            try with_reducible rfl
          try simp only [Act.put, List.getElem_toArray, List.getElem_cons_succ, List.getElem_cons_zero, List.setIfInBounds_toArray, List.set_cons_zero, List.set_cons_succ]
          have HTV : Hid (Trl w F gx go gr R Ro R V.drew) := Lib.hid (HT1.out.below (Below.refl _ _).drew)
          have HEV : Hid (Ent B0 X d' d'.val V.drew) := Lib.hid (HEN.out.later rfl fun _ _ => rfl)
          have HOV : Hid (d'.Ok V.drew F) := Lib.hid (HOKF.out.later (fun _ _ => rfl) fun _ h => h)
          generalize V.drew = V1 at hS HTV HEV HOV ⊢
          obtain ⟨ne, hne⟩ : ∃ ne, ne = insE R d.t := ⟨_, rfl⟩
          obtain ⟨R1, hR1⟩ : ∃ R1, R1 = insT R d.t (hgt h) := ⟨_, rfl⟩
          have HRR1 : Hid (R1.length ≤ j + 1) := Lib.hid (by rw [hR1]; exact Nat.le_trans (insT_len _ _ _) (by have := hR.out; omega))
          have hi1 := tri_ins HTV.out d' h (HOV.out.mono fun k hk => HTV.out.lt k hk) HWF.out hRj
          rw [HTD.out, ← hne, ← hR1] at hi1
          have HI1 := Lib.hid hi1
          have HI2 : Hid (∀ W6, Trl w F gx go gr R1 Ro R W6 → Calls Try.prog (14) #[.pointer (some ⟨gr, 0, none⟩), d.v, .int .i64 h] W6 fun e w' => e = .returned (.int .i64 (ne : Int)) ∧ Trl w F gx go gr R1 Ro R1 w' ∧ ∀ k, F k → w'.heap[k]? = W6.heap[k]?) := Lib.hid fun W6 ht6 => by
            rw [hne]
            have := tri_rins ht6 d h ((HDK.out.below ht6.bel).mono fun k hk => Nat.lt_of_lt_of_le hk ht6.bel.size) HWF.out hRj
            rw [← hR1] at this
            exact this
          clear hi1 hne hR1
          refine wpAnyH_ready (rs := [6]) (by kernel_rfl) (by simp) ?_
          refine (AllReadyH.cons rfl (fun K hK => ?_) AllReadyH.nil)
          go_simp
          refine HI1.out.mono ?_
          rintro e W6 ⟨rfl, ht6, hk6⟩
          have HW6 := Lib.hid ht6
          have HE6 : Hid (Ent B0 X d' d'.val W6) := Lib.hid (HEV.out.later (hk6 X HFX.out) fun k hk => hk6 k (HFV.out k hk))
          refine hK.out _ _ (Lib.hid ⟨HW6.out.bel, HE6.out.box⟩) (fun hS => ?_)
          clear hK K ht6 hk6 HI1
          try simp only [Act.put, List.getElem_toArray, List.getElem_cons_succ, List.getElem_cons_zero, List.setIfInBounds_toArray, List.set_cons_zero, List.set_cons_succ]
          refine wpAnyH_ready (rs := [7]) (by kernel_rfl) (by simp) ?_
          refine (AllReadyH.cons rfl (fun K hK => ?_) AllReadyH.nil)
          go_simp
          refine (num_any _ W6).mono ?_
          rintro e w' ⟨rfl, rfl⟩
          refine hK.out _ _ hS (fun hS => ?_)
          clear hK K
          try simp only [Act.put, List.getElem_toArray, List.getElem_cons_succ, List.getElem_cons_zero, List.setIfInBounds_toArray, List.set_cons_zero, List.set_cons_succ]
          refine wpAnyH_ready (rs := [17]) (by kernel_rfl) (by simp) ?_
          refine (AllReadyH.cons rfl (fun K hK => ?_) AllReadyH.nil)
          go_simp
          refine (HI2.out W6 HW6.out).mono ?_
          rintro e W7 ⟨rfl, ht7, hk7⟩
          have HW7 := Lib.hid ht7
          have HE7 : Hid (Ent B0 X d' d'.val W7) := Lib.hid (HE6.out.later (hk7 X HFX.out) fun k hk => hk7 k (HFV.out k hk))
          refine hK.out _ _ (Lib.hid ⟨HW7.out.bel, HE7.out.box⟩) (fun hS => ?_)
          clear hK K ht7 hk7 HI2 HE6 HW6 HEV HTV HOV
          try simp only [Act.put, List.getElem_toArray, List.getElem_cons_succ, List.getElem_cons_zero, List.setIfInBounds_toArray, List.set_cons_zero, List.set_cons_succ]
          refine wpAnyH_take (i := 18) (v := ?_) rfl (by kernel_rfl) (by kernel_rfl) (by kernel_rfl) (fun _ _ _ h => h) (Or.inl ⟨by rfl, ?_⟩) hS ?_
          rotate_left
          · intro w hw
            go_simp
            try with_reducible rfl
          try simp only [Act.put, List.getElem_toArray, List.getElem_cons_succ, List.getElem_cons_zero, List.setIfInBounds_toArray, List.set_cons_zero, List.set_cons_succ]
          refine wpAnyH_done (by kernel_rfl) ?_ _
          have HT8 : Hid (Trl w F gx go gr R1 Ro R1 W7) := HW7
          go_wp2_with fail
          go_loopw [14] (fun i w8 => ∃ (q : Nat) (bs : List Nat), q ≤ d'.val.length ∧ i = .int .i64 (q : Int) ∧ bs.length = d'.val.length ∧ Hid (Ent B0 X d' bs w8) ∧ Hid (Trl w F gx go gr R1 Ro R1 w8)) (fun i _ => d'.val.length + 1 - (intOf i).toNat)
          case atStart => exact ⟨0, d'.val, Nat.zero_le _, rfl, rfl, HE7, HT8⟩
          case round =>
          obtain ⟨q, bs, hq, rfl, hbl, hen, htr⟩ := hrel
          have hvl : d'.val.length ≤ 300 := by
            have h1 := HSM.out d (List.mem_of_getElem? HJD.out)
            have h2 : d'.val = d.val := congrArg T.val HTD.out
            rw [h2]
            exact h1.2
          obtain ⟨-, -, -, f3, -, -, -, -⟩ := hen.out.box.facts
          by_cases hqq : q < d'.val.length
          · obtain ⟨p9, hva, hpB, hpl⟩ := own_at hen.out.own (by omega)
            obtain ⟨x, hx⟩ : ∃ x, bs[q]? = some x := ⟨_, List.getElem?_eq_getElem (by omega)⟩
            have hcell : wr.cell? ⟨p9, q, none⟩ = some (.int .u8 (x : Int)) := by
              have := hen.out.own
              rw [hva] at this
              rw [World.ownsRow.cellAt this q (by omega), List.getElem?_map, hx]
              rfl
            have hfree : wr.frozen? ⟨p9, q, none⟩ = false := by
              have := hen.out.own
              rw [hva] at this
              exact World.ownsRow.frozenAt this q
            obtain ⟨y, hy, exy⟩ := xor_u8 x
            have HX9 : Hid (F p9) := Lib.hid (HFV.out p9 (by rw [hva]; rfl))
            have HNEXT : Hid (Ent B0 X d' (bs.set q y) (wr.setCell ⟨p9, q, none⟩ (.int .u8 (y : Int))) ∧ Trl w F gx go gr R1 Ro R1 (wr.setCell ⟨p9, q, none⟩ (.int .u8 (y : Int)))) := Lib.hid (by
              have hk : Keep (· = p9) wr (wr.setCell ⟨p9, q, none⟩ (.int .u8 (y : Int))) := (Keep.refl (fun k => k = p9) wr).setCell (p := ⟨p9, q, none⟩) (.inr rfl) _
              refine ⟨⟨?_, ?_⟩, htr.out.put HX9.out hk⟩
              · refine hen.out.box.setOther (fun e => ?_) _
                have e' : X = p9 := e
                have h3 := own_apart (g := X) hen.out.own hen.out.box (by decide)
                exact h3 (by rw [hva, e']; rfl)
              · have h4 := hen.out.own
                rw [hva] at h4 ⊢
                have h5 := (World.ownsRow.stored h4 q (.int .u8 (y : Int))).1
                rw [List.map_set]
                exact h5)
            have q0 : (0 : Int) ≤ (q : Int) := by omega
            have q1 : (q : Int) < (d'.val.length : Int) := by omega
            have HVA := Lib.hid hva
            have HCELL := Lib.hid hcell
            have HFREE := Lib.hid hfree
            have HEXY := Lib.hid exy
            have HPL := Lib.hid hpl
            have hbl2 : (bs.set q y).length = d'.val.length := by rw [List.length_set]; exact hbl
            clear hx hva hcell hfree exy hpB hpl hy
            rw [HVA.out] at f3
            go_wp2_with fail
            refine wp_region_last (S := fun w' => Hid (Below wr.heap.size wr w')) 10 (by kernel_rfl) (Lib.hid (Below.refl _ _).drew) (fun hS => ?_)
            refine wpAnyX_take (i := 0) (v := ?_) rfl (by kernel_rfl) (by kernel_rfl) (by kernel_rfl) (by kernel_rfl) (fun _ _ _ h => h) (Or.inl ⟨by rfl, ?_⟩) hS ?_
            rotate_left
            · intro w hw
              go_simp
              try with_reducible rfl
            try simp only [Act.put, List.getElem_toArray, List.getElem_cons_succ, List.getElem_cons_zero, List.setIfInBounds_toArray, List.set_cons_zero, List.set_cons_succ]
            refine wpAnyX_take (i := 1) (v := ?_) rfl (by kernel_rfl) (by kernel_rfl) (by kernel_rfl) (by kernel_rfl) (fun _ _ _ h => h) (Or.inl ⟨by rfl, ?_⟩) hS ?_
            rotate_left
            · intro w hw
              obtain ⟨-, -, -, f3, -, -, -, -⟩ := (show Bx w _ d' from hen.out.box.below hw.out hen.out.box.lt).facts
              rw [HVA.out] at f3
              go_simp
              try with_reducible rfl
            try simp only [Act.put, List.getElem_toArray, List.getElem_cons_succ, List.getElem_cons_zero, List.setIfInBounds_toArray, List.set_cons_zero, List.set_cons_succ]
            refine wpAnyX_take (i := 2) (v := ?_) rfl (by kernel_rfl) (by kernel_rfl) (by kernel_rfl) (by kernel_rfl) (fun _ _ _ h => h) (Or.inl ⟨by rfl, ?_⟩) hS ?_
            rotate_left
            · intro w hw
              go_simp
              try with_reducible rfl
            try simp only [Act.put, List.getElem_toArray, List.getElem_cons_succ, List.getElem_cons_zero, List.setIfInBounds_toArray, List.set_cons_zero, List.set_cons_succ]
            refine wpAnyX_take (i := 3) (v := ?_) rfl (by kernel_rfl) (by kernel_rfl) (by kernel_rfl) (by kernel_rfl) (fun _ _ _ h => h) (Or.inl ⟨by rfl, ?_⟩) hS ?_
            rotate_left
            · intro w hw
              go_simp
              try with_reducible rfl
            try simp only [Act.put, List.getElem_toArray, List.getElem_cons_succ, List.getElem_cons_zero, List.setIfInBounds_toArray, List.set_cons_zero, List.set_cons_succ]
            refine wpAnyX_take (i := 4) (v := ?_) rfl (by kernel_rfl) (by kernel_rfl) (by kernel_rfl) (by kernel_rfl) (fun _ _ _ h => h) (Or.inl ⟨by rfl, ?_⟩) hS ?_
            rotate_left
            · intro w hw
              obtain ⟨-, -, -, f3, -, -, -, -⟩ := (show Bx w _ d' from hen.out.box.below hw.out hen.out.box.lt).facts
              rw [HVA.out] at f3
              go_simp
              try with_reducible rfl
            try simp only [Act.put, List.getElem_toArray, List.getElem_cons_succ, List.getElem_cons_zero, List.setIfInBounds_toArray, List.set_cons_zero, List.set_cons_succ]
            refine wpAnyX_take (i := 5) (v := ?_) rfl (by kernel_rfl) (by kernel_rfl) (by kernel_rfl) (by kernel_rfl) (fun _ _ _ h => h) (Or.inl ⟨by rfl, ?_⟩) hS ?_
            rotate_left
            · intro w hw
              go_simp
              try with_reducible rfl
            try simp only [Act.put, List.getElem_toArray, List.getElem_cons_succ, List.getElem_cons_zero, List.setIfInBounds_toArray, List.set_cons_zero, List.set_cons_succ]
            refine wpAnyX_take (i := 6) (v := ?_) rfl (by kernel_rfl) (by kernel_rfl) (by kernel_rfl) (by kernel_rfl) (fun _ _ _ h => h) (Or.inl ⟨by rfl, ?_⟩) hS ?_
            rotate_left
            · intro w hw
              go_simp
              try with_reducible rfl
            try simp only [Act.put, List.getElem_toArray, List.getElem_cons_succ, List.getElem_cons_zero, List.setIfInBounds_toArray, List.set_cons_zero, List.set_cons_succ]
            refine wpAnyX_take (i := 7) (v := ?_) rfl (by kernel_rfl) (by kernel_rfl) (by kernel_rfl) (by kernel_rfl) (fun _ _ _ h => h) (Or.inl ⟨by rfl, ?_⟩) hS ?_
            rotate_left
            · intro w hw
              have hc := (hw.out.cell (p := ⟨p9, q, none⟩) HPL.out).trans HCELL.out
              go_simp
              try with_reducible rfl
            try simp only [Act.put, List.getElem_toArray, List.getElem_cons_succ, List.getElem_cons_zero, List.setIfInBounds_toArray, List.set_cons_zero, List.set_cons_succ]
            refine wpAnyX_take (i := 8) (v := ?_) rfl (by kernel_rfl) (by kernel_rfl) (by kernel_rfl) (by kernel_rfl) (fun _ _ _ h => h) (Or.inl ⟨by rfl, ?_⟩) hS ?_
            rotate_left
            · intro w hw
              have exy := HEXY.out
              go_simp
              try with_reducible rfl
            try simp only [Act.put, List.getElem_toArray, List.getElem_cons_succ, List.getElem_cons_zero, List.setIfInBounds_toArray, List.set_cons_zero, List.set_cons_succ]
            refine wpAnyX_take (i := 9) (v := ?_) rfl (by kernel_rfl) (by kernel_rfl) (by kernel_rfl) (by kernel_rfl) (fun _ _ _ h => h) (Or.inl ⟨by rfl, ?_⟩) hS ?_
            rotate_left
            · intro w hw
              go_simp
              try with_reducible rfl
            try simp only [Act.put, List.getElem_toArray, List.getElem_cons_succ, List.getElem_cons_zero, List.setIfInBounds_toArray, List.set_cons_zero, List.set_cons_succ]
            refine wpAnyX_ready (rs := [10]) (by kernel_rfl) (by simp) ?_
            refine AllReadyX.last rfl (fun K hK => ?_)
            have hc : wr.cell? ⟨p9, q, none⟩ = some (.int .u8 (x : Int)) := HCELL.out
            have hz : wr.frozen? ⟨p9, q, none⟩ = false := HFREE.out
            go_simp
            refine hK.out _ _ ?_
            clear hK K hc hz
            try simp only [Act.put, List.getElem_toArray, List.getElem_cons_succ, List.getElem_cons_zero, List.setIfInBounds_toArray, List.set_cons_zero, List.set_cons_succ]
            refine wpAnyX_done (by kernel_rfl) ?_ _
            go_wp2_with fail
            go_roundw
            case rel => exact ⟨q + 1, bs.set q y, by omega, by go_num, hbl2, Lib.hid (HNEXT.out.1.later rfl fun _ _ => rfl), Lib.hid (HNEXT.out.2.below (Below.refl _ _).drew)⟩
            case measure => simp [intOf]; omega
          · obtain rfl : q = d'.val.length := by omega
            have HBE := Lib.hid (show Below wr.heap.size wr (wr.alloc (.cells #[.int .u8 (j : Int)] 5)) from Joins.below_alloc1 wr _)
            have hok3 : D.Ok (wr.alloc (.cells #[.int .u8 (j : Int)] 5)) (· < (wr.alloc (.cells #[.int .u8 (j : Int)] 5)).heap.size) ⟨some ⟨wr.heap.size, 0, none⟩, 1, ⟨[j], 0, 0⟩, none, 0, []⟩ :=
              ⟨.inr ⟨_, rfl, by simp, fun i u hi => by
                rcases i with _ | i
                · simp at hi
                  subst hi
                  exact World.cell?_alloc_new wr #[.int .u8 (j : Int)] 5 0
                · simp at hi⟩, Nat.le_refl _, (by show (1 : Nat) ≤ maxLen; decide), ⟨by simp; omega, (by show (0 : Nat) < 18446744073709551616; decide), (by show (-9223372036854775808 : Int) ≤ 0; decide), (by show (0 : Int) ≤ 9223372036854775807; decide)⟩, .inl rfl, Nat.le_refl _, (by show (0 : Nat) ≤ maxLen; decide), by simp⟩
            have HI := Lib.hid (tri_oins (htr.out.below HBE.out) ⟨some ⟨wr.heap.size, 0, none⟩, 1, ⟨[j], 0, 0⟩, none, 0, []⟩ 3 hok3 (by decide) hRoj)
            have hR1 := HRR1.out
            have HRo1 : Hid ((insT Ro (D.t ⟨some ⟨wr.heap.size, 0, none⟩, 1, ⟨[j], 0, 0⟩, none, 0, []⟩) (hgt 3)).length ≤ j + 1) := Lib.hid (Nat.le_trans (insT_len _ _ _) (by have := hRo.out; omega))
            have ew : IntKind.u8.wrap (j : Int) = (j : Int) := by rw [IntKind.wrap_u8]; omega
            generalize insT Ro (D.t ⟨some ⟨wr.heap.size, 0, none⟩, 1, ⟨[j], 0, 0⟩, none, 0, []⟩) (hgt 3) = Ro1 at HI HRo1
            clear hok3
            go_wp2_with fail
            refine HI.out.mono ?_
            rintro e W9 ⟨⟨ne, rfl⟩, ht9, -⟩
            have HT9 := Lib.hid ht9
            obtain ⟨ad', pp, hA, -, hp', p0, p1, p2, p3⟩ := (H0.out.below ht9.bel).place HJD.out
            injection hA with hA
            subst hA
            obtain rfl : pp = p := hp'.symm.trans HP.out
            have hkl := KD.load (d := ⟨d.ka, d.kc, d.k⟩) p0 p1 p2
            have HQ := Lib.hid (tri_same ht9 ((HDK.out.below ht9.bel).at' (B := W9.heap.size) fun k hk => Nat.lt_of_lt_of_le hk ht9.bel.size))
            clear ht9 HI
            go_wp2_with fail
            refine HQ.out.mono ?_
            rintro e W10 ⟨rfl, hb10⟩
            have HREL := Lib.hid (HT9.out.below hb10).none
            clear hb10 HQ p0 p1 p2 p3 hkl
            go_wp2_with fail
            go_roundw
            case rel => exact ⟨j + 1, R1, Ro1, by omega, by go_num, HREL, HRR1, HRo1⟩
            case measure => simp [intOf]; omega
        · obtain rfl : j = L.length := by omega
          have hRl : R.length ≤ 60 := by have := hR.out; omega
          have HRL := Lib.hid hRl
          obtain ⟨wz, hwz⟩ : ∃ wz, wz = wr := ⟨_, rfl⟩
          rw [← hwz] at ht ⊢
          clear hwz
          go_wp2_with fail
          go_loopw [15] (fun i w2 => ∃ q : Nat, q ≤ L2.length ∧ i = .int .i64 (q : Int) ∧ Hid (Trl w (fun _ => False) gx go gr R Ro R w2)) (fun i _ => L2.length + 1 - (intOf i).toNat)
          case atStart => exact ⟨0, Nat.zero_le _, rfl, ht⟩
          case round =>
          obtain ⟨q, hq, rfl, htq⟩ := hrel
          by_cases hql : q < L2.length
          · obtain ⟨kd, hkd⟩ : ∃ d, L2[q]? = some d := ⟨_, List.getElem?_eq_getElem hql⟩
            obtain ⟨ad, p, hA, -, hp, p0, p1, p2⟩ := (H2.out.below htq.out.bel).place hkd
            subst hA
            have hkl := KD.load p0 p1 p2
            have HKK := Lib.hid (H2.out.ok kd (List.mem_of_getElem? hkd))
            have HSM2 := Lib.hid (tri_same htq.out (((HKK.out.later (fun k hk => htq.out.bel.block k hk) fun _ h => h).at' (fun k hk => Nat.lt_of_lt_of_le hk htq.out.bel.size))))
            have hkc := HKK.out.kc
            have hkm := HKK.out.km
            unfold maxLen at hkm
            clear hkd
            by_cases hbig : 300 < kd.k.key.length
            · have b1 : decide (300 < kd.k.key.length) = true := decide_eq_true hbig
              have b2 : (300 : Int) < (kd.k.key.length : Int) := by omega
              have HB := Lib.hid htq.out.bel
              go_wp2_with fail
              go_ret
              exact ⟨by first | rfl | (rw [b1]; rfl), HB.out⟩
            · have b1 : decide (300 < kd.k.key.length) = false := decide_eq_false hbig
              have b2 : decide ((300 : Int) < (kd.k.key.length : Int)) = false := decide_eq_false (by omega)
              go_wp2_with fail
              refine HSM2.out.mono ?_
              rintro e W10 ⟨rfl, hb10⟩
              have HREL := Lib.hid (htq.out.below hb10)
              clear hb10 HSM2
              go_wp2_with fail
              go_roundw
              case rel => exact ⟨q + 1, by omega, by go_num, HREL⟩
              case measure => simp [intOf]; omega
          · obtain rfl : q = L2.length := by omega
            obtain ⟨wy, hwy⟩ : ∃ wy, wy = wr := ⟨_, rfl⟩
            rw [← hwy] at htq ⊢
            clear hwy
            go_wp2_with fail
            go_loopw [16] (fun i w3 => ∃ q : Nat, q ≤ 15 ∧ i = .int .i64 ((q : Int) - 1) ∧ Hid (Trl w (fun _ => False) gx go gr R Ro R w3)) (fun i _ => 20 - (intOf i + 1).toNat)
            case atStart => exact ⟨0, by omega, rfl, htq⟩
            case round =>
            obtain ⟨q, hq, rfl, ht3⟩ := hrel
            by_cases hq15 : q < 15
            · have hwf : (Lit.int .i64 ((q : Int) - 1)).wf = true := by
                have : q = 0 ∨ q = 1 ∨ q = 2 ∨ q = 3 ∨ q = 4 ∨ q = 5 ∨ q = 6 ∨ q = 7 ∨ q = 8 ∨ q = 9 ∨ q = 10 ∨ q = 11 ∨ q = 12 ∨ q = 13 ∨ q = 14 := by omega
                rcases this with rfl | rfl | rfl | rfl | rfl | rfl | rfl | rfl | rfl | rfl | rfl | rfl | rfl | rfl | rfl <;> decide
              have l1 : (q : Int) - 1 ≤ 13 := by omega
              have l2 : decide ((q : Int) - 1 ≤ 13) = true := decide_eq_true l1
              obtain ⟨Sx, sx, -⟩ := ht3.out.x
              have HU := Lib.hid (level_any ((q : Int) - 1) sx hwf)
              have HWF := Lib.hid hwf
              clear hwf sx
              go_wp2_with fail
              refine HU.out.mono ?_
              rintro e Wu ⟨Au, cu, Lu, rfl, htu, heu, hbu⟩
              have HT4 := Lib.hid (ht3.out.below hbu)
              have HTU := Lib.hid htu
              have HEU := Lib.hid (heu.mono (R' := (· < Wu.heap.size)) fun k hk => hk.2)
              obtain ⟨Sr, sr, -⟩ := HT4.out.r
              have HD := Lib.hid (rlevel_any ((q : Int) - 1) sr HWF.out)
              clear htu heu hbu sr HU
              go_wp2_with fail
              refine HD.out.mono ?_
              rintro e Wd ⟨Ad, cd, Ld, rfl, htd, hed, hbd⟩
              have HT5 := Lib.hid (HT4.out.below hbd)
              have hld : Ld.length ≤ 1000 := by
                have h1 := congrArg List.length htd
                rw [List.length_map] at h1
                have h2 := levI_len R ((q : Int) - 1)
                have := HRL.out
                omega
              have HSE := Lib.hid (same_entries Au Ad cu cd Lu Ld Wd (HEU.out.next hbd) (hed.mono fun k hk => hk.2) (HTU.out.trans htd.symm) hld)
              clear htd hed hbd hld HD
              go_wp2_with fail
              refine HSE.out.mono ?_
              rintro e Wf ⟨rfl, hbf⟩
              have HREL := Lib.hid (HT5.out.below hbf)
              clear hbf HSE
              go_wp2_with fail
              go_roundw
              case rel => exact ⟨q + 1, by omega, by go_num, HREL⟩
              case measure => simp [intOf]; omega
            · obtain rfl : q = 15 := by omega
              obtain ⟨Sx, sx, -⟩ := ht3.out.x
              have HU := Lib.hid (all_any sx)
              clear sx
              go_wp2_with fail
              refine HU.out.mono ?_
              rintro e Wu ⟨Au, cu, Lu, rfl, htu, heu, hbu⟩
              have HT4 := Lib.hid (ht3.out.below hbu)
              have HTU := Lib.hid htu
              have HEU := Lib.hid (heu.mono (R' := (· < Wu.heap.size)) fun k hk => hk.2)
              obtain ⟨Sr, sr, -⟩ := HT4.out.r
              have HD := Lib.hid (rall_any sr)
              clear htu heu hbu sr HU
              go_wp2_with fail
              refine HD.out.mono ?_
              rintro e Wd ⟨Ad, cd, Ld, rfl, htd, hed, hbd⟩
              have HT5 := Lib.hid (HT4.out.below hbd)
              have hld : Ld.length ≤ 1000 := by
                have h1 := congrArg List.length htd
                rw [List.length_map, List.length_map] at h1
                have := HRL.out
                omega
              have HSE := Lib.hid (same_entries Au Ad cu cd Lu Ld Wd (HEU.out.next hbd) (hed.mono fun k hk => hk.2) (HTU.out.trans htd.symm) hld)
              clear htd hed hbd hld HD
              go_wp2_with fail
              refine HSE.out.mono ?_
              rintro e Wf ⟨rfl, hbf⟩
              have HREL := Lib.hid (HT5.out.below hbf).bel
              clear hbf HSE
              go_wp2_with fail
              go_ret
              exact ⟨rfl, HREL.out⟩
  · go_wp2_with fail
    go_ret
    exact ⟨rfl, HB1.out⟩

set_option maxRecDepth 100000 in
theorem lifted (os : Os) (started : os.Started) (H : Type) (enc : TypeId × Value → H) :
    ReturnsInHanded {} Try.checked os 3 .any (Rows.skipPlaysSpec.pre6 enc Try.prog Try.f3 Rows.skipPlaysRow.domain false) (Rows.skipPlaysSpec.post enc Try.prog Try.f3 false true false false) := by
  refine lift_true (C := Try.checked) own started (by kernel_rfl) Try.func3
    (ChangeSpec.witness6 (enc := enc) (C := Try.checked) false ⟨#[], #[.slice none 0 0, .slice none 0 0, .slice none 0 0], []⟩ 8 (by kernel_rfl) (by kernel_rfl) (by kernel_rfl) (by kernel_rfl))
    (by kernel_rfl) (by kernel_rfl) (by kernel_rfl) Try.underlying4 rfl ?_ ?_
  · intro ds hds
    match ds, hds with
    | [d1, d2, d3], _ => exact ⟨rfl, rfl, rfl⟩
  · intro W base args ds p hval0 hA0 hlt _
    have hval : ∀ (j : Nat) t v, Try.f3.params[j]? = some t → args[j]? = some v → Value.okWide Try.prog W .any base t v := hval0
    have hA : DataW.TrodAll enc Try.prog W 0 (fun _ => true) true Try.f3.params.toList args.toList ds p := hA0
    rw [Try.params3] at hA hval
    obtain ⟨v0, vs0, d0, ds0, p0, q0, hargs, rfl, rfl, h0, r0⟩ := trodAll_cons hA
    obtain ⟨v1, vs1, d1, ds1, p1, q1, rfl, rfl, rfl, h1, r1⟩ := trodAll_cons r0
    obtain ⟨v2, vs2, d2, ds2, p2, q2, rfl, rfl, rfl, h2, r2⟩ := trodAll_cons r1
    obtain ⟨rfl, rfl, rfl⟩ := trodAll_nil r2
    obtain rfl : args = #[v0, v1, v2] := by cases args; simp_all
    obtain ⟨A0, c0, L0, rfl, hN0⟩ := Sk.open_ents (hval 0 _ v0 rfl rfl) h0 (fun x hx => hlt x (by simp [hx]))
    obtain ⟨A1, c1, zs1, rfl, hc1, hm1, hl1, hw1⟩ := open_nums Try.underlying23 Try.underlying3 (by kernel_rfl) (hval 1 _ v1 rfl rfl) h1 (fun x hx => hlt x (by simp [hx]))
    obtain ⟨A2, c2, L2, rfl, hN2⟩ := Sk.open_keys (hval 2 _ v2 rfl rfl) h2 (fun x hx => hlt x (by simp [hx]))
    exact walk A0 A1 A2 c0 c1 c2 L0 zs1 L2 W hN0 hl1 hc1 hm1 hw1 hN2

theorem over : Rows.skipPlaysRow.holds Try.pinned (OpenSpec.ofChange Rows.skipPlaysSpec) :=
  OpenClaim.holds_of_wide 3 Try.f3 rfl rfl rfl rfl rfl rfl rfl ⟨rfl, rfl, rfl, rfl, rfl⟩ rfl rfl rfl rfl rfl (by kernel_rfl) Try.func3 (by kernel_rfl)
    (of_decide_eq_true (by kernel_rfl)) (by unfold Func.isWrapper; first | (rw [if_pos (by decide +kernel)]; kernel_rfl) | (rw [if_neg (by decide +kernel)]; exact ⟨rfl, rfl⟩))
    (fun os started H enc _ => lifted os started H enc)

theorem proved : Rows.SkipPlaysSaid :=
  over
#print axioms proved
end Go.Proofs.Ytmnhklfljfglhaa.skipPlays
