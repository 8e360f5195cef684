/- Package edit's reader: files, an edit; Read. -/
import Derived.Test.YthhmjjmjicmhdaaEp7
import Derived.Test.YthhmjjmjicmhdaaEr4
import Derived.Test.YthhmjjmjicmhdaaEp4
namespace Go.Proofs.Ythhmjjmjicmhdaa.Ed
set_option linter.unusedVariables false
set_option linter.unusedSimpArgs false
open Go.RowKit Lift Ik Vn
section
variable {w wr w' : World} {g H X : Nat} {A : Option Addr} {c : Nat} {bs : List Nat} {p q er q' er' : Nat}
abbrev izs (Z : List Int) (m : Nat) : List Value := (Z ++ List.replicate (m - Z.length) 0).map zi
/-- While files are read: the reader, the block of the files (Z of m so far). -/
structure Mg (w : World) (g H : Nat) (A : Option Addr) (c : Nat) (bs : List Nat) (m : Nat) (Z : List Int) (q er : Nat) (wr : World) : Prop where
  rd : Oa wr g A c bs q er
  bx : Box wr H 3 (izs Z m)
  wf : ∀ z, z ∈ Z → (Lit.int .i64 z).wf = true
  kp : Keep (· = g) w wr
  lt : g < H
  ge : w.heap.size ≤ H
set_option maxRecDepth 100000 in
set_option maxHeartbeats 3200000 in
theorem ofiles_rd (h : Oa w g A c bs p er) : Calls Try.prog (75) #[.pointer (some ⟨g, 0, none⟩)] w fun e w' => ∃ (v : Value) (Z : List Int), e = .returned v ∧ w'.ownsRow w.heap.size 3 1 v Z.length (Z.map zi) ∧ (∀ z, z ∈ Z → (Lit.int .i64 z).wf = true) ∧ Ow w g A c bs p er qints Z w' := by
  have HN := Lib.hid (olength_any h 100 (by decide))
  clear h
  go_enter (Try.func75), (Try.ntmps75)
  go_wp2_with fail
  refine HN.out.mono ?_
  rintro e w1 ⟨m, q1, e1, rfl, hm, -, ha, hk, hr⟩
  have HM := omake_ints m (by omega) w1
  have hba := Joins.below_alloc1 w1 (.cells (madeCells #[.int .i64 0] m) 3)
  have HL0 : Hid (Mg w g w1.heap.size A c bs m [] q1 e1 (w1.alloc (.cells (madeCells #[.int .i64 0] m) 3))) := Lib.hid ⟨ha.below hba, (by
    have h1 : madeCells #[.int .i64 0] m = (izs [] m).toArray := by
      apply Array.ext'
      rw [toList_madeCells_one]
      simp [izs]
    rw [h1]
    exact Box.new w1 3 (izs [] m)), fun d hd => (by simp at hd), hk.trans (below_keep (S := fun _ => False) hba) fun _ _ h => h.elim, ha.box.lt, hk.size⟩
  have HQ := Lib.hid hr
  have HMM := Lib.hid hm
  clear HN ha hk hr hba
  go_wp2_with fail
  clear HM
  generalize w1.alloc (.cells (madeCells #[.int .i64 0] m) 3) = w2 at *
  obtain ⟨H, hH⟩ : ∃ H, H = w1.heap.size := ⟨_, rfl⟩
  rw [← hH] at HL0 ⊢
  clear hH
  go_loopw [10] (fun i wr => ∃ (k : Nat) (Z : List Int) (q er' : Nat), k ≤ m ∧ i = .int .i64 (k : Int) ∧ Hid (Z.length = k) ∧ Hid (Mg w g H A c bs m Z q er' wr) ∧ Hid (Rel (rmany qint k) bs q1 e1 Z q er')) (fun i _ => m + 1 - (intOf i).toNat)
  case atStart => exact ⟨0, [], q1, e1, Nat.zero_le _, rfl, Lib.hid rfl, HL0, Lib.hid (rel_ret _)⟩
  case round =>
    obtain ⟨k, Z, q, er', hk, rfl, hlen, hg, hrel⟩ := hrel
    by_cases hlt : k < m
    · go_wp2_with fail
      refine (ointeger_any hg.out.rd).mono ?_
      rintro e w3 ⟨z, rfl, hz, q3, e3, ha3, hk3, hr3⟩
      have hH : ¬ H = g := by have := hg.out.lt; omega
      have hbx := hg.out.bx.keep hk3 hH
      have c0 := hbx.cell k
      have f0 := hbx.free k
      have hat : (izs Z m)[k]? = some (zi 0) := by
        have := hlen.out
        unfold izs
        rw [List.getElem?_map, List.getElem?_append_right (by omega), List.getElem?_replicate, if_pos (by omega)]
        rfl
      rw [hat] at c0
      have hset : (izs Z m).set k (zi z) = izs (Z ++ [z]) m := by
        have := hlen.out
        obtain ⟨r, hr⟩ : ∃ r, m - Z.length = r + 1 := ⟨m - Z.length - 1, by omega⟩
        unfold izs
        rw [← List.map_set, List.set_append_right _ _ (by omega), hr, show k - Z.length = 0 by omega, List.replicate_succ, List.set_cons_zero, List.length_append, show m - (Z.length + [z].length) = r by simp; omega]
        simp
      have hbx2 := hbx.set k (zi z)
      rw [hset] at hbx2
      have hkk : Keep (· = H) w3 (w3.setCell ⟨H, k, none⟩ (zi z)) := (Keep.refl (· = H) w3).setCell (p := ⟨H, k, none⟩) (.inr rfl) _
      have HG4 : Hid (Mg w g H A c bs m (Z ++ [z]) q3 e3 (w3.setCell ⟨H, k, none⟩ (zi z))) := Lib.hid ⟨ha3.same (fun j hj => hkk.block j (Nat.lt_of_le_of_lt hj ha3.box.lt) (by have := hg.out.lt; omega)), hbx2, fun e he => by
          rcases List.mem_append.1 he with he | he
          · exact hg.out.wf e he
          · simp at he
            subst he
            exact hz,
        (hg.out.kp.trans hk3 fun _ _ => id).trans hkk fun i hi hs => by have := hg.out.ge; omega, hg.out.lt, hg.out.ge⟩
      have HR4 : Hid (Rel (rmany qint (k + 1)) bs q1 e1 (Z ++ [z]) q3 e3) := Lib.hid (hrel.out.snoc hr3)
      have HL4 : Hid ((Z ++ [z]).length = k + 1) := Lib.hid (by rw [List.length_append, hlen.out]; rfl)
      clear hz ha3 hk3 hr3 hbx hat hkk hset hbx2 hg hrel hlen
      go_wp2_with fail
      go_roundw
      case rel => exact ⟨k + 1, Z ++ [z], q3, e3, by omega, by go_num, HL4, HG4, HR4⟩
      case measure => simp [intOf]; omega
    · obtain rfl : k = m := by omega
      go_wp2_with fail
      go_ret
      have hbx := hg.out.bx
      have hl := hlen.out
      unfold izs at hbx
      rw [hl, Nat.sub_self, List.replicate_zero, List.append_nil] at hbx
      exact ⟨_, Z, rfl, ⟨by rw [List.length_map, Nat.mul_one], .inr ⟨H, k, (Z.map zi).toArray, by rw [hl]; rfl, hg.out.ge, hbx, by omega, by have := HMM.out; unfold maxLen; omega, by simp [hl], List.take_of_length_le (by simp)⟩⟩, hg.out.wf, q, er', hg.out.rd, hg.out.kp, HQ.out.bd hrel.out⟩
theorem ac_lower {B B' : Nat} {v : Value} {L : List D} (h : Ac B w v L) (hB : B' ≤ B) : Ac B' w v L := ⟨own_lower h.own hB, fun d hd => (h.ok d hd).later (fun _ _ => rfl) (Fresh.low hB)⟩
/-- What was read, as an edit that lies somewhere. -/
theorem ok_of2 {B B2 : Nat} {wr : World} {Aa Ad : Option Addr} {ca cd : Nat} {L : List D} {Z : List Int} {nx lg : Int} {sq : Nat} (h : Ac B wr (.slice Aa L.length ca) L) (hd : wr.ownsRow B2 3 1 (.slice Ad Z.length cd) Z.length (Z.map (.int .i64)))
    (hz : ∀ z, z ∈ Z → (Lit.int .i64 z).wf = true) (h1 : (Lit.int .i64 nx).wf = true) (h2 : (Lit.int .i64 lg).wf = true) (h3 : sq < 18446744073709551616) : (⟨Aa, ca, L, Ad, cd, Z, nx, lg, sq⟩ : Ed.X).Ok wr wr.heap.size := by
  obtain ⟨A1, c1, e1, hc1, hm1, hl1⟩ := own_parts h.own
  injection e1 with ea _ ec
  subst ea; subst ec
  obtain ⟨A2, c2, e2, hc2, hm2, hl2⟩ := own_parts hd
  injection e2 with ea _ ec
  subst ea; subst ec
  exact ⟨⟨hl1, hc1, hm1, fun d hd => (h.ok d hd).later (fun _ _ => rfl) fun k hf => hf.2.1⟩, hl2, hc2, hm2, hz, h1, h2, h3⟩
/-- An edit in memory of the call's own. -/
structure Nx (B : Nat) (w : World) (x : Ed.X) : Prop where
  add : Ac B w (.slice x.addA x.add.length x.addC) x.add
  dr : w.ownsRow B 3 1 (.slice x.dropA x.drop.length x.dropC) x.drop.length (x.drop.map (.int .i64))
  wz : ∀ z, z ∈ x.drop → (Lit.int .i64 z).wf = true
  wn : (Lit.int .i64 x.next).wf = true
  wl : (Lit.int .i64 x.log).wf = true
  sq : x.seq < 18446744073709551616
theorem Nx.ok {B : Nat} {x : Ed.X} (h : Nx B w x) : x.Ok w w.heap.size := ok_of2 h.add h.dr h.wz h.wn h.wl h.sq
theorem Nx.low {B : Nat} {S : Nat → Prop} {x : Ed.X} (h : Nx B w x) (hk : Keep S w w') (hS : ∀ k, S k → k < B) : Nx B w' x :=
  ⟨h.add.low hk hS, own_kept h.dr hk fun k hv hs => by have := (h.dr.lt k hv).1; have := hS k hs; omega, h.wz, h.wn, h.wl, h.sq⟩
theorem Nx.below {B : Nat} {x : Ed.X} (h : Nx B w x) (hb : Below w.heap.size w w') : Nx B w' x := h.low (S := fun _ => False) (below_keep hb) fun _ h => h.elim
/-- While an edit is read: the reader, the result's box. -/
structure Eg (w : World) (g X : Nat) (A : Option Addr) (c : Nat) (bs : List Nat) (q er : Nat) (wr : World) : Prop where
  rd : Oa wr g A c bs q er
  bx : Box wr X 26 zeroEd
  kp : Keep (· = g) w wr
  lt : g < X
  ge : w.heap.size ≤ X
theorem Eg.went (h : Eg w g X A c bs q er wr) (ha : Oa w' g A c bs q' er') (hk : Keep (· = g) wr w') : Eg w g X A c bs q' er' w' :=
  ⟨ha, h.bx.keep hk (by have := h.lt; omega), h.kp.trans hk fun _ _ => id, h.lt, h.ge⟩
set_option maxRecDepth 100000 in
set_option maxHeartbeats 3200000 in
theorem oedit_rd (h : Oa w g A c bs p er) : Calls Try.prog (44) #[.pointer (some ⟨g, 0, none⟩)] w fun e w' => ∃ x : Ed.X, e = .returned x.v ∧ Nx w.heap.size w' x ∧ Ow w g A c bs p er qedit x.e w' := by
  have hba := Joins.below_alloc1 w (.cells zeroEd.toArray 26)
  have HR0 : Hid (Eg w g w.heap.size A c bs p er (w.alloc (.cells zeroEd.toArray 26))) := Lib.hid ⟨h.below hba, Box.new w _ _, below_keep hba, h.box.lt, Nat.le_refl _⟩
  clear h hba
  go_enter (Try.func44), (Try.ntmps44)
  go_upto_region 1 with fail
  generalize w.alloc (.cells #[.slice none 0 0, .slice none 0 0, .int .i64 0, .int .i64 0, .int .u64 0] 26) = w0 at *
  obtain ⟨X, hX⟩ : ∃ X, X = w.heap.size := ⟨_, rfl⟩
  rw [← hX] at HR0 ⊢
  have HXE := Lib.hid hX
  clear hX
  go_wp2_with fail
  refine (oruns_rd HR0.out.rd).mono ?_
  rintro e w1 ⟨va, L, rfl, hac, q1, e1, ha, hk, hr⟩
  have HX0 : Hid (X < w0.heap.size) := Lib.hid HR0.out.bx.lt
  have HG0 : Hid (g < w0.heap.size) := Lib.hid HR0.out.rd.box.lt
  have HR1 := Lib.hid (HR0.out.went ha hk)
  have HQ1 := Lib.hid hr
  have HA1 := Lib.hid hac
  clear ha hk hr hac HR0
  go_wp2_with fail
  refine (ofiles_rd HR1.out.rd).mono ?_
  rintro e w2 ⟨vd, Z, rfl, hown, hwf, q2, e2, ha, hk, hr⟩
  have HX1 : Hid (X < w1.heap.size) := Lib.hid HR1.out.bx.lt
  have HG1 : Hid (g < w1.heap.size) := Lib.hid HR1.out.rd.box.lt
  have HR2 := Lib.hid (HR1.out.went ha hk)
  have HQ2 := Lib.hid hr
  have HA2 := Lib.hid (HA1.out.low hk fun k hk => by have := HG0.out; omega)
  have HD2 := Lib.hid hown
  have HWF := Lib.hid hwf
  clear ha hk hr hown hwf HR1 HA1
  go_wp2_with fail
  refine (ointeger_any HR2.out.rd).mono ?_
  rintro e w3 ⟨z3, rfl, hz3, q3, e3, ha, hk, hr⟩
  have HR3 := Lib.hid (HR2.out.went ha hk)
  have HQ3 := Lib.hid hr
  have HZ3 := Lib.hid hz3
  have HA3 := Lib.hid (HA2.out.low hk fun k hk => by have := HG0.out; omega)
  have HD3 := Lib.hid (own_kept HD2.out hk fun k hv hs => by have := (HD2.out.lt k hv).1; have := HG1.out; omega)
  clear ha hk hr hz3 HR2 HA2 HD2
  go_wp2_with fail
  refine (ointeger_any HR3.out.rd).mono ?_
  rintro e w4 ⟨z4, rfl, hz4, q4, e4, ha, hk, hr⟩
  have HR4 := Lib.hid (HR3.out.went ha hk)
  have HQ4 := Lib.hid hr
  have HZ4 := Lib.hid hz4
  have HA4 := Lib.hid (HA3.out.low hk fun k hk => by have := HG0.out; omega)
  have HD4 := Lib.hid (own_kept HD3.out hk fun k hv hs => by have := (HD3.out.lt k hv).1; have := HG1.out; omega)
  clear ha hk hr hz4 HR3 HA3 HD3
  go_wp2_with fail
  refine (onumber_any HR4.out.rd).mono ?_
  rintro e w5 ⟨sq, q5, e5, rfl, hsq, -, ha, hk, hr⟩
  have HR5 := Lib.hid (HR4.out.went ha hk)
  have HQ5 := Lib.hid hr
  have HSQ := Lib.hid hsq
  have HA5 := Lib.hid (HA4.out.low hk fun k hk => by have := HG0.out; omega)
  have HD5 := Lib.hid (own_kept HD4.out hk fun k hv hs => by have := (HD4.out.lt k hv).1; have := HG1.out; omega)
  clear ha hk hr hsq HR4 HA4 HD4
  obtain ⟨Aa, ca, rfl, -, -, -⟩ := own_parts HA5.out.own
  obtain ⟨Ad, cd, rfl, -, -, -⟩ := own_parts HD5.out
  go_wp2_with (refine wpList_store_row rfl _ _ _ rfl X #[.slice Aa L.length ca, .slice Ad Z.length cd, .int .i64 z3, .int .i64 z4, .int .u64 (sq : Int)] rfl rfl _ zeroEd.toArray HR5.out.bx (by kernel_rfl) rfl (by kernel_rfl) ?_)
  have hrz : Box (w5.setRow X #[.slice Aa L.length ca, .slice Ad Z.length cd, .int .i64 z3, .int .i64 z4, .int .u64 (sq : Int)]) X 26 [.slice Aa L.length ca, .slice Ad Z.length cd, .int .i64 z3, .int .i64 z4, .int .u64 (sq : Int)] := setRow_heap _ _ _ _ _ _ HR5.out.bx
  refine bodyPost_ret (oresults_one rfl Try.underlying26 rfl (by kernel_rfl) _ rfl hrz) rfl ?_
  have hk := okeep_setRow w5 X #[.slice Aa L.length ca, .slice Ad Z.length cd, .int .i64 z3, .int .i64 z4, .int .u64 (sq : Int)]
  refine ⟨⟨Aa, ca, L, Ad, cd, Z, z3, z4, sq⟩, rfl, ⟨ac_lower (HA5.out.low hk fun k hk => by have := HX0.out; omega) (by have := HX0.out; have := HXE.out; omega), own_lower (own_kept HD5.out hk fun k hv hs => by have := (HD5.out.lt k hv).1; have := HX1.out; omega) (by have := HX1.out; have := HXE.out; omega), HWF.out, HZ3.out, HZ4.out, HSQ.out⟩, q5, e5,
    HR5.out.rd.same (fun k hk2 => hk.block k (Nat.lt_of_le_of_lt hk2 HR5.out.rd.box.lt) (by have := HR5.out.lt; omega)), HR5.out.kp.trans hk fun i hi hs => by have := HXE.out; omega, ?_⟩
  exact HQ1.out.bd (HQ2.out.bd (HQ3.out.bd (HQ4.out.bd (HQ5.out.bd (rel_ret _)))))
end
set_option maxRecDepth 100000 in
set_option maxHeartbeats 6400000 in
theorem oread_any (A : Option Addr) (c : Nat) (bs : List Nat) (w : World) (hl : Lies w w.heap.size A (bs.map Vt.vb)) (hlen : bs.length ≤ c) (hcap : c ≤ maxLen) (hfew : bs.length ≤ 20000000) (hbyt : Byt bs) :
    Calls Try.prog 18 #[.slice A bs.length c] w (Told w (readE bs)) := by
  obtain ⟨E1, hE1⟩ : ∃ E, E = w.alloc (.cells zeroEd.toArray 26) := ⟨_, rfl⟩
  obtain ⟨E2, hE2⟩ : ∃ E, E = E1.alloc (.cells #[.slice A bs.length c, .int .i64 0, .int .i64 0] 67) := ⟨_, rfl⟩
  have s1 : E1.heap.size = w.heap.size + 1 := by rw [hE1]; simp
  have b0 : Box E1 w.heap.size 26 zeroEd := by rw [hE1]; exact Box.new w _ _
  have b1 : Box E2 (w.heap.size + 1) 67 [.slice A bs.length c, .int .i64 ((0 : Nat) : Int), .int .i64 ((0 : Nat) : Int)] := by rw [hE2, ← s1]; exact Box.new E1 _ _
  have hb1 : Below w.heap.size w E1 := by rw [hE1]; exact Joins.below_alloc1 _ _
  have hb2 : Below w.heap.size w E2 := by rw [hE2]; exact hb1.alloc (by omega) _
  have HO : Hid (Oa E2 (w.heap.size + 1) A c bs 0 0) := Lib.hid ⟨b1, (hl.below hb2).up (by omega), hlen, hcap, hfew, hbyt, Nat.zero_le _, by decide⟩
  have HZ : Hid (Box E2 w.heap.size 26 zeroEd) := Lib.hid (by rw [hE2]; exact b0.alloc _)
  have HB := Lib.hid hb2
  have HE1 := Lib.hid hE1
  have HE2 := Lib.hid hE2
  clear hl hlen hcap hbyt hE1 hE2 s1 b0 b1 hb1 hb2
  go_enter Try.func18, Try.ntmps18
  go_wp2_with fail
  rw [HE2.out, HE1.out] at HO HZ HB
  clear HE1 HE2
  generalize (w.alloc (.cells zeroEd.toArray 26)).alloc (.cells #[.slice A bs.length c, .int .i64 0, .int .i64 0] 67) = w0 at *
  have HW0 : Hid (w.heap.size < w0.heap.size) := Lib.hid HZ.out.lt
  refine (oedit_rd HO.out).mono ?_
  rintro e w1 ⟨x, rfl, hx, q, er, ha, hk, hr⟩
  have hba := Joins.below_alloc1 w1 (.cells #[.slice x.addA x.add.length x.addC, .slice x.dropA x.drop.length x.dropC, .int .i64 x.next, .int .i64 x.log, .int .u64 (x.seq : Int)] 26)
  have HNX : Hid (Nx w0.heap.size (w1.alloc (.cells #[.slice x.addA x.add.length x.addC, .slice x.dropA x.drop.length x.dropC, .int .i64 x.next, .int .i64 x.log, .int .u64 (x.seq : Int)] 26)) x) := Lib.hid (hx.below hba)
  have HBX : Hid (Box (w1.alloc (.cells #[.slice x.addA x.add.length x.addC, .slice x.dropA x.drop.length x.dropC, .int .i64 x.next, .int .i64 x.log, .int .u64 (x.seq : Int)] 26)) w1.heap.size 26 [.slice x.addA x.add.length x.addC, .slice x.dropA x.drop.length x.dropC, .int .i64 x.next, .int .i64 x.log, .int .u64 (x.seq : Int)]) := Lib.hid (Box.new w1 26 [.slice x.addA x.add.length x.addC, .slice x.dropA x.drop.length x.dropC, .int .i64 x.next, .int .i64 x.log, .int .u64 (x.seq : Int)])
  have HO2 := Lib.hid (ha.below hba)
  have HZ2 := Lib.hid ((HZ.out.keep hk (by omega)).below hba (by have := HO.out.box.lt; have := hk.size; omega))
  have HB2 := Lib.hid (HB.out.trans ((hk.below (B := w.heap.size) (HB.out.size) fun k hk => by omega).trans (hba.mono (Nat.le_trans HB.out.size hk.size))))
  have HLT : Hid (w.heap.size + 1 < w1.heap.size) := Lib.hid ha.box.lt
  have HREL := Lib.hid hr
  have hle := ha.le
  clear hx ha hk hr hba HO HZ HB
  go_upto_region 3 with fail
  generalize w1.alloc (.cells #[.slice x.addA x.add.length x.addC, .slice x.dropA x.drop.length x.dropC, .int .i64 x.next, .int .i64 x.log, .int .u64 (x.seq : Int)] 26) = w2 at *
  obtain ⟨Y, hY⟩ : ∃ Y, Y = w1.heap.size := ⟨_, rfl⟩
  rw [← hY] at HBX HLT ⊢
  clear hY
  have f1 := HO2.out.box.cell 1
  have f2 := HO2.out.box.cell 2
  simp only [List.getElem?_cons_succ, List.getElem?_cons_zero] at f1 f2
  by_cases he : er = 0
  · subst he
    have HRE : Hid (qedit bs = .ok (x.e, bs.drop q)) := Lib.hid (by
      rcases HREL.out with ⟨h, _⟩ | ⟨_, ⟨_, h⟩ | ⟨h, _⟩⟩
      · exact absurd rfl h
      · exact h
      · exact absurd rfl h)
    by_cases hq : q = bs.length
    · have t2 : decide ((q : Int) < (bs.length : Int)) = false := decide_eq_false (by omega)
      have t3 : decide (q < bs.length) = false := decide_eq_false (by omega)
      have HDQ : Hid (bs.drop q = []) := Lib.hid (by rw [hq]; simp)
      have HG := Lib.hid (oright_any x w2.heap.size w2 HNX.out.ok (Nat.le_refl _))
      have k0 := HBX.out.cell 0
      have k1 := HBX.out.cell 1
      have k2 := HBX.out.cell 2
      have k3 := HBX.out.cell 3
      have k4 := HBX.out.cell 4
      simp only [List.getElem?_cons_succ, List.getElem?_cons_zero] at k0 k1 k2 k3 k4
      clear hq
      go_wp2_with fail
      clear k0 k1 k2 k3 k4
      refine HG.out.mono ?_
      rintro e V2 ⟨rfl, hb2⟩
      have HRES2 := Lib.hid (HZ2.out.below hb2 HZ2.out.lt)
      have HBX2 := Lib.hid (HBX.out.below hb2 HBX.out.lt)
      have HNX2 := Lib.hid (HNX.out.below hb2)
      have HB3 := Lib.hid (HB2.out.trans (hb2.mono HB2.out.size))
      have HSZ := Lib.hid hb2.size
      clear hb2 HZ2 HBX HG
      rcases hri : right x.e
      · have HT : Hid (readE bs = (2, noE)) := Lib.hid (by
          rw [read_q, HRE.out]
          exact if_pos (.inr hri))
        clear hri
        go_wp2_with (refine wpList_store_row rfl _ _ _ rfl w.heap.size #[.slice none 0 0, .slice none 0 0, .int .i64 0, .int .i64 0, .int .u64 0] rfl rfl _ zeroEd.toArray HRES2.out (by kernel_rfl) rfl (by kernel_rfl) ?_)
        have hrz : Box (V2.setRow w.heap.size #[.slice none 0 0, .slice none 0 0, .int .i64 0, .int .i64 0, .int .u64 0]) w.heap.size 26 zeroEd := setRow_heap _ _ _ _ _ _ HRES2.out
        refine bodyPost_ret (results_box rfl Try.underlying26 (by kernel_rfl) _ rfl hrz) rfl ?_
        exact told_zero HT.out (below_setRow HB3.out (Nat.le_refl _) _)
      · have HT : Hid (readE bs = (0, x.e)) := Lib.hid (by
          rw [read_q, HRE.out, HDQ.out]
          refine if_neg fun h => h.elim (fun h => h rfl) fun h => ?_
          rw [hri] at h; cases h)
        clear hri
        go_wp2_with (first | (refine wpList_load_row rfl _ _ rfl Y rfl _ #[.slice x.addA x.add.length x.addC, .slice x.dropA x.drop.length x.dropC, .int .i64 x.next, .int .i64 x.log, .int .u64 (x.seq : Int)] (0, 0) _ HBX2.out Try.underlying26 rfl (by kernel_rfl) ?_) | (refine wpList_store_row rfl _ _ _ rfl w.heap.size #[.slice x.addA x.add.length x.addC, .slice x.dropA x.drop.length x.dropC, .int .i64 x.next, .int .i64 x.log, .int .u64 (x.seq : Int)] rfl rfl _ zeroEd.toArray HRES2.out (by kernel_rfl) rfl (by kernel_rfl) ?_))
        have hrz : Box (V2.setRow w.heap.size #[.slice x.addA x.add.length x.addC, .slice x.dropA x.drop.length x.dropC, .int .i64 x.next, .int .i64 x.log, .int .u64 (x.seq : Int)]) w.heap.size 26 [.slice x.addA x.add.length x.addC, .slice x.dropA x.drop.length x.dropC, .int .i64 x.next, .int .i64 x.log, .int .u64 (x.seq : Int)] := setRow_heap _ _ _ _ _ _ HRES2.out
        refine bodyPost_ret (results_box rfl Try.underlying26 (by kernel_rfl) _ rfl hrz) rfl ?_
        rw [HT.out]
        have hk := keep_setRow V2 w.heap.size #[.slice x.addA x.add.length x.addC, .slice x.dropA x.drop.length x.dropC, .int .i64 x.next, .int .i64 x.log, .int .u64 (x.seq : Int)]
        have hnx := HNX2.out.low hk fun k hk => by have := HW0.out; omega
        exact ⟨x, rfl, rfl, hnx.ok, below_setRow HB3.out (Nat.le_refl _) _⟩
    · have t2 : decide ((q : Int) < (bs.length : Int)) = true := decide_eq_true (by omega)
      have t3 : decide (q < bs.length) = true := decide_eq_true (by omega)
      have HT : Hid (readE bs = (2, noE)) := Lib.hid (by
        rw [read_q, HRE.out]
        refine if_pos (.inl fun h => hq ?_)
        have := congrArg List.length h
        rw [List.length_drop, List.length_nil] at this
        omega)
      clear hq
      go_wp2_with (refine wpList_store_row rfl _ _ _ rfl w.heap.size #[.slice none 0 0, .slice none 0 0, .int .i64 0, .int .i64 0, .int .u64 0] rfl rfl _ zeroEd.toArray HZ2.out (by kernel_rfl) rfl (by kernel_rfl) ?_)
      have hrz : Box (w2.setRow w.heap.size #[.slice none 0 0, .slice none 0 0, .int .i64 0, .int .i64 0, .int .u64 0]) w.heap.size 26 zeroEd := setRow_heap _ _ _ _ _ _ HZ2.out
      refine bodyPost_ret (results_box rfl Try.underlying26 (by kernel_rfl) _ rfl hrz) rfl ?_
      exact told_zero HT.out (below_setRow HB2.out (Nat.le_refl _) _)
  · have t1 : ((er : Int) != 0) = true := by rw [bne_iff_ne]; omega
    have HT : Hid (readE bs = (er, noE)) := Lib.hid (by
      rcases HREL.out with ⟨h, _⟩ | ⟨_, ⟨h, _⟩ | ⟨_, h⟩⟩
      · exact absurd rfl h
      · exact absurd h he
      · rw [List.drop_zero] at h
        rw [read_q, h])
    clear he
    go_upto_region 4 with fail
    have HRD : Box w2.drew w.heap.size 26 zeroEd := HZ2.out
    have hne : w.heap.size + 1 ≠ w.heap.size := by omega
    refine wp_region_held_drew (S := fun w' => Hid (w'.cell? ⟨w.heap.size + 1, 2, none⟩ = some (.int .i64 (er : Int)))) (by kernel_rfl) (Lib.hid f2) (fun hS => ?_)
    refine wpAnyH_take (i := 0) (v := ?_) rfl (by kernel_rfl) (by kernel_rfl) (by kernel_rfl) (fun _ _ _ h => h) (Or.inl ⟨by rfl, ?_⟩) hS ?_
    rotate_left
    · intro wi hw
      go_simp
      try with_reducible rfl
    try simp only [Act.put, List.getElem_toArray, List.getElem_cons_succ, List.getElem_cons_zero, List.setIfInBounds_toArray, List.set_cons_zero, List.set_cons_succ]
    refine wpAnyH_take (i := 1) (v := ?_) rfl (by kernel_rfl) (by kernel_rfl) (by kernel_rfl) (fun _ _ _ h => h) (Or.inl ⟨by rfl, ?_⟩) hS ?_
    rotate_left
    · intro wi hw
      go_simp
      try with_reducible rfl
    try simp only [Act.put, List.getElem_toArray, List.getElem_cons_succ, List.getElem_cons_zero, List.setIfInBounds_toArray, List.set_cons_zero, List.set_cons_succ]
    refine wpAnyH_take (i := 2) (v := ?_) rfl (by kernel_rfl) (by kernel_rfl) (by kernel_rfl) (fun _ _ _ h => h) (Or.inl ⟨by rfl, ?_⟩) hS ?_
    rotate_left
    · intro wi hw
      have q := hw.out
      go_simp
      try with_reducible rfl
    try simp only [Act.put, List.getElem_toArray, List.getElem_cons_succ, List.getElem_cons_zero, List.setIfInBounds_toArray, List.set_cons_zero, List.set_cons_succ]
    refine wpAnyH_ready (rs := [3]) (by kernel_rfl) (by simp) ?_
    refine (AllReadyH.cons rfl (fun K hK => ?_) AllReadyH.nil)
    refine held_store rfl _ _ _ rfl w.heap.size #[.slice none 0 0, .slice none 0 0, .int .i64 0, .int .i64 0, .int .u64 0] rfl rfl _ zeroEd.toArray HRD (by kernel_rfl) rfl (by kernel_rfl) ?_
    refine hK.out _ _ (Lib.hid ((cell_setRow_other _ _ _ _ hne).trans f2)) (fun hS => ?_)
    clear hK K
    try simp only [Act.put, List.getElem_toArray, List.getElem_cons_succ, List.getElem_cons_zero, List.setIfInBounds_toArray, List.set_cons_zero, List.set_cons_succ]
    refine wpAnyH_take (i := 4) (v := ?_) rfl (by kernel_rfl) (by kernel_rfl) (by kernel_rfl) (fun _ _ _ h => h) (Or.inl ⟨by rfl, ?_⟩) hS ?_
    rotate_left
    · intro wi hw
      go_simp
      try with_reducible rfl
    try simp only [Act.put, List.getElem_toArray, List.getElem_cons_succ, List.getElem_cons_zero, List.setIfInBounds_toArray, List.set_cons_zero, List.set_cons_succ]
    refine wpAnyH_done (by kernel_rfl) ?_ _
    go_wp2_with fail
    have hrz : Box (w2.drew.setRow w.heap.size #[.slice none 0 0, .slice none 0 0, .int .i64 0, .int .i64 0, .int .u64 0]) w.heap.size 26 zeroEd := setRow_heap _ _ _ _ _ _ HRD
    refine bodyPost_ret (results_box rfl Try.underlying26 (by kernel_rfl) _ rfl hrz) rfl ?_
    exact told_zero HT.out (below_setRow HB2.out.drew (Nat.le_refl _) _)
end Go.Proofs.Ythhmjjmjicmhdaa.Ed
