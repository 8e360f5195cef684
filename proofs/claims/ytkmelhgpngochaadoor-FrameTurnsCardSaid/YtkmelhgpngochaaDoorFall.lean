/- What All of package frame answers. -/
import Derived.Test.YtkmelhgpngochaaDoorFacc
namespace Go.Proofs.YtkmelhgpngochaaDoor.Fr
set_option linter.unusedVariables false
set_option linter.unusedSimpArgs false
open Go.RowKit Lift Ik Sq
theorem nxt_len {b : List Nat} {a k a' : Nat} {d : List Nat} (ha : a ≤ b.length) (h : nxt b a = .frag k d a') : a + 7 + d.length ≤ a' ∧ a' ≤ b.length ∧ 1 ≤ k ∧ k ≤ 4 := by
  unfold nxt at h
  split at h
  · have := skip_le ha
    have := frg_frag h
    omega
  · cases h
/-- What holds at the labels, with the frame. -/
def JF (w : World) (A : Option Addr) (c : Nat) (b : List Nat) (l : Nat) (a' : Act) (w' : World) : Prop :=
  ∃ (g : Nat) (As : Option Addr) (cs : Nat) (v5 v6 v7 v8 v9 u1 u2 u3 u4 u10 u12 u13 u14 u15 u16 u17 u18 u19 u20 u21 u22 u23 u24 u25 u26 u27 u28 u29 u30 u31 u32 u33 u34 u35 u36 u37 u38 u39 u40 u41 u42 u43 u44 u45 u46 u47 u48 u49 u50 u51 u52 u53 u54 u55 u56 : Value), a' = { tmps := #[.slice A b.length c, u1, u2, u3, u4, v5, v6, v7, v8, v9, u10, .pointer (some ⟨g, 0, none⟩), u12, u13, u14, u15, u16, u17, u18, u19, u20, u21, u22, u23, u24, u25, u26, u27, u28, u29, u30, u31, u32, u33, u34, u35, u36, u37, u38, u39, u40, u41, u42, u43, u44, u45, u46, u47, u48, u49, u50, u51, u52, u53, u54, u55, u56], defers := [] } ∧ w.heap.size ≤ g ∧ At (g + 1) g A c b As cs l v5 v6 v7 v8 v9 w' ∧ Below w.heap.size w w'
theorem jf_mk {w w' : World} {A As : Option Addr} {c cs g l : Nat} {b : List Nat} {v5 v6 v7 v8 v9 u1 u2 u3 u4 u10 u12 u13 u14 u15 u16 u17 u18 u19 u20 u21 u22 u23 u24 u25 u26 u27 u28 u29 u30 u31 u32 u33 u34 u35 u36 u37 u38 u39 u40 u41 u42 u43 u44 u45 u46 u47 u48 u49 u50 u51 u52 u53 u54 u55 u56 : Value} (hg : w.heap.size ≤ g) (h : At (g + 1) g A c b As cs l v5 v6 v7 v8 v9 w') (hb : Below w.heap.size w w') :
    JF w A c b l { tmps := #[.slice A b.length c, u1, u2, u3, u4, v5, v6, v7, v8, v9, u10, .pointer (some ⟨g, 0, none⟩), u12, u13, u14, u15, u16, u17, u18, u19, u20, u21, u22, u23, u24, u25, u26, u27, u28, u29, u30, u31, u32, u33, u34, u35, u36, u37, u38, u39, u40, u41, u42, u43, u44, u45, u46, u47, u48, u49, u50, u51, u52, u53, u54, u55, u56], defers := [] } w' := ⟨g, As, cs, v5, v6, v7, v8, v9, u1, u2, u3, u4, u10, u12, u13, u14, u15, u16, u17, u18, u19, u20, u21, u22, u23, u24, u25, u26, u27, u28, u29, u30, u31, u32, u33, u34, u35, u36, u37, u38, u39, u40, u41, u42, u43, u44, u45, u46, u47, u48, u49, u50, u51, u52, u53, u54, u55, u56, rfl, hg, h, hb⟩
def gOf (a : Act) : Nat := match a.tmps.getD 11 undef with | .pointer (some p) => p.block | _ => 0
def muF (n : Nat) (l : Nat) (a : Act) (w : World) : Nat := rank (gOf a) n l w
set_option maxRecDepth 1000000 in
set_option maxHeartbeats 8000000 in
theorem all_any (A : Option Addr) (c : Nat) (b : List Nat) (w : World) (hl : Lies w w.heap.size A (b.map vb)) (hc : b.length ≤ c) (hm : c ≤ maxLen) (hn : b.length ≤ 1000000) (h8 : ∀ x, x ∈ b → x < 256) :
    Calls Tryd.prog 13 #[.slice A b.length c] w (Told w b) := by
  have HL := Lib.hid hl
  have H8 := Lib.hid h8
  clear hl h8
  go_enter Tryd.func13, Tryd.ntmps13
  go_wp2_with fail
  refine wp_scope_labels (JF w A c b) (muF b.length) ?_ ?_
  · go_wp2_with fail
    refine (Crc.table_any _).mono ?_
    rintro e W0 ⟨vT, rfl, hoT, hbT⟩
    obtain ⟨As, cs, rfl, hc1, hm1, hlT⟩ := own_parts hoT
    rw [Crc.tab_length] at hc1 ⊢
    go_wp2_with fail
    have hbx := Joins.below_alloc1 W0 (.cells #[.slice A b.length c, .int .i64 0, .slice As 256 cs] 45)
    have hrr : Rr (W0.alloc (.cells #[.slice A b.length c, .int .i64 0, .slice As 256 cs] 45)) W0.heap.size A c b 0 As cs :=
      ⟨Box.new W0 45 [.slice A b.length c, .int .i64 0, .slice As 256 cs], ((HL.out.below hbT).up hbT.size).below hbx, hlT.below hbx, hc, hm, hn, H8.out, Nat.zero_le _, hc1⟩
    obtain ⟨g, hgg⟩ : ∃ g, g = W0.heap.size := ⟨_, rfl⟩
    rw [← hgg] at hrr ⊢
    have hg : Hid (w.heap.size ≤ g) := Lib.hid (by rw [hgg]; exact hbT.size)
    have HB := Lib.hid (hbT.trans (hbx.mono hbT.size))
    have HR := Lib.hid hrr
    clear hbx hrr hgg hbT hoT hlT hc1 hm1
    generalize W0.alloc (.cells #[.slice A b.length c, .int .i64 0, .slice As 256 cs] 45) = W00 at *
    obtain ⟨a, ha⟩ : ∃ a : Nat, a = 0 := ⟨_, rfl⟩
    rw [show (0 : Nat) = a from ha.symm] at HR
    obtain ⟨L, hL⟩ : ∃ L : List E, L = [] := ⟨_, rfl⟩
    obtain ⟨n, hn0⟩ : ∃ n : Nat, n = 0 := ⟨_, rfl⟩
    have hLa : L.length ≤ a := by rw [hL]; exact Nat.zero_le _
    have HRd : Hid (∀ R, Rd b a false [] n (L.map (·.bs)) R → Rd b 0 false [] 0 [] R) := Lib.hid (by rw [ha, hL, hn0]; exact fun R h => h)
    go_step3
    have HA : Hid (Acc (g + 1) W00 (some g) (.slice none 0 0) (.slice none 0 0) L) := Lib.hid (by rw [hL]; exact Acc.nil _ _ _ _)
    rw [show (Value.int .i64 0) = .int .i64 ((n : Nat) : Int) by rw [hn0]; rfl]
    clear ha hL hn0
    go_wp2_with fail
    refine (next_any g c a cs A As b _ HR.out).mono ?_
    rintro e W1 ⟨hk, hx⟩
    have HB1 := Lib.hid (HB.out.trans (hk.below HB.out.size fun k e => e ▸ hg.out))
    have HA1 := Lib.hid (HA.out.keep (hk.mono fun i h => by rw [h]))
    have hpl := HR.out.place
    rcases hx with ⟨cl, a', hx, hcl, rfl, hr⟩ | ⟨k, d, a', ad, cd, hx, rfl, hld, hdc, hdm, hd8, hr⟩
    · have HE := Lib.hid (HRd.out _ (Rd.stop hx))
      clear hk hx hr
      go_wp2_with fail
      go_step3
      change JF w A c b _ _ _
      exact jf_mk (As := As) (cs := cs) hg.out (.inr (.inr (.inr (.inr ⟨rfl, L, n, cl, .slice none 0 0, rfl, rfl, HA1.out, by simpa using HE.out⟩)))) HB1.out
    · obtain ⟨q1, q2, q3, q4⟩ := nxt_len hpl hx
      have hk4 : k = 1 ∨ k = 2 ∨ k = 3 ∨ k = 4 := by omega
      have HX := Lib.hid hx
      have HR1 := Lib.hid hr
      have HLD := Lib.hid hld
      clear hk hx hr hld
      rcases hk4 with rfl | rfl | rfl | rfl
      · go_wp2_with fail
        go_step3
        change JF w A c b _ _ _
        exact jf_mk (As := As) (cs := cs) hg.out (.inr (.inr (.inl ⟨rfl, L, n, a', [], d, ad, cd, rfl, rfl, World.ownsRow_nil _ _ _ _, HLD.out, hd8, HA1.out, HR1.out, by omega, by simp; omega, by simp, fun R hR => HRd.out R (.full HX.out rfl (.inl rfl) hR)⟩))) HB1.out
      · have hcl := clone_any ad cd d W1 (HLD.out.up (Nat.le_of_lt HR1.out.box.lt)) (by omega)
        have HC := Lib.hid hcl
        clear hcl
        go_wp2_with fail
        refine HC.out.mono ?_; rintro e W2 ⟨v2, rfl, ho2, hb2⟩
        have HO2 := Lib.hid (own_lower ho2 HR1.out.box.lt)
        have HB2 := Lib.hid (HB1.out.trans (hb2.mono HB1.out.size))
        have HR2 := Lib.hid (HR1.out.below hb2 HR1.out.box.lt)
        have HA2 := Lib.hid ((HA1.out.other fun k hk => (ho2.lt k hk).1).fresh hb2)
        clear ho2 hb2
        go_wp2_with fail
        go_step3
        change JF w A c b _ _ _
        exact jf_mk (As := As) (cs := cs) hg.out (.inr (.inl ⟨rfl, L, n, a', d, rfl, HO2.out, HA2.out, HR2.out, by omega, by omega, hd8, fun R hR => HRd.out R (.more HX.out rfl (.inl rfl) hR)⟩)) HB2.out
      · go_wp2_with fail
        go_step3
        change JF w A c b _ _ _
        exact jf_mk (As := As) (cs := cs) hg.out (.inr (.inr (.inr (.inl ⟨rfl, L, n, .slice none 0 0, rfl, HA1.out, HRd.out _ (.bad HX.out rfl)⟩)))) HB1.out
      · go_wp2_with fail
        go_step3
        change JF w A c b _ _ _
        exact jf_mk (As := As) (cs := cs) hg.out (.inr (.inr (.inr (.inl ⟨rfl, L, n, .slice none 0 0, rfl, HA1.out, HRd.out _ (.bad HX.out rfl)⟩)))) HB1.out
  · rintro l a' w1 ⟨g, As, cs, v5, v6, v7, v8, v9, u1, u2, u3, u4, u10, u12, u13, u14, u15, u16, u17, u18, u19, u20, u21, u22, u23, u24, u25, u26, u27, u28, u29, u30, u31, u32, u33, u34, u35, u36, u37, u38, u39, u40, u41, u42, u43, u44, u45, u46, u47, u48, u49, u50, u51, u52, u53, u54, u55, u56, rfl, hg0, hat, hb⟩
    have hg := Lib.hid hg0
    have HB := Lib.hid hb
    clear hg0 hb
    rcases hat with ⟨rfl, L, n, a, rfl, hA, hR, hLa, hRd⟩ | ⟨rfl, L, n, a, now, rfl, hO, hA, hR, hLa, hna, hn8, hRd⟩ | ⟨rfl, L, n, a, now, d, ad, cd, rfl, rfl, hO, hld, hd8, hA, hR, hLa, hna, hn8, hRd⟩ | ⟨rfl, L, n, vn, rfl, hA, hRd⟩ | ⟨rfl, L, n, cl, vn, rfl, rfl, hA, hRd⟩
    · have HA := Lib.hid hA
      have HR := Lib.hid hR
      have HRd := Lib.hid hRd
      clear hA hR hRd
      refine ⟨_, rfl, ?_⟩
      go_wp2_with fail
      refine (next_any g c a cs A As b _ HR.out).mono ?_
      rintro e W1 ⟨hk, hx⟩
      have HB1 := Lib.hid (HB.out.trans (hk.below HB.out.size fun k e => e ▸ hg.out))
      have HA1 := Lib.hid (HA.out.keep (hk.mono fun i h => by rw [h]))
      have hpl := HR.out.place
      rcases hx with ⟨cl, a', hx, hcl, rfl, hr⟩ | ⟨k, d, a', ad, cd, hx, rfl, hld, hdc, hdm, hd8, hr⟩
      · have HE := Lib.hid (HRd.out _ (Rd.stop hx))
        clear hk hx hr
        go_wp2_with fail
        go_step3
        change JF w A c b _ _ _ ∧ muF b.length _ _ _ < muF b.length _ _ _
        refine ⟨jf_mk (As := As) (cs := cs) hg.out (.inr (.inr (.inr (.inr ⟨rfl, L, n, cl, .slice none 0 0, rfl, rfl, HA1.out, by simpa using HE.out⟩)))) HB1.out, ?_⟩
        show rank g b.length 1 _ < rank g b.length 0 _
        simp only [rank, pos_of HR.out]
        omega
      · obtain ⟨q1, q2, q3, q4⟩ := nxt_len hpl hx
        have hk4 : k = 1 ∨ k = 2 ∨ k = 3 ∨ k = 4 := by omega
        have HX := Lib.hid hx
        have HR1 := Lib.hid hr
        have HLD := Lib.hid hld
        clear hk hx hr hld
        rcases hk4 with rfl | rfl | rfl | rfl
        · go_wp2_with fail
          go_step3
          change JF w A c b _ _ _ ∧ muF b.length _ _ _ < muF b.length _ _ _
          refine ⟨jf_mk (As := As) (cs := cs) hg.out (.inr (.inr (.inl ⟨rfl, L, n, a', [], d, ad, cd, rfl, rfl, World.ownsRow_nil _ _ _ _, HLD.out, hd8, HA1.out, HR1.out, by omega, by simp; omega, by simp, fun R hR => HRd.out R (.full HX.out rfl (.inl rfl) hR)⟩))) HB1.out, ?_⟩
          show rank g b.length 2 _ < rank g b.length 0 _
          simp only [rank, pos_of HR.out, pos_of HR1.out]
          omega
        · have hcl := clone_any ad cd d W1 (HLD.out.up (Nat.le_of_lt HR1.out.box.lt)) (by omega)
          have HC := Lib.hid hcl
          clear hcl
          go_wp2_with fail
          refine HC.out.mono ?_; rintro e W2 ⟨v2, rfl, ho2, hb2⟩
          have HO2 := Lib.hid (own_lower ho2 HR1.out.box.lt)
          have HB2 := Lib.hid (HB1.out.trans (hb2.mono HB1.out.size))
          have HR2 := Lib.hid (HR1.out.below hb2 HR1.out.box.lt)
          have HA2 := Lib.hid ((HA1.out.other fun k hk => (ho2.lt k hk).1).fresh hb2)
          clear ho2 hb2
          go_wp2_with fail
          go_step3
          change JF w A c b _ _ _ ∧ muF b.length _ _ _ < muF b.length _ _ _
          refine ⟨jf_mk (As := As) (cs := cs) hg.out (.inr (.inl ⟨rfl, L, n, a', d, rfl, HO2.out, HA2.out, HR2.out, by omega, by omega, hd8, fun R hR => HRd.out R (.more HX.out rfl (.inl rfl) hR)⟩)) HB2.out, ?_⟩
          show rank g b.length 3 _ < rank g b.length 0 _
          simp only [rank, pos_of HR.out, pos_of HR2.out]
          omega
        · go_wp2_with fail
          go_step3
          change JF w A c b _ _ _ ∧ muF b.length _ _ _ < muF b.length _ _ _
          refine ⟨jf_mk (As := As) (cs := cs) hg.out (.inr (.inr (.inr (.inl ⟨rfl, L, n, .slice none 0 0, rfl, HA1.out, HRd.out _ (.bad HX.out rfl)⟩)))) HB1.out, ?_⟩
          show rank g b.length 4 _ < rank g b.length 0 _
          simp only [rank, pos_of HR.out]
          omega
        · go_wp2_with fail
          go_step3
          change JF w A c b _ _ _ ∧ muF b.length _ _ _ < muF b.length _ _ _
          refine ⟨jf_mk (As := As) (cs := cs) hg.out (.inr (.inr (.inr (.inl ⟨rfl, L, n, .slice none 0 0, rfl, HA1.out, HRd.out _ (.bad HX.out rfl)⟩)))) HB1.out, ?_⟩
          show rank g b.length 4 _ < rank g b.length 0 _
          simp only [rank, pos_of HR.out]
          omega
    · have HA := Lib.hid hA
      have HR := Lib.hid hR
      have HRd := Lib.hid hRd
      have HO := Lib.hid hO
      clear hA hR hRd hO
      refine ⟨_, rfl, ?_⟩
      go_wp2_with fail
      refine (next_any g c a cs A As b _ HR.out).mono ?_
      rintro e W1 ⟨hk, hx⟩
      have HB1 := Lib.hid (HB.out.trans (hk.below HB.out.size fun k e => e ▸ hg.out))
      have HA1 := Lib.hid (HA.out.keep (hk.mono fun i h => by rw [h]))
      have hpl := HR.out.place
      have HK := Lib.hid hk
      have HO1 := Lib.hid (own_kept HO.out hk fun k hk1 e => by have := (HO.out.lt k hk1).1; omega)
      rcases hx with ⟨cl, a', hx, hcl, rfl, hr⟩ | ⟨k, d, a', ad, cd, hx, rfl, hld, hdc, hdm, hd8, hr⟩
      · have HE := Lib.hid (HRd.out _ (Rd.stop hx))
        clear hk hx hr
        have hcl3 : cl = 0 ∨ cl = 1 ∨ cl = 2 := by omega
        rcases hcl3 with rfl | rfl | rfl
        · go_wp2_with fail
          go_step3
          change JF w A c b _ _ _ ∧ muF b.length _ _ _ < muF b.length _ _ _
          refine ⟨jf_mk (As := As) (cs := cs) hg.out (.inr (.inr (.inr (.inr ⟨rfl, L, n, 1, v6, rfl, rfl, HA1.out, by simpa using HE.out⟩)))) HB1.out, ?_⟩
          show rank g b.length 1 _ < rank g b.length 3 _
          simp only [rank, pos_of HR.out]
          omega
        · go_wp2_with fail
          go_step3
          change JF w A c b _ _ _ ∧ muF b.length _ _ _ < muF b.length _ _ _
          refine ⟨jf_mk (As := As) (cs := cs) hg.out (.inr (.inr (.inr (.inr ⟨rfl, L, n, 1, v6, rfl, rfl, HA1.out, by simpa using HE.out⟩)))) HB1.out, ?_⟩
          show rank g b.length 1 _ < rank g b.length 3 _
          simp only [rank, pos_of HR.out]
          omega
        · go_wp2_with fail
          go_step3
          change JF w A c b _ _ _ ∧ muF b.length _ _ _ < muF b.length _ _ _
          refine ⟨jf_mk (As := As) (cs := cs) hg.out (.inr (.inr (.inr (.inr ⟨rfl, L, n, 2, v6, rfl, rfl, HA1.out, by simpa using HE.out⟩)))) HB1.out, ?_⟩
          show rank g b.length 1 _ < rank g b.length 3 _
          simp only [rank, pos_of HR.out]
          omega
      · obtain ⟨q1, q2, q3, q4⟩ := nxt_len hpl hx
        have hk4 : k = 1 ∨ k = 2 ∨ k = 3 ∨ k = 4 := by omega
        have HX := Lib.hid hx
        have HR1 := Lib.hid hr
        have HLD := Lib.hid hld
        clear hk hx hr hld
        rcases hk4 with rfl | rfl | rfl | rfl
        · go_wp2_with fail
          go_step3
          change JF w A c b _ _ _ ∧ muF b.length _ _ _ < muF b.length _ _ _
          refine ⟨jf_mk (As := As) (cs := cs) hg.out (.inr (.inr (.inr (.inl ⟨rfl, L, n, v6, rfl, HA1.out, HRd.out _ (.bad HX.out rfl)⟩)))) HB1.out, ?_⟩
          show rank g b.length 4 _ < rank g b.length 3 _
          simp only [rank, pos_of HR.out]
          omega
        · go_wp2_with fail
          go_step3
          change JF w A c b _ _ _ ∧ muF b.length _ _ _ < muF b.length _ _ _
          refine ⟨jf_mk (As := As) (cs := cs) hg.out (.inr (.inr (.inr (.inl ⟨rfl, L, n, v6, rfl, HA1.out, HRd.out _ (.bad HX.out rfl)⟩)))) HB1.out, ?_⟩
          show rank g b.length 4 _ < rank g b.length 3 _
          simp only [rank, pos_of HR.out]
          omega
        · obtain ⟨v2, W2, hr2, ho2, on2⟩ := append_bytes (c := cd) HO1.out HLD.out (by omega) HR1.out.box.lt
          have HQ := Lib.hid hr2
          have HO2 := Lib.hid ho2
          have hb2 := on2.below HO1.out HR1.out.box.lt
          have HB2 := Lib.hid (HB1.out.trans (hb2.mono (Nat.le_succ_of_le hg.out)))
          have HR2 := Lib.hid (HR1.out.below hb2 (Nat.lt_succ_self _))
          have HA2 := Lib.hid (HA1.out.grew on2 HO1.out)
          clear hr2 ho2 on2 hb2
          go_wp2_with (at_builtin; refine wpList_append_run rfl _ _ 22 rfl rfl rfl HQ.out ?_)
          go_step3
          change JF w A c b _ _ _ ∧ muF b.length _ _ _ < muF b.length _ _ _
          refine ⟨jf_mk (As := As) (cs := cs) hg.out (.inr (.inl ⟨rfl, L, n, a', (now ++ d), rfl, HO2.out, HA2.out, HR2.out, by omega, by rw [List.length_append]; omega, fun x hx => (List.mem_append.1 hx).elim (hn8 x) (hd8 x), fun R hR => HRd.out R (.more HX.out rfl (.inr rfl) hR)⟩)) HB2.out, ?_⟩
          show rank g b.length 3 _ < rank g b.length 3 _
          simp only [rank, pos_of HR.out, pos_of HR2.out]
          omega
        · go_wp2_with fail
          go_step3
          change JF w A c b _ _ _ ∧ muF b.length _ _ _ < muF b.length _ _ _
          refine ⟨jf_mk (As := As) (cs := cs) hg.out (.inr (.inr (.inl ⟨rfl, L, n, a', now, d, ad, cd, rfl, rfl, HO1.out, HLD.out, hd8, HA1.out, HR1.out, by omega, by omega, hn8, fun R hR => HRd.out R (.full HX.out rfl (.inr rfl) hR)⟩))) HB1.out, ?_⟩
          show rank g b.length 2 _ < rank g b.length 3 _
          simp only [rank, pos_of HR.out, pos_of HR1.out]
          omega
    · have HA := Lib.hid hA
      have HR := Lib.hid hR
      have HRd := Lib.hid hRd
      have HO := Lib.hid hO
      have HLD := Lib.hid hld
      clear hA hR hRd hO hld
      refine ⟨_, rfl, ?_⟩
      have hpl := HR.out.place
      have hsm := HR.out.small
      obtain ⟨v2, W2, hr2, ho2, on2⟩ := append_bytes (c := cd) HO.out HLD.out (by omega) HR.out.box.lt
      have hb2 := on2.below HO.out HR.out.box.lt
      have HA2 := HA.out.grew on2 HO.out
      obtain ⟨A6, c6, rfl, k1, k2, k3⟩ := own_parts ho2
      have HR2 := HR.out.below hb2 (Nat.lt_succ_self _)
      obtain ⟨v3, W3, hr3, HA3, on3⟩ := Acc.more HA2 ho2 (fun j hj => by cases hj; exact Nat.lt_succ_self _) k1 k2 (fun x hx => (List.mem_append.1 hx).elim (hn8 x) (hd8 x)) HR2.box.lt (by omega)
      have hb3 := on3.below HA2.own HR2.box.lt
      have HQ2 := Lib.hid hr2
      have HQ3 := Lib.hid hr3
      have HB3 := Lib.hid (HB.out.trans ((hb2.trans hb3).mono (Nat.le_succ_of_le hg.out)))
      have HR3 := Lib.hid (HR2.below hb3 (Nat.lt_succ_self _))
      have HAA := Lib.hid HA3
      clear hr2 ho2 on2 hb2 HA2 HR2 hr3 HA3 on3 hb3 k3
      obtain ⟨p0, p1, p2, f0, f1, f2⟩ := HR3.out.box.facts3
      generalize now ++ d = nd at *
      go_wp2_with (at_builtin; first | refine wpList_append_run rfl _ _ 22 rfl rfl rfl HQ2.out ?_ | refine wpList_append_run rfl _ _ 26 rfl rfl rfl HQ3.out ?_)
      go_step3
      change JF w A c b _ _ _ ∧ muF b.length _ _ _ < muF b.length _ _ _
      refine ⟨jf_mk (As := As) (cs := cs) hg.out (.inl ⟨rfl, L ++ [⟨A6, c6, nd⟩], a, a, rfl, HAA.out, HR3.out, by simp; omega, fun R hR => HRd.out R (by simpa using hR)⟩) HB3.out, ?_⟩
      show rank g b.length 0 _ < rank g b.length 2 _
      simp only [rank, pos_of HR.out, pos_of HR3.out]
      omega
    · have HA := Lib.hid hA
      have HRd := Lib.hid hRd
      clear hA hRd
      refine ⟨_, rfl, ?_⟩
      go_wp2_with fail
      go_step3
      go_wp2_with fail
      rw [jumps_ret]
      go_returns
      obtain ⟨Ar, cr, rfl, hs⟩ := HA.out.seqs
      exact ⟨Ar, cr, L, n, 2, rfl, hs, HRd.out, HB.out⟩
    · have HA := Lib.hid hA
      have HRd := Lib.hid hRd
      clear hA hRd
      refine ⟨_, rfl, ?_⟩
      go_wp2_with fail
      rw [jumps_ret]
      go_returns
      obtain ⟨Ar, cr, rfl, hs⟩ := HA.out.seqs
      exact ⟨Ar, cr, L, n, cl, rfl, hs, HRd.out, HB.out⟩
end Go.Proofs.YtkmelhgpngochaaDoor.Fr
