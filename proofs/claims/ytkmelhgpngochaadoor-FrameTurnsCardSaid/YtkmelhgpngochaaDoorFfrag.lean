/- A piece, written by package frame and by the document's own: what appendFragment and piece answer. -/
import Derived.Test.YtkmelhgpngochaaDoorFnum
import Derived.Test.YtkmelhgpngochaaDoorRef
namespace Go.Proofs.YtkmelhgpngochaaDoor.Fr
set_option linter.unusedVariables false
set_option linter.unusedSimpArgs false
open Go.RowKit Lift Ik
/-- The sum by the table of the package. -/
theorem sum_by_tab (At Ab : Option Addr) (ct cb B : Nat) (bs : List Nat) (w : World) (hct : 256 ≤ ct) (hl : Lies w w.heap.size At (Crc.tab.map Crc.vw))
    (hb : Lies w B Ab (bs.map vb)) (hcb : bs.length ≤ cb) (hm : bs.length ≤ maxLen) (b8 : ∀ c, c ∈ bs → c < 256) :
    Calls Tryd.prog 28 #[.slice At 256 ct, .slice Ab bs.length cb] w fun e w' => e = .returned (.int .u32 (Crc.crc Crc.ent bs : Nat)) ∧ w = w' := by
  obtain ⟨ad, rfl, _, hc⟩ := hl.place (by rw [List.length_map, Crc.tab_length]; decide)
  have h := Crc.sum_tab ad Ab ct cb B Crc.tab bs w Crc.tab_length hct hc hb hcb hm Crc.tab32 b8
  rw [Crc.crc_congr Crc.tab_look bs b8] at h
  exact h
/-- []byte{k}, and bytes behind it. -/
theorem one_then (k : Nat) (d : List Nat) (Ad : Option Addr) (c B : Nat) (w : World) (hd : Lies w B Ad (d.map vb)) (hB : B ≤ w.heap.size) (hn : d.length ≤ 1000000) :
    ∃ A c2 W, Sem.run Tryd.prog (Builtin.append_ #[22, 22] 22 #[.slice (some ⟨w.heap.size, 0, none⟩) 1 1, .slice Ad d.length c]) (w.alloc (.cells #[vb k] 5)) = .ok (.slice A (k :: d).length c2) W ∧
      (k :: d).length ≤ c2 ∧ c2 ≤ maxLen ∧ W.ownsRow w.heap.size 5 1 (.slice A (k :: d).length c2) (k :: d).length ((k :: d).map vb) ∧ Below w.heap.size w W := by
  have hb0 := Joins.below_alloc1 w (.cells #[vb k] 5)
  have hown : (w.alloc (.cells #[vb k] 5)).ownsRow w.heap.size 5 1 (.slice (some ⟨w.heap.size, 0, none⟩) 1 1) [k].length ([k].map vb) :=
    ⟨rfl, .inr ⟨w.heap.size, 1, #[vb k], rfl, Nat.le_refl _, heap_alloc_new w _, Nat.le_refl _, by decide, rfl, rfl⟩⟩
  obtain ⟨v, W, hr, ho, hon⟩ := append_bytes (c := c) hown ((hd.up hB).below hb0) (by simp; omega) hb0.size
  obtain ⟨A, c2, rfl, h1, h2, h3⟩ := own_parts ho
  exact ⟨A, c2, W, hr, h1, h2, ho, hb0.trans (hon.below hown hb0.size)⟩
theorem len_cons (k : Nat) (d : List Nat) : ((k :: d).length : Nat) = d.length + 1 := rfl
set_option maxRecDepth 100000 in
set_option maxHeartbeats 800000 in
theorem frag_any (base k cs cd : Nat) (v : Value) (As Ad : Option Addr) (xs d : List Nat) (w : World) (h : w.ownsRow base 5 1 v xs.length (xs.map vb)) (hbase : base ≤ w.heap.size) (hs : Lies w w.heap.size As (Crc.tab.map Crc.vw)) (hcs : 256 ≤ cs)
    (hd : Lies w base Ad (d.map vb)) (hcd : d.length ≤ cd) (hmd : cd ≤ maxLen) (hxn : xs.length ≤ 140737480000000) (hdn : d.length ≤ 1000000) (hk : k < 256) (d8 : ∀ c, c ∈ d → c < 256) :
    Calls Tryd.prog 19 #[v, .slice As 256 cs, .int .u8 (k : Int), .slice Ad d.length cd] w (Grew base v w (xs ++ piece k d)) := by
  obtain ⟨A1, c1, W1, hr1, hc1, hm1, ho1, hb1⟩ := one_then k d Ad cd base w hd hbase hdn
  have hl1 := Lies.of_own ho1
  have hoff : Off v W1 A1 ((k :: d).map vb) := LiesP.later (LiesP.of_own ho1) (fun _ _ => rfl) fun j hj => ⟨hj.2.1, fun he => by have := (h.lt j he).2; omega⟩
  have HOFF := Lib.hid hoff
  clear hoff ho1
  have s8 : ∀ c, c ∈ k :: d → c < 256 := fun c hc => by rcases List.mem_cons.1 hc with rfl | hc; exact hk; exact d8 c hc
  have hS := sum_by_tab As A1 cs c1 W1.heap.size (k :: d) W1 hcs ((hs.below hb1).up hb1.size) hl1 hc1 (Nat.le_trans hc1 hm1) s8
  have h32 : Crc.crc Crc.ent (k :: d) ≤ 4294967295 := by unfold Crc.crc; omega
  have hM := Crc.mask_any (Crc.crc Crc.ent (k :: d)) W1 h32
  have hN := nums_any base (sumB k d) 4 v xs W1 (own_later h hb1) (Nat.le_trans hbase hb1.size) (by omega) (sumB_lt k d) (by omega)
  have HS := Lib.hid hS
  have HM := Lib.hid hM
  have HN := Lib.hid hN
  have HR1 := Lib.hid hr1
  have HB1 := Lib.hid hb1
  have HL1 := Lib.hid hl1
  have HO := Lib.hid h
  have HZ := Lib.hid hbase
  have HD := Lib.hid hd
  have HK := Lib.hid (show piece k d = low (sumB k d) 4 ++ low d.length 2 ++ k :: d from rfl)
  have ec : ((k :: d).length : Nat) = d.length + 1 := rfl
  have HC1 := Lib.hid hc1
  have HSB : Hid (sumB k d = Crc.maskN (Crc.crc Crc.ent (k :: d))) := Lib.hid rfl
  have w32 : ((d.length : Int) % 4294967296) = (d.length : Int) := by omega
  clear hS hM hN hr1 hb1 hl1 h hbase hd hs s8 d8 hk hc1 ec
  have HTL0 : Hid ((k :: d).length = d.length + 1) := Lib.hid rfl
  generalize hT : k :: d = T at *
  clear hT
  have HTL : Hid (T.length = d.length + 1) := HTL0
  generalize hC : Crc.crc Crc.ent T = C at *
  clear hC
  generalize sumB k d = SB at *
  generalize piece k d = PC at *
  go_enter Tryd.func19, Tryd.ntmps19
  go_wp2_with (at_builtin; refine wpList_append_run rfl _ _ 22 rfl rfl rfl HR1.out ?_)
  refine HS.out.mono ?_; rintro e w' ⟨rfl, rfl⟩
  go_wp2_with fail
  refine HM.out.mono ?_; rintro e w' ⟨rfl, rfl⟩
  rw [← HSB.out]
  go_wp2_with fail
  refine HN.out.mono ?_; rintro e W2 ⟨v2, rfl, ho2, on2⟩
  have l4 := low_length SB 4
  have HN2 := Lib.hid (nums_any base d.length 2 v2 (xs ++ low SB 4) W2 ho2 (Nat.le_trans (Nat.le_trans HZ.out HB1.out.size) on2.keep.size) (by rw [List.length_append]; omega) (by omega) (by omega))
  have ON2 := Lib.hid on2
  have HO2 := Lib.hid ho2
  clear ho2 on2
  go_wp2_with fail
  refine HN2.out.mono ?_; rintro e W3 ⟨v3, rfl, ho3, on3⟩
  have l2 := low_length d.length 2
  have ON3 := Lib.hid (ON2.out.trans on3)
  have hz3 : base ≤ W3.heap.size := Nat.le_trans (Nat.le_trans HZ.out HB1.out.size) ON3.out.keep.size
  have e13 : (xs ++ low SB 4 ++ low d.length 2).length = xs.length + 6 := by rw [List.length_append, List.length_append]; omega
  obtain ⟨v4, W4, hr4, ho4, on4⟩ := append_bytes (c := c1) ho3 ((HOFF.out.onto ON3.out).lies) (by rw [e13]; have := HTL.out; omega) hz3
  have HR4 := Lib.hid hr4
  have HO4 := Lib.hid ho4
  have ON4 := Lib.hid (Onto.pre HB1.out (ON3.out.trans on4))
  clear ho3 on3 hr4 ho4 on4 e13 l2 l4
  go_wp2_with (at_builtin; refine wpList_append_run rfl _ _ 22 rfl rfl rfl HR4.out ?_)
  go_ret
  refine ⟨_, rfl, ?_, ON4.out⟩
  rw [HK.out, ← List.append_assoc, ← List.append_assoc]
  exact HO4.out
end Go.Proofs.YtkmelhgpngochaaDoor.Fr
