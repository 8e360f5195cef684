/- What the document's own piece answers. -/
import Derived.Test.YtkmelhgpngochaaDoorFfrag
namespace Go.Proofs.YtkmelhgpngochaaDoor.Fr
set_option linter.unusedVariables false
set_option linter.unusedSimpArgs false
open Go.RowKit Lift Ik
set_option maxRecDepth 100000 in
theorem masked_any (A : Option Addr) (c B : Nat) (bs : List Nat) (w : World) (hl : Lies w B A (bs.map vb)) (hc : bs.length ≤ c) (hm : c ≤ maxLen) (h8 : ∀ c, c ∈ bs → c < 256) :
    Calls Tryd.prog 29 #[.slice A bs.length c] w (Made w.heap.size w (low (Crc.maskN (Crc.crc Crc.ent bs)) 4)) := by
  have h32 : Crc.crc Crc.ent bs ≤ 4294967295 := by unfold Crc.crc; omega
  have HS := Lib.hid (Crc.crc_any A c B bs w hl hc (Nat.le_trans hc hm) h8)
  have HM := Lib.hid (Crc.rmask_any (Crc.crc Crc.ent bs) w h32)
  have hml := Crc.maskN_lt (Crc.crc Crc.ent bs)
  have HL := Lib.hid (low_any none 0 0 (Crc.maskN (Crc.crc Crc.ent bs)) 4 [] w (.inl rfl) (by simp) (by omega) (by omega))
  clear hl h8
  generalize Crc.crc Crc.ent bs = C at *
  generalize Crc.maskN C = M at *
  go_enter Tryd.func29, Tryd.ntmps29
  go_wp2_with fail
  refine HS.out.mono ?_; rintro e w' ⟨rfl, rfl⟩
  go_wp2_with fail
  refine HM.out.mono ?_; rintro e w' ⟨rfl, rfl⟩
  go_wp2_with fail
  refine HL.out.mono ?_; rintro e W2 ⟨v, rfl, ho, hb⟩
  have HO := Lib.hid ho
  have HB := Lib.hid hb
  clear ho hb
  go_wp2_with fail
  go_ret
  exact ⟨_, rfl, HO.out, HB.out⟩
set_option maxRecDepth 100000 in
set_option maxHeartbeats 800000 in
theorem rpiece_any (k cd B : Nat) (Ad : Option Addr) (d : List Nat) (w : World) (hd : Lies w B Ad (d.map vb)) (hB : B ≤ w.heap.size) (hcd : d.length ≤ cd) (hmd : cd ≤ maxLen) (hdn : d.length ≤ 1000000) (hk : k < 256) (d8 : ∀ c, c ∈ d → c < 256) :
    Calls Tryd.prog 20 #[.int .u8 (k : Int), .slice Ad d.length cd] w (Made w.heap.size w (piece k d)) := by
  obtain ⟨A1, c1, W1, hr1, hc1, hm1, ho1, hb1⟩ := one_then k d Ad cd B w hd hB hdn
  have hl1 := Lies.of_own ho1
  have s8 : ∀ c, c ∈ k :: d → c < 256 := fun c hc => by rcases List.mem_cons.1 hc with rfl | hc; exact hk; exact d8 c hc
  have HM := Lib.hid (masked_any A1 c1 W1.heap.size (k :: d) W1 hl1 hc1 hm1 s8)
  have HR1 := Lib.hid hr1
  have HB1 := Lib.hid hb1
  have HD := Lib.hid (hd.up hB)
  have HK : Hid (piece k d = low (sumB k d) 4 ++ low d.length 2 ++ k :: d) := Lib.hid (by unfold piece; exact Eq.refl _)
  have HSB : Hid (Crc.maskN (Crc.crc Crc.ent (k :: d)) = sumB k d) := Lib.hid (by unfold sumB; exact Eq.refl _)
  have w64 : ((d.length : Int) % 18446744073709551616) = (d.length : Int) := by omega
  rw [HSB.out] at HM
  have HL4 := Lib.hid (low_length (sumB k d) 4)
  have HLL2 := Lib.hid (low_length d.length 2)
  generalize hS4 : low (sumB k d) 4 = S4 at *
  clear hr1 hb1 hd hB s8 d8 hk hl1 ho1 HSB hS4
  generalize piece k d = PC at *
  go_enter Tryd.func20, Tryd.ntmps20
  go_wp2_with (at_builtin; refine wpList_append_run rfl _ _ 22 rfl rfl rfl HR1.out ?_)
  refine HM.out.mono ?_; rintro e W2 ⟨v2, rfl, ho2, hb2⟩
  obtain ⟨A2, c2, rfl, h21, h22, hl2⟩ := own_parts ho2
  have HB2 := Lib.hid (HB1.out.trans (hb2.mono HB1.out.size))
  have HL2 := Lib.hid (low_any A2 c2 W2.heap.size d.length 2 S4 W2 hl2 (by have := HL4.out; omega) (by omega) (by omega))
  clear ho2 hb2 hl2
  go_wp2_with fail
  refine HL2.out.mono ?_; rintro e W3 ⟨v3, rfl, ho3, hb3⟩
  have HB3 := Lib.hid (HB2.out.trans (hb3.mono HB2.out.size))
  have e6 : (S4 ++ low d.length 2).length = 6 := by rw [List.length_append, HL4.out, HLL2.out]
  obtain ⟨v4, W4, hr4, ho4, on4⟩ := append_byte k ho3 (by rw [e6]; omega) hb3.size
  have hb4 := hb3.trans (on4.below ho3 hb3.size)
  obtain ⟨v5, W5, hr5, ho5, on5⟩ := append_bytes (c := cd) ho4 (HD.out.below (HB2.out.trans (hb4.mono HB2.out.size))) (by rw [List.length_append, e6]; simp; omega) (by exact hb4.size)
  have HB5 := Lib.hid (HB2.out.trans ((hb4.trans (on5.below ho4 hb4.size)).mono HB2.out.size))
  have HR4 := Lib.hid hr4
  have HR5 := Lib.hid hr5
  have HO5 := Lib.hid ho5
  clear ho3 hb3 hr4 ho4 on4 hr5 ho5 on5 hb4 e6
  go_wp2_with (at_builtin; first | refine wpList_append_run rfl _ _ 22 rfl rfl rfl HR4.out ?_ | refine wpList_append_run rfl _ _ 22 rfl rfl rfl HR5.out ?_)
  go_ret
  refine ⟨_, rfl, ?_, HB5.out⟩
  have e : PC = S4 ++ low d.length 2 ++ [k] ++ d := by rw [HK.out]; simp
  rw [e]
  exact own_lower HO5.out HB2.out.size
end Go.Proofs.YtkmelhgpngochaaDoor.Fr
