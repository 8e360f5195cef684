/- Two lists that tell the same rows tell the same of every key. -/
import Derived.Test.YtmnhklfljfglhaaSref8
import Derived.Test.YtmnhklfljfglhaaSref5
import Derived.Test.YtmnhklfljfglhaaSref6
import Derived.Test.YtmnhklfljfglhaaSget
import Derived.Laws.Tables
namespace Go.Proofs.Ytmnhklfljfglhaa.Sk
set_option linter.unusedVariables false
set_option linter.unusedSimpArgs false
open Go.RowKit Lift Ik
/-- An entry in a box, with what it tells. -/
structure Has (b : Nat) (d : D) (t : T) (w : World) : Prop where
  box : Bx w b d
  told : d.t = t
  ok : d.Ok w (· < w.heap.size)
theorem Has.next {b : Nat} {d : D} {t : T} {w w' : World} (h : Has b d t w) (hb : Below w.heap.size w w') : Has b d t w' := ⟨h.box.below hb h.box.lt, h.told, h.ok.next hb⟩
theorem Has.load {b : Nat} {d : D} {t : T} {w : World} (h : Has b d t w) : Sem.run Try.prog (loadVar 36 ⟨b, 0, none⟩) w = .ok d.v w := by
  obtain ⟨x0, x1, x2, x3, -, -, -, -⟩ := h.box.facts
  exact D.load (p := ⟨b, 0, none⟩) x0 x1 x2 x3
theorem kept {w W : World} {d : D} {t : T} (hb : Below w.heap.size w W) (ht : d.t = t) (hok : d.Ok W (Fresh w.heap.size W)) : Has W.heap.size d t (W.alloc (ebox d)) ∧ Below w.heap.size w (W.alloc (ebox d)) := by
  have h1 : Below W.heap.size W (W.alloc (ebox d)) := Joins.below_alloc1 W _
  exact ⟨⟨Bx.new W d, ht, (hok.mono (R' := (· < W.heap.size)) fun k hk => hk.2.1).next h1⟩, hb.trans (h1.mono hb.size)⟩
theorem at_one {w : World} {B c : Nat} {A : Option Addr} {k : K} (h : At w B A c k) : At w B A c ⟨k.key, k.seq, 1⟩ := ⟨h.1, h.2.1, h.2.2.1, h.2.2.2.1, h.2.2.2.2.1, (by show (-9223372036854775808 : Int) ≤ 1; decide), (by show (1 : Int) ≤ 9223372036854775807; decide)⟩
section
variable {w : World} {gx gr c : Nat} {Sx Sr : Nat → Prop} {R : Row} {A : Option Addr} {k : K}
set_option maxRecDepth 1000000 in
set_option maxHeartbeats 8000000 in
theorem same_any (hx : SL w gx Sx R) (hr : RL w gr Sr R) (hk : At w w.heap.size A c k) :
    Calls Try.prog 15 #[.pointer (some ⟨gx, 0, none⟩), .pointer (some ⟨gr, 0, none⟩), key A c k] w fun e w' => e = .returned (.bool true) ∧ Below w.heap.size w w' := by
  have hb0 : Below w.heap.size w (w.alloc (kbox A c k)) := Joins.below_alloc1 w _
  have hkb0 : Ik.Box (w.alloc (kbox A c k)) w.heap.size A c k := Ik.Box.new w A c k
  have hlt0 : w.heap.size < (w.alloc (kbox A c k)).heap.size := by simp
  have hx0 := hx.below hb0
  have hr0 := hr.below hb0
  have hk0 := hk.next hb0
  obtain ⟨V0, hV0⟩ : ∃ V0, V0 = w.alloc (kbox A c k) := ⟨_, rfl⟩
  rw [← hV0] at hb0 hkb0 hlt0 hx0 hr0 hk0
  have HBW := Lib.hid hb0
  have HKB0 := Lib.hid hkb0
  have HKLT := Lib.hid hlt0
  have HX0 := Lib.hid hx0
  have HR0 := Lib.hid hr0
  have HK0 := Lib.hid hk0
  obtain ⟨o0, ho0⟩ : ∃ o, o = getR R k.key k.seq := ⟨_, rfl⟩
  obtain ⟨o1, ho1⟩ : ∃ o, o = seekR R k := ⟨_, rfl⟩
  obtain ⟨o2, ho2⟩ : ∃ o, o = befR R k := ⟨_, rfl⟩
  have HO0 := Lib.hid ho0
  have HO1 := Lib.hid ho1
  have HO2 := Lib.hid ho2
  clear hb0 hkb0 hlt0 hx0 hr0 hk0 hx hr hk ho0 ho1 ho2
  go_enter Try.func15, Try.ntmps15
  go_upto_region 1 with fail
  change Code.wp _ _ _ _ (w.alloc (kbox A c k))
  rw [← hV0]
  clear hV0
  have HB0 : Hid (Below V0.heap.size V0 V0) := Lib.hid (Below.refl _ _)
  obtain ⟨n0, hn0⟩ : ∃ n0, n0 = w.heap.size := ⟨_, rfl⟩
  rw [← hn0] at HKB0 HKLT ⊢
  have HN0 := Lib.hid hn0
  clear hn0
  obtain ⟨q0, q1, q2⟩ := HKB0.out.later HB0.out HKLT.out
  have hkl := KD.load (d := ⟨A, c, k⟩) (p := ⟨n0, 0, none⟩) q0 q1 q2
  have hct := get_any (HX0.out.below HB0.out) (at_one (HK0.out.next HB0.out))
  rw [← HO0.out] at hct
  have HCT := Lib.hid hct
  clear hct
  go_wp2_with fail
  refine HCT.out.mono ?_
  rintro e W0 ⟨d0, rfl, ht, hok, hb⟩
  obtain ⟨hh, hb2⟩ := kept hb ht hok
  have HH0 := Lib.hid hh
  have HV := Lib.hid hb2
  clear HCT q0 q1 q2 hkl ht hok hb hh hb2
  go_upto_region 2 with fail
  change Code.wp _ _ _ _ (W0.alloc (ebox d0))
  obtain ⟨V1, hVn⟩ : ∃ V, V = W0.alloc (ebox d0) := ⟨_, rfl⟩
  rw [← hVn] at HH0 HV ⊢
  clear hVn
  obtain ⟨b0, hbn⟩ : ∃ b, b = W0.heap.size := ⟨_, rfl⟩
  rw [← hbn] at HH0 ⊢
  clear hbn W0
  have HB1 : Hid (Below V0.heap.size V0 V1) := Lib.hid (HB0.out.trans (HV.out.mono HB0.out.size))
  clear HV
  obtain ⟨q0, q1, q2⟩ := HKB0.out.later HB1.out HKLT.out
  have hkl := KD.load (d := ⟨A, c, k⟩) (p := ⟨n0, 0, none⟩) q0 q1 q2
  have hct := rget_any (HR0.out.below HB1.out) (at_one (HK0.out.next HB1.out))
  rw [← HO0.out] at hct
  have HCT := Lib.hid hct
  clear hct
  go_wp2_with fail
  refine HCT.out.mono ?_
  rintro e W1 ⟨d1, rfl, ht, hok, hb⟩
  obtain ⟨hh, hb2⟩ := kept hb ht hok
  have HH1 := Lib.hid hh
  have HV := Lib.hid hb2
  clear HCT q0 q1 q2 hkl ht hok hb hh hb2
  go_upto_region 3 with fail
  change Code.wp _ _ _ _ (W1.alloc (ebox d1))
  obtain ⟨V2, hVn⟩ : ∃ V, V = W1.alloc (ebox d1) := ⟨_, rfl⟩
  rw [← hVn] at HH1 HV ⊢
  clear hVn
  obtain ⟨b1, hbn⟩ : ∃ b, b = W1.heap.size := ⟨_, rfl⟩
  rw [← hbn] at HH1 ⊢
  clear hbn W1
  have HB2 : Hid (Below V0.heap.size V0 V2) := Lib.hid (HB1.out.trans (HV.out.mono HB1.out.size))
  replace HH0 := Lib.hid (HH0.out.next HV.out)
  clear HV HB1
  obtain ⟨q0, q1, q2⟩ := HKB0.out.later HB2.out HKLT.out
  have hkl := KD.load (d := ⟨A, c, k⟩) (p := ⟨n0, 0, none⟩) q0 q1 q2
  have hct := seek_any (HX0.out.below HB2.out) ( (HK0.out.next HB2.out))
  rw [← HO1.out] at hct
  have HCT := Lib.hid hct
  clear hct
  go_wp2_with fail
  refine HCT.out.mono ?_
  rintro e W2 ⟨d2, rfl, ht, hok, hb⟩
  obtain ⟨hh, hb2⟩ := kept hb ht hok
  have HH2 := Lib.hid hh
  have HV := Lib.hid hb2
  clear HCT q0 q1 q2 hkl ht hok hb hh hb2
  go_upto_region 4 with fail
  change Code.wp _ _ _ _ (W2.alloc (ebox d2))
  obtain ⟨V3, hVn⟩ : ∃ V, V = W2.alloc (ebox d2) := ⟨_, rfl⟩
  rw [← hVn] at HH2 HV ⊢
  clear hVn
  obtain ⟨b2, hbn⟩ : ∃ b, b = W2.heap.size := ⟨_, rfl⟩
  rw [← hbn] at HH2 ⊢
  clear hbn W2
  have HB3 : Hid (Below V0.heap.size V0 V3) := Lib.hid (HB2.out.trans (HV.out.mono HB2.out.size))
  replace HH0 := Lib.hid (HH0.out.next HV.out)
  replace HH1 := Lib.hid (HH1.out.next HV.out)
  clear HV HB2
  obtain ⟨q0, q1, q2⟩ := HKB0.out.later HB3.out HKLT.out
  have hkl := KD.load (d := ⟨A, c, k⟩) (p := ⟨n0, 0, none⟩) q0 q1 q2
  have hct := rseek_any (HR0.out.below HB3.out) ( (HK0.out.next HB3.out))
  rw [← HO1.out] at hct
  have HCT := Lib.hid hct
  clear hct
  go_wp2_with fail
  refine HCT.out.mono ?_
  rintro e W3 ⟨d3, rfl, ht, hok, hb⟩
  obtain ⟨hh, hb2⟩ := kept hb ht hok
  have HH3 := Lib.hid hh
  have HV := Lib.hid hb2
  clear HCT q0 q1 q2 hkl ht hok hb hh hb2
  go_upto_region 5 with fail
  change Code.wp _ _ _ _ (W3.alloc (ebox d3))
  obtain ⟨V4, hVn⟩ : ∃ V, V = W3.alloc (ebox d3) := ⟨_, rfl⟩
  rw [← hVn] at HH3 HV ⊢
  clear hVn
  obtain ⟨b3, hbn⟩ : ∃ b, b = W3.heap.size := ⟨_, rfl⟩
  rw [← hbn] at HH3 ⊢
  clear hbn W3
  have HB4 : Hid (Below V0.heap.size V0 V4) := Lib.hid (HB3.out.trans (HV.out.mono HB3.out.size))
  replace HH0 := Lib.hid (HH0.out.next HV.out)
  replace HH1 := Lib.hid (HH1.out.next HV.out)
  replace HH2 := Lib.hid (HH2.out.next HV.out)
  clear HV HB3
  obtain ⟨q0, q1, q2⟩ := HKB0.out.later HB4.out HKLT.out
  have hkl := KD.load (d := ⟨A, c, k⟩) (p := ⟨n0, 0, none⟩) q0 q1 q2
  have hct := before_any (HX0.out.below HB4.out) ( (HK0.out.next HB4.out))
  rw [← HO2.out] at hct
  have HCT := Lib.hid hct
  clear hct
  go_wp2_with fail
  refine HCT.out.mono ?_
  rintro e W4 ⟨d4, rfl, ht, hok, hb⟩
  obtain ⟨hh, hb2⟩ := kept hb ht hok
  have HH4 := Lib.hid hh
  have HV := Lib.hid hb2
  clear HCT q0 q1 q2 hkl ht hok hb hh hb2
  go_upto_region 6 with fail
  change Code.wp _ _ _ _ (W4.alloc (ebox d4))
  obtain ⟨V5, hVn⟩ : ∃ V, V = W4.alloc (ebox d4) := ⟨_, rfl⟩
  rw [← hVn] at HH4 HV ⊢
  clear hVn
  obtain ⟨b4, hbn⟩ : ∃ b, b = W4.heap.size := ⟨_, rfl⟩
  rw [← hbn] at HH4 ⊢
  clear hbn W4
  have HB5 : Hid (Below V0.heap.size V0 V5) := Lib.hid (HB4.out.trans (HV.out.mono HB4.out.size))
  replace HH0 := Lib.hid (HH0.out.next HV.out)
  replace HH1 := Lib.hid (HH1.out.next HV.out)
  replace HH2 := Lib.hid (HH2.out.next HV.out)
  replace HH3 := Lib.hid (HH3.out.next HV.out)
  clear HV HB4
  obtain ⟨q0, q1, q2⟩ := HKB0.out.later HB5.out HKLT.out
  have hkl := KD.load (d := ⟨A, c, k⟩) (p := ⟨n0, 0, none⟩) q0 q1 q2
  have hct := rbefore_any (HR0.out.below HB5.out) ( (HK0.out.next HB5.out))
  rw [← HO2.out] at hct
  have HCT := Lib.hid hct
  clear hct
  go_wp2_with fail
  refine HCT.out.mono ?_
  rintro e W5 ⟨d5, rfl, ht, hok, hb⟩
  obtain ⟨hh, hb2⟩ := kept hb ht hok
  have HH5 := Lib.hid hh
  have HV := Lib.hid hb2
  clear HCT q0 q1 q2 hkl ht hok hb hh hb2
  go_upto_region 7 with fail
  change Code.wp _ _ _ _ (W5.alloc (ebox d5))
  obtain ⟨V6, hVn⟩ : ∃ V, V = W5.alloc (ebox d5) := ⟨_, rfl⟩
  rw [← hVn] at HH5 HV ⊢
  clear hVn
  obtain ⟨b5, hbn⟩ : ∃ b, b = W5.heap.size := ⟨_, rfl⟩
  rw [← hbn] at HH5 ⊢
  clear hbn W5
  have HB6 : Hid (Below V0.heap.size V0 V6) := Lib.hid (HB5.out.trans (HV.out.mono HB5.out.size))
  replace HH0 := Lib.hid (HH0.out.next HV.out)
  replace HH1 := Lib.hid (HH1.out.next HV.out)
  replace HH2 := Lib.hid (HH2.out.next HV.out)
  replace HH3 := Lib.hid (HH3.out.next HV.out)
  replace HH4 := Lib.hid (HH4.out.next HV.out)
  clear HV HB5
  obtain ⟨x0, x1, x2, x3, -, -, -, -⟩ := HH0.out.box.facts
  obtain ⟨y0, y1, y2, y3, -, -, -, -⟩ := HH1.out.box.facts
  have HE := Lib.hid (same_entry d0 d1 V6 HH0.out.ok HH1.out.ok)
  have HSE := Lib.hid (sameD_eq (HH0.out.told.trans HH1.out.told.symm))
  rw [HSE.out] at HE
  go_wp2_with fail
  refine HE.out.mono ?_
  rintro e V7 ⟨rfl, hb⟩
  have HV := Lib.hid hb
  clear x0 x1 x2 x3 y0 y1 y2 y3 HE HSE hb
  replace HH2 := Lib.hid (HH2.out.next HV.out)
  replace HH3 := Lib.hid (HH3.out.next HV.out)
  replace HH4 := Lib.hid (HH4.out.next HV.out)
  replace HH5 := Lib.hid (HH5.out.next HV.out)
  have HB7 : Hid (Below V0.heap.size V0 V7) := Lib.hid (HB6.out.trans (HV.out.mono HB6.out.size))
  clear HV HH0 HH1
  obtain ⟨x0, x1, x2, x3, -, -, -, -⟩ := HH2.out.box.facts
  obtain ⟨y0, y1, y2, y3, -, -, -, -⟩ := HH3.out.box.facts
  have HE := Lib.hid (same_entry d2 d3 V7 HH2.out.ok HH3.out.ok)
  have HSE := Lib.hid (sameD_eq (HH2.out.told.trans HH3.out.told.symm))
  rw [HSE.out] at HE
  go_wp2_with fail
  refine HE.out.mono ?_
  rintro e V8 ⟨rfl, hb⟩
  have HV := Lib.hid hb
  clear x0 x1 x2 x3 y0 y1 y2 y3 HE HSE hb
  replace HH4 := Lib.hid (HH4.out.next HV.out)
  replace HH5 := Lib.hid (HH5.out.next HV.out)
  have HB8 : Hid (Below V0.heap.size V0 V8) := Lib.hid (HB7.out.trans (HV.out.mono HB7.out.size))
  clear HV HH2 HH3
  obtain ⟨x0, x1, x2, x3, -, -, -, -⟩ := HH4.out.box.facts
  obtain ⟨y0, y1, y2, y3, -, -, -, -⟩ := HH5.out.box.facts
  have HE := Lib.hid (same_entry d4 d5 V8 HH4.out.ok HH5.out.ok)
  have HSE := Lib.hid (sameD_eq (HH4.out.told.trans HH5.out.told.symm))
  rw [HSE.out] at HE
  go_wp2_with fail
  refine HE.out.mono ?_
  rintro e V9 ⟨rfl, hb⟩
  have HV := Lib.hid hb
  clear x0 x1 x2 x3 y0 y1 y2 y3 HE HSE hb
  have HB9 : Hid (Below V0.heap.size V0 V9) := Lib.hid (HB8.out.trans (HV.out.mono HB8.out.size))
  clear HV HH4 HH5
  have HY1 := Lib.hid (len_any (HX0.out.below HB9.out))
  have HY2 := Lib.hid (rlen_any (HR0.out.below HB9.out))
  have HY3 := Lib.hid (bytes_any (HX0.out.below HB9.out))
  have HY4 := Lib.hid (rbytes_any (HR0.out.below HB9.out))
  generalize R.length = rl at HY1 HY2
  generalize bytesR R = rb at HY3 HY4
  go_wp2_with fail
  refine HY1.out.mono ?_
  rintro e w' ⟨rfl, rfl⟩
  go_wp2_with fail
  refine HY2.out.mono ?_
  rintro e w' ⟨rfl, rfl⟩
  go_wp2_with fail
  refine HY3.out.mono ?_
  rintro e w' ⟨rfl, rfl⟩
  go_wp2_with fail
  refine HY4.out.mono ?_
  rintro e W10 ⟨rfl, hb⟩
  have HF := Lib.hid (HBW.out.trans ((HB9.out.trans (hb.mono HB9.out.size)).mono HBW.out.size))
  clear hb
  go_wp2_with fail
  go_ret
  exact ⟨rfl, HF.out⟩
end
end Go.Proofs.Ytmnhklfljfglhaa.Sk
