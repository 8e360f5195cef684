/- The document's own list: Seek, Before, Get. -/
import Derived.Test.YtmnhklfljfglhaaSref
namespace Go.Proofs.Ytmnhklfljfglhaa.Sk
set_option linter.unusedVariables false
set_option linter.unusedSimpArgs false
open Go.RowKit Lift Ik
section
variable {w w' : World} {g : Nat} {S : Nat → Prop} {R : Row}
theorem seekR_at (R : Row) (k : K) : seekR R k = (R[(bef rk R k).length]?).map (·.1) := by
  have h := bef_aft (f := rk) R k
  unfold seekR
  have : R[(bef rk R k).length]? = (aft rk R k).head? := by
    have e : (bef rk R k ++ aft rk R k)[(bef rk R k).length]? = (aft rk R k).head? := by
      rw [List.getElem?_append_right (Nat.le_refl _), Nat.sub_self, List.head?_eq_getElem?]
    rw [h] at e
    exact e
  rw [this]
theorem befR_at (R : Row) (k : K) : befR R k = if (bef rk R k).length = 0 then none else (R[(bef rk R k).length - 1]?).map (·.1) := by
  have h := bef_aft (f := rk) R k
  unfold befR
  by_cases h0 : (bef rk R k).length = 0
  · rw [if_pos h0, List.eq_nil_of_length_eq_zero h0]; rfl
  · rw [if_neg h0]
    have : R[(bef rk R k).length - 1]? = (bef rk R k).getLast? := by
      have e : (bef rk R k ++ aft rk R k)[(bef rk R k).length - 1]? = (bef rk R k).getLast? := by
        rw [List.getElem?_append_left (by omega), List.getLast?_eq_getElem?]
      rw [h] at e
      exact e
    rw [this]
theorem bef_le (R : Row) (k : K) : (bef rk R k).length ≤ R.length := by
  have h := congrArg List.length (bef_aft (f := rk) R k)
  rw [List.length_append] at h
  omega

set_option maxRecDepth 100000 in
set_option maxHeartbeats 3200000 in
theorem rseek_any {A : Option Addr} {c : Nat} {k : K} (h : RL w g S R) (hk : At w w.heap.size A c k) :
    Calls Try.prog (53) #[.pointer (some ⟨g, 0, none⟩), key A c k] w (Told w (seekR R k)) := by
  obtain ⟨x0, z0, b0, s0⟩ := key_boxes w A c k
  obtain ⟨W0, hW0⟩ : ∃ W0, W0 = (w.alloc (kbox A c k)).alloc zbox := ⟨_, rfl⟩
  rw [← hW0] at x0 z0 b0 s0
  have HAT := Lib.hid (at_any (h.below b0) (hk.next b0))
  obtain ⟨i, hi⟩ : ∃ i, i = (bef rk R k).length := ⟨_, rfl⟩
  have hil : i ≤ R.length := by rw [hi]; exact bef_le R k
  have hor := seekR_at R k
  rw [← hi] at HAT hor
  obtain ⟨Ae, ce, Ah, ch, Ld, hl⟩ := h
  have hld : Ld.length = R.length := by have := congrArg List.length hl.told; simpa using this
  have hl200 : Ld.length ≤ 200 := by rw [hld]; exact hl.many
  have HLD := Lib.hid hld
  have HOR := Lib.hid hor
  have HL := Lib.hid hl
  have X0 := Lib.hid x0
  have Z0 := Lib.hid z0
  have B0 := Lib.hid b0
  have hce := hl.ents.len
  have hme := hl.ents.cap
  unfold maxLen at hme
  generalize seekR R k = o at HOR ⊢
  have hil2 : i ≤ Ld.length := by rw [hld]; exact hil
  clear hl x0 z0 b0 s0 hi hil hor hk hld
  go_enter (Try.func53), (Try.ntmps53)
  go_wp2_with fail
  rw [← hW0]
  clear hW0
  refine HAT.out.mono ?_
  rintro e W1 ⟨rfl, hb1⟩
  have B1 := Lib.hid (B0.out.trans (hb1.mono B0.out.size))
  have z1 : Bx W1 (w.heap.size + 1) dz := Z0.out.below hb1 Z0.out.lt
  have Z1 := Lib.hid z1
  obtain ⟨y0, y1, y2, y3, i0, i1, i2, i3⟩ := z1.facts
  have hl1 := HL.out.same (w' := W1) (fun k hk => B1.out.block k (HL.out.lt k hk)) B1.out.size
  have c0 := hl1.box.cell 0
  simp only [List.getElem?_cons_zero] at c0
  clear hb1 z1 HAT
  by_cases h0 : i = Ld.length
  · have HN := Lib.hid (show o = none by rw [HOR.out, h0, HLD.out, List.getElem?_eq_none (Nat.le_refl _)]; rfl)
    subst h0
    have hbx : Bx (put W1 (w.heap.size + 1) dz) (w.heap.size + 1) dz := put_box _ Z1.out
    have HBX := Lib.hid hbx
    have HT := Lib.hid (show Told w none (.returned (.tuple #[dz.v, .bool false])) (put W1 (w.heap.size + 1) dz) from ⟨dz, rfl, rfl, dz_ok _ _, put_below B1.out (Nat.le_succ _) _⟩)
    clear hl1 hbx
    go_wp2_with fail
    refine bodyPost_ret (results_box rfl Try.underlying36 (by kernel_rfl) _ rfl HBX.out) rfl ?_
    rw [HN.out]
    exact HT.out
  · obtain ⟨r, hr⟩ : ∃ r, R[i]? = some r := ⟨_, List.getElem?_eq_getElem (by rw [← HLD.out]; omega)⟩
    obtain ⟨d, hd⟩ : ∃ d, Ld[i]? = some d := ⟨_, List.getElem?_eq_getElem (by omega)⟩
    have HN := Lib.hid (show o = some r.1 by rw [HOR.out, hr]; rfl)
    have hdt : d.t = r.1 := by
      have h1 : (Ld.map D.t)[i]? = (R.map (·.1))[i]? := by rw [HL.out.told]
      rw [List.getElem?_map, List.getElem?_map, hd, hr] at h1
      simpa using h1
    have hrm : r ∈ R := List.mem_of_getElem? hr
    have hne : ((i : Int) == (Ld.length : Int)) = false := by rw [beq_eq_false_iff_ne]; omega
    have hlt : i < Ld.length := by omega
    clear hr
    obtain ⟨ad, p, hA, -, hp, p0, p1, p2, p3⟩ := hl1.ents.place hd
    subst hA
    have hld := D.load p0 p1 p2 p3
    have hokd := (hl1.ents.ok d (List.mem_of_getElem? hd)).mono (R' := (· < W1.heap.size)) fun k hk => hl1.lt k hk.1
    have HC := Lib.hid (copy_any d W1 hokd (small_of hdt (HL.out.okR _ hrm).1))
    have HDT := Lib.hid hdt
    clear hl1 hokd hd hdt hrm
    go_wp2_with fail
    refine HC.out.mono ?_
    rintro e W2 ⟨d', rfl, ht, hd', hb2⟩
    have z2 : Bx W2 (w.heap.size + 1) dz := Z1.out.below hb2 Z1.out.lt
    have hbx : Bx (put W2 (w.heap.size + 1) d') (w.heap.size + 1) d' := put_box _ z2
    have HT := Lib.hid (told_put (b := w.heap.size + 1) (o := some r.1) (by omega) Z1.out.lt B1.out (by rw [ht, HDT.out]; rfl) hd' hb2)
    have HBX := Lib.hid hbx
    clear y0 y1 y2 y3 i0 i1 i2 i3 p0 p1 p2 p3 c0 hld ht hd' hb2 hbx HC
    obtain ⟨y0, y1, y2, y3, i0, i1, i2, i3⟩ := z2.facts
    clear z2
    go_wp2_with fail
    refine bodyPost_ret (results_box rfl Try.underlying36 (by kernel_rfl) _ rfl HBX.out) rfl ?_
    rw [HN.out]
    exact HT.out

set_option maxRecDepth 100000 in
set_option maxHeartbeats 3200000 in
theorem rbefore_any {A : Option Addr} {c : Nat} {k : K} (h : RL w g S R) (hk : At w w.heap.size A c k) :
    Calls Try.prog (55) #[.pointer (some ⟨g, 0, none⟩), key A c k] w (Told w (befR R k)) := by
  obtain ⟨x0, z0, b0, s0⟩ := key_boxes w A c k
  obtain ⟨W0, hW0⟩ : ∃ W0, W0 = (w.alloc (kbox A c k)).alloc zbox := ⟨_, rfl⟩
  rw [← hW0] at x0 z0 b0 s0
  have HAT := Lib.hid (at_any (h.below b0) (hk.next b0))
  obtain ⟨i, hi⟩ : ∃ i, i = (bef rk R k).length := ⟨_, rfl⟩
  have hil : i ≤ R.length := by rw [hi]; exact bef_le R k
  have hor := befR_at R k
  rw [← hi] at HAT hor
  obtain ⟨Ae, ce, Ah, ch, Ld, hl⟩ := h
  have hld : Ld.length = R.length := by have := congrArg List.length hl.told; simpa using this
  have hl200 : Ld.length ≤ 200 := by rw [hld]; exact hl.many
  have HLD := Lib.hid hld
  have HOR := Lib.hid hor
  have HL := Lib.hid hl
  have X0 := Lib.hid x0
  have Z0 := Lib.hid z0
  have B0 := Lib.hid b0
  have hce := hl.ents.len
  have hme := hl.ents.cap
  unfold maxLen at hme
  generalize befR R k = o at HOR ⊢
  have hil2 : i ≤ Ld.length := by rw [hld]; exact hil
  clear hl x0 z0 b0 s0 hi hil hor hk hld
  go_enter (Try.func55), (Try.ntmps55)
  go_wp2_with fail
  rw [← hW0]
  clear hW0
  refine HAT.out.mono ?_
  rintro e W1 ⟨rfl, hb1⟩
  have B1 := Lib.hid (B0.out.trans (hb1.mono B0.out.size))
  have z1 : Bx W1 (w.heap.size + 1) dz := Z0.out.below hb1 Z0.out.lt
  have Z1 := Lib.hid z1
  obtain ⟨y0, y1, y2, y3, i0, i1, i2, i3⟩ := z1.facts
  have hl1 := HL.out.same (w' := W1) (fun k hk => B1.out.block k (HL.out.lt k hk)) B1.out.size
  have c0 := hl1.box.cell 0
  simp only [List.getElem?_cons_zero] at c0
  clear hb1 z1 HAT
  by_cases h0 : i = 0
  · have HN := Lib.hid (show o = none by rw [HOR.out, if_pos h0])
    subst h0
    have hbx : Bx (put W1 (w.heap.size + 1) dz) (w.heap.size + 1) dz := put_box _ Z1.out
    have HBX := Lib.hid hbx
    have HT := Lib.hid (show Told w none (.returned (.tuple #[dz.v, .bool false])) (put W1 (w.heap.size + 1) dz) from ⟨dz, rfl, rfl, dz_ok _ _, put_below B1.out (Nat.le_succ _) _⟩)
    clear hl1 hbx
    go_wp2_with fail
    refine bodyPost_ret (results_box rfl Try.underlying36 (by kernel_rfl) _ rfl HBX.out) rfl ?_
    rw [HN.out]
    exact HT.out
  · obtain ⟨j, hj⟩ : ∃ j, i = j + 1 := ⟨i - 1, by omega⟩
    subst hj
    obtain ⟨r, hr⟩ : ∃ r, R[j]? = some r := ⟨_, List.getElem?_eq_getElem (by rw [← HLD.out]; omega)⟩
    obtain ⟨d, hd⟩ : ∃ d, Ld[j]? = some d := ⟨_, List.getElem?_eq_getElem (by omega)⟩
    have HN := Lib.hid (show o = some r.1 by rw [HOR.out, if_neg h0, Nat.add_sub_cancel, hr]; rfl)
    have hdt : d.t = r.1 := by
      have h1 : (Ld.map D.t)[j]? = (R.map (·.1))[j]? := by rw [HL.out.told]
      rw [List.getElem?_map, List.getElem?_map, hd, hr] at h1
      simpa using h1
    have hrm : r ∈ R := List.mem_of_getElem? hr
    clear hr
    obtain ⟨ad, p, hA, -, hp, p0, p1, p2, p3⟩ := hl1.ents.place hd
    subst hA
    have hld := D.load p0 p1 p2 p3
    have hokd := (hl1.ents.ok d (List.mem_of_getElem? hd)).mono (R' := (· < W1.heap.size)) fun k hk => hl1.lt k hk.1
    have HC := Lib.hid (copy_any d W1 hokd (small_of hdt (HL.out.okR _ hrm).1))
    have HDT := Lib.hid hdt
    clear hl1 hokd hd hdt hrm
    go_wp2_with fail
    refine HC.out.mono ?_
    rintro e W2 ⟨d', rfl, ht, hd', hb2⟩
    have z2 : Bx W2 (w.heap.size + 1) dz := Z1.out.below hb2 Z1.out.lt
    have hbx : Bx (put W2 (w.heap.size + 1) d') (w.heap.size + 1) d' := put_box _ z2
    have HT := Lib.hid (told_put (b := w.heap.size + 1) (o := some r.1) (by omega) Z1.out.lt B1.out (by rw [ht, HDT.out]; rfl) hd' hb2)
    have HBX := Lib.hid hbx
    clear y0 y1 y2 y3 i0 i1 i2 i3 p0 p1 p2 p3 c0 hld ht hd' hb2 hbx HC
    obtain ⟨y0, y1, y2, y3, i0, i1, i2, i3⟩ := z2.facts
    clear z2
    go_wp2_with fail
    refine bodyPost_ret (results_box rfl Try.underlying36 (by kernel_rfl) _ rfl HBX.out) rfl ?_
    rw [HN.out]
    exact HT.out
end
end Go.Proofs.Ytmnhklfljfglhaa.Sk
