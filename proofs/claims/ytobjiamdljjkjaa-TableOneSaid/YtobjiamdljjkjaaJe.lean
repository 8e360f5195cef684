/- Package table: small functions, check, userKeys, split, lay, Build, the footer, the index. -/
import Derived.Test.YtobjiamdljjkjaaJd
import Derived.Test.YtobjiamdljjkjaaOnum
import Derived.Lib.MinMax
import Derived.Lib.AppendZeros
import Derived.Test.YtobjiamdljjkjaaJa
import Derived.Test.YtobjiamdljjkjaaJc
/- Package table: small functions: numbers, sums, defects, user keys, weights. -/
namespace Go.Proofs.Ytobjiamdljjkjaa.Tb
set_option linter.unusedVariables false
set_option linter.unusedSimpArgs false
open Go.RowKit Lift Ik Sk Vn Bk Bl Sq
set_option maxRecDepth 100000 in
set_option maxHeartbeats 800000 in
theorem onumst_any (base x : Nat) (v : Value) (xs : List Nat) (w : World) (h : w.ownsRow base 5 1 v xs.length (xs.map vb)) (hbase : base ≤ w.heap.size) (hm : xs.length ≤ 140737488350000) (hx : x < 4294967296) :
    Calls Try.prog 104 #[v, .int .u32 (x : Int)] w (Grew base v w (xs ++ low x 4)) := by
  have HO := Lib.hid h
  have HZ := Lib.hid hbase
  have w64 : ∀ j : Nat, j < 4 → IntKind.i64.wrap (8 * (j : Int)) = 8 * (j : Int) := fun j hj => IntWalk.i64_in _ (by omega)
  clear h hbase
  go_enter Try.func104, Try.ntmps104
  go_wp2_with fail
  go_loopw [0, 6] (fun o i wr => ∃ j : Nat, j ≤ 4 ∧ i = .int .i64 j ∧ wr.ownsRow base 5 1 o (xs ++ low x j).length ((xs ++ low x j).map vb) ∧ Hid (Onto v o w wr)) (fun _ i _ => 10 - (intOf i).toNat)
  case atStart => exact ⟨0, by omega, rfl, by simpa [low] using HO.out, Lib.hid (Onto.refl _ _)⟩
  case round =>
    obtain ⟨j, hj, rfl, hown, hb⟩ := hrel
    by_cases hlt : j < 4
    · have hl := low_length x j
      obtain ⟨v', w1, hrun, hown1, hon1⟩ := append_byte (x / 256 ^ j % 256) hown (by rw [List.length_append]; omega) (Nat.le_trans HZ.out hb.out.keep.size)
      rw [List.append_assoc, ← low_snoc] at hown1
      rw [show vb (x / 256 ^ j % 256) = .int .u8 ((x : Int) / 2 ^ (8 * j) % 256) by rw [byte_at]] at hrun
      have HO1 := Lib.hid hown1
      have HB3 := Lib.hid (hb.out.trans hon1)
      have HR1 := Lib.hid hrun
      clear hown hown1 hon1 hrun hl
      go_wp2_with (at_builtin; refine wpList_append_run rfl _ _ 25 rfl rfl rfl HR1.out ?_)
      go_roundw
      case rel => exact ⟨j + 1, by omega, by go_num, HO1.out, HB3⟩
      case measure => simp [intOf]; omega
    · obtain rfl : j = 4 := by omega
      have HO1 := Lib.hid hown
      clear hown
      go_wp2_with fail
      go_ret
      exact ⟨_, rfl, HO1.out, hb.out⟩
set_option maxRecDepth 100000 in
set_option maxHeartbeats 800000 in
theorem onumbert_any (A : Option Addr) (c n B : Nat) (bs : List Nat) (w : World) (hl : Lies w B A (bs.map vb)) (hn : bs.length = 4) (hn4 : 4 ≤ n) (hc : n ≤ c) (hm : c ≤ maxLen) (h8 : ∀ c, c ∈ bs → c < 256) :
    Calls Try.prog 108 #[.slice A n c] w fun e w' => e = .returned (.int .u32 (num bs : Nat)) ∧ w = w' := by
  have hcut := cut_to A n c 4 (by omega) hc hm
  unfold maxLen at hm
  have HL := Lib.hid hl
  have H8 := Lib.hid h8
  clear hl h8
  go_enter Try.func108, Try.ntmps108
  go_wp2_with fail
  go_loop [3, 9] (fun x i => ∃ j y : Nat, j ≤ bs.length ∧ i = .int .i64 j ∧ x = .int .u32 y ∧ Hid (y = num (bs.take j)) ∧ Hid (y < 256 ^ j)) (fun _ i => bs.length + 1 - (intOf i).toNat)
  case atStart => exact ⟨0, 0, by omega, rfl, rfl, Lib.hid (by simp [num]), Lib.hid (by decide)⟩
  case round =>
    obtain ⟨j, y, hj, rfl, rfl, hy, hlt2⟩ := hrel
    by_cases hlt : j < bs.length
    · obtain ⟨ad, hA, _, hcell⟩ := HL.out.place (by simp; omega)
      subst hA
      obtain ⟨d, hd⟩ : ∃ d : Nat, bs[j]? = some d := ⟨_, List.getElem?_eq_getElem hlt⟩
      have d8 := H8.out d (List.mem_of_getElem? hd)
      have h1 := cells_at hcell _ d hd
      have e := or_step32 y d j (by omega) hlt2.out d8
      have HN := Lib.hid (num_take hd)
      have hnl : num (bs.take (j + 1)) < 256 ^ (j + 1) := by
        have := num_lt (bs.take (j + 1)) fun c hc => H8.out c (List.mem_of_mem_take hc)
        rwa [List.length_take, Nat.min_eq_left (by omega)] at this
      have hp : 256 ^ (j + 1) ≤ 256 ^ 4 := Nat.pow_le_pow_right (by decide) (by omega)
      have p4 : (256 : Nat) ^ 4 = 4294967296 := by decide
      have HP := Lib.hid (show y + d * 256 ^ j < 256 ^ (j + 1) by rw [hy.out, ← HN.out]; exact hnl)
      have hy32 : y + d * 256 ^ j < 4294967296 := by have := HP.out; omega
      have hy0 : y < 4294967296 := Nat.lt_of_le_of_lt (Nat.le_add_right _ _) hy32
      clear hcell hd hnl hp p4
      generalize hz : d * 256 ^ j = z at *
      go_wp2_with fail
      go_round
      case rel => exact ⟨j + 1, y + z, by omega, by go_num, by go_num, Lib.hid (by rw [HN.out, ← hy.out]), HP⟩
      case measure => simp [intOf]; omega
    · obtain rfl : j = bs.length := by omega
      have HY : Hid (y = num bs) := Lib.hid (by rw [hy.out, List.take_length])
      go_wp2_with fail
      go_ret
      exact ⟨by rw [HY.out]; rfl, rfl⟩
set_option maxRecDepth 100000 in
set_option maxHeartbeats 800000 in
theorem osumt_any (A : Option Addr) (c : Nat) (bs : List Nat) (w : World) (hl : Lies w w.heap.size A (bs.map vb)) (hc : bs.length ≤ c) (hm : c ≤ maxLen) (h8 : ∀ c, c ∈ bs → c < 256) :
    Calls Try.prog 105 #[.slice A bs.length c] w fun e w' => e = .returned (.int .u32 (Crc.maskN (Crc.crc Crc.ent bs) : Nat)) ∧ Below w.heap.size w w' := by
  have HL := Lib.hid hl
  have H8 := Lib.hid h8
  have HT := Lib.hid (Crc.table_any w)
  have h32 : Crc.crc Crc.ent bs ≤ 4294967295 := by unfold Crc.crc; omega
  have hml := Nat.le_trans hc hm
  clear hl h8
  go_enter Try.func105, Try.ntmps105
  go_wp2_with fail
  refine HT.out.mono ?_
  intro e W1 hmade
  obtain ⟨v, rfl, ho, hb⟩ := hmade
  obtain ⟨At, ct, hv, hct, hmt, hlt⟩ := own_parts ho
  rw [Crc.tab_length] at hv hct
  subst hv
  have HB := Lib.hid hb
  have HS := Lib.hid (sum_by_tab At A ct c w.heap.size bs W1 hct hlt (HL.out.below hb) hc hml H8.out)
  have HM := Lib.hid (Crc.mask_any (Crc.crc Crc.ent bs) W1 h32)
  clear ho hlt hb
  obtain ⟨M, hM⟩ : ∃ M, M = Crc.maskN (Crc.crc Crc.ent bs) := ⟨_, rfl⟩
  rw [← hM] at HM
  have HMM := Lib.hid hM
  clear hM h32
  generalize Crc.crc Crc.ent bs = C at HS HM
  go_wp2_with fail
  refine HS.out.mono ?_; rintro e w' ⟨rfl, rfl⟩
  go_wp2_with fail
  refine HM.out.mono ?_; rintro e w' ⟨rfl, rfl⟩
  go_wp2_with fail
  go_ret
  exact ⟨by show Ending.returned (Value.int IntKind.u32 (M : Int)) = _; rw [HMM.out], HB.out⟩
theorem defect_any (n : Nat) (w : World) : Calls Try.prog 110 #[.int .i64 (n : Int)] w fun e w' => e = .returned (.int .i64 (inner n : Nat)) ∧ w = w' := by
  by_cases h : n = 5
  · subst h
    go_enter Try.func110, Try.ntmps110
    go_wp2_with fail
    go_ret
    exact ⟨rfl, rfl⟩
  · have d1 : ((n : Int) == 5) = false := by rw [beq_eq_false_iff_ne]; omega
    have E := Lib.hid (show inner n = 2 by unfold inner; rw [if_neg h])
    clear h
    go_enter Try.func110, Try.ntmps110
    go_wp2_with fail
    go_ret
    exact ⟨by rw [E.out]; rfl, rfl⟩
set_option maxRecDepth 100000 in
set_option maxHeartbeats 800000 in
theorem osamek_any (d d' : D) (w : World) (h : d.Ok w (· < w.heap.size)) (h' : d'.Ok w (· < w.heap.size)) :
    Calls Try.prog 80 #[d.v, d'.v] w fun e w' => e = .returned (.bool (decide (d.k.key = d'.k.key))) ∧ Below w.heap.size w w' := by
  obtain ⟨b1, b2, hb⟩ := two_entries w d d'
  obtain ⟨o, ho⟩ : ∃ W : World, W = (w.alloc (ebox d)).alloc (ebox d') := ⟨_, rfl⟩
  rw [← ho] at b1 b2 hb
  have HE := Lib.hid (equal_any d.ka d'.ka d.kc d'.kc d.k.key d'.k.key o (((h.kl.lies fun k hk => hk).below hb).up hb.size) (((h'.kl.lies fun k hk => hk).below hb).up hb.size) h.ok.1 h'.ok.1)
  have HB := Lib.hid hb
  obtain ⟨f0, -⟩ := b1.facts
  obtain ⟨g0, -⟩ := b2.facts
  clear hb b1 b2 h h'
  go_enter Try.func80, Try.ntmps80
  go_upto_region 1 with fail
  rw [← ho]
  clear ho
  go_wp2_with fail
  refine HE.out.mono ?_
  rintro e w' ⟨rfl, rfl⟩
  go_wp2_with fail
  go_ret
  exact ⟨rfl, HB.out⟩
theorem okT_B {t : T} (h : okT t = true) : okB t.k.key.length t.k.seq t.k.kind = true := by
  unfold okT at h
  simp at h
  exact h.1.1
theorem bytesK_len {k : K} (h : okB k.key.length k.seq k.kind = true) : (bytesK k).length = k.key.length + 8 := by
  unfold bytesK
  rw [if_pos h, List.length_append, low_length]
set_option maxRecDepth 100000 in
set_option maxHeartbeats 800000 in
theorem oweight_any (d : D) (w : World) (h : d.Ok w (· < w.heap.size)) (hok : okT d.t = true) :
    Calls Try.prog 102 #[d.v] w fun e w' => e = .returned (.int .i64 (wgt d.t : Nat)) ∧ Below w.heap.size w w' := by
  obtain ⟨W1, hW⟩ : ∃ W : World, W = w.alloc (ebox d) := ⟨_, rfl⟩
  have hb := below_box w d
  rw [← hW] at hb
  have bx : Bx W1 w.heap.size d := by rw [hW]; exact Bx.new w d
  have HX := Lib.hid bx
  have HB := Lib.hid hb
  have HK := Lib.hid (fun (W : World) (hbW : Below W1.heap.size W1 W) => bytes_any d.ka d.kc d.k W ((((h.next hb).next hbW).at' fun k hk => hk)))
  have HL := Lib.hid (show (bytesK d.k).length = d.k.key.length + 8 from bytesK_len (okT_B hok))
  obtain ⟨l1, l2⟩ := okT_len hok
  have hw : ((wgt d.t : Nat) : Int) = ((bytesK d.k).length : Int) + (d.val.length : Int) := by
    rw [HL.out]; unfold wgt; show (((d.k.key.length + 8 + d.val.length : Nat)) : Int) = _; omega
  have HW := Lib.hid hw
  have hbl : (bytesK d.k).length ≤ 1000 := by rw [HL.out]; omega
  clear hb bx h hok hw
  go_enter Try.func102, Try.ntmps102
  go_upto_region 1 with fail
  rw [← hW]
  clear hW
  refine wp_region_held_drew (S := fun w' => Hid (Below W1.heap.size W1 w')) (by kernel_rfl) (Lib.hid (Below.refl _ _).drew) (fun hS => ?_)
  refine wpAnyH_take (i := 0) (v := ?_) rfl (by kernel_rfl) (by kernel_rfl) (by kernel_rfl) (fun _ _ _ h => h) (Or.inl ⟨by rfl, ?_⟩) hS ?_
  rotate_left
  · intro wi hw
    go_simp
    try with_reducible rfl
  try simp only [Act.put, List.getElem_toArray, List.getElem_cons_succ, List.getElem_cons_zero, List.setIfInBounds_toArray, List.set_cons_zero, List.set_cons_succ]
  refine wpAnyH_take (i := 1) (v := ?_) rfl (by kernel_rfl) (by kernel_rfl) (by kernel_rfl) (fun _ _ _ h => h) (Or.inl ⟨by rfl, ?_⟩) hS ?_
  rotate_left
  · intro wi hw
    obtain ⟨f0, f1, f2, f3, -⟩ := (show Bx wi w.heap.size d from HX.out.below hw.out HX.out.lt).facts
    have hld := key_load f0 f1 f2
    go_simp
    try with_reducible rfl
  try simp only [Act.put, List.getElem_toArray, List.getElem_cons_succ, List.getElem_cons_zero, List.setIfInBounds_toArray, List.set_cons_zero, List.set_cons_succ]
  refine wpAnyH_take (i := 4) (v := ?_) rfl (by kernel_rfl) (by kernel_rfl) (by kernel_rfl) (fun _ _ _ h => h) (Or.inl ⟨by rfl, ?_⟩) hS ?_
  rotate_left
  · intro wi hw
    go_simp
    try with_reducible rfl
  try simp only [Act.put, List.getElem_toArray, List.getElem_cons_succ, List.getElem_cons_zero, List.setIfInBounds_toArray, List.set_cons_zero, List.set_cons_succ]
  refine wpAnyH_take (i := 5) (v := ?_) rfl (by kernel_rfl) (by kernel_rfl) (by kernel_rfl) (fun _ _ _ h => h) (Or.inl ⟨by rfl, ?_⟩) hS ?_
  rotate_left
  · intro wi hw
    obtain ⟨f0, f1, f2, f3, -⟩ := (show Bx wi w.heap.size d from HX.out.below hw.out HX.out.lt).facts
    go_simp
    try with_reducible rfl
  try simp only [Act.put, List.getElem_toArray, List.getElem_cons_succ, List.getElem_cons_zero, List.setIfInBounds_toArray, List.set_cons_zero, List.set_cons_succ]
  refine wpAnyH_take (i := 6) (v := ?_) rfl (by kernel_rfl) (by kernel_rfl) (by kernel_rfl) (fun _ _ _ h => h) (Or.inl ⟨by rfl, ?_⟩) hS ?_
  rotate_left
  · intro wi hw
    go_simp
    try with_reducible rfl
  try simp only [Act.put, List.getElem_toArray, List.getElem_cons_succ, List.getElem_cons_zero, List.setIfInBounds_toArray, List.set_cons_zero, List.set_cons_succ]
  refine wpAnyH_ready (rs := [2]) (by kernel_rfl) (by simp) ?_
  refine AllReadyH.cons rfl (fun K hK => ?_) AllReadyH.nil
  go_simp
  refine (HK.out _ hS.out).mono ?_
  intro e W2 hmade
  obtain ⟨v2, rfl, -, ⟨A2, c2, hv2, m1, m2, m3⟩, hb2⟩ := made_byts hmade
  subst hv2
  have HB2 : Hid (Below W1.heap.size W1 W2) := Lib.hid (hS.out.trans (hb2.mono hS.out.size))
  clear hmade m3 hb2
  go_wp2_with fail
  refine hK.out _ _ HB2 (fun _ => ?_)
  clear hK K hS
  refine wpAnyH_other (S' := fun w' => Hid (Below W2.heap.size W2 w')) (fun w hw => Lib.hid (HB2.out.trans (hw.out.mono HB2.out.size))) _ _ _ _ ?_
  have hS : Hid (Below W2.heap.size W2 W2) := Lib.hid (Below.refl _ _)
  try simp only [Act.put, List.getElem_toArray, List.getElem_cons_succ, List.getElem_cons_zero, List.setIfInBounds_toArray, List.set_cons_zero, List.set_cons_succ]
  refine wpAnyH_take (i := 3) (v := ?_) rfl (by kernel_rfl) (by kernel_rfl) (by kernel_rfl) (fun _ _ _ h => h) (Or.inl ⟨by rfl, ?_⟩) hS ?_
  rotate_left
  · intro wi hw
    go_simp
    try with_reducible rfl
  try simp only [Act.put, List.getElem_toArray, List.getElem_cons_succ, List.getElem_cons_zero, List.setIfInBounds_toArray, List.set_cons_zero, List.set_cons_succ]
  refine wpAnyH_take (i := 7) (v := ?_) rfl (by kernel_rfl) (by kernel_rfl) (by kernel_rfl) (fun _ _ _ h => h) (Or.inl ⟨by rfl, ?_⟩) hS ?_
  rotate_left
  · intro wi hw
    go_simp
    try with_reducible rfl
  try simp only [Act.put, List.getElem_toArray, List.getElem_cons_succ, List.getElem_cons_zero, List.setIfInBounds_toArray, List.set_cons_zero, List.set_cons_succ]
  refine wpAnyH_take (i := 8) (v := ?_) rfl (by kernel_rfl) (by kernel_rfl) (by kernel_rfl) (fun _ _ _ h => h) (Or.inl ⟨by rfl, ?_⟩) hS ?_
  rotate_left
  · intro wi hw
    go_simp
    try with_reducible rfl
  try simp only [Act.put, List.getElem_toArray, List.getElem_cons_succ, List.getElem_cons_zero, List.setIfInBounds_toArray, List.set_cons_zero, List.set_cons_succ]
  refine wpAnyH_done (by kernel_rfl) ?_ _
  have hfin := HB.out.trans ((HB2.out.trans (hS.out.mono HB2.out.size)).mono HB.out.size)
  clear hS
  go_wp2_with fail
  go_ret
  refine ⟨?_, hfin⟩
  rw [HW.out]
  show Ending.returned (Value.int IntKind.i64 (IntKind.i64.wrap (((bytesK d.k).length : Int) + (d.val.length : Int)))) = _
  rw [IntWalk.i64_in _ (by omega)]
end Go.Proofs.Ytobjiamdljjkjaa.Tb

/- Package table: check and userKeys. -/
namespace Go.Proofs.Ytobjiamdljjkjaa.Tb
set_option linter.unusedVariables false
set_option linter.unusedSimpArgs false
open Go.RowKit Lift Ik Sk Vn Bk Bl Sq
/-- The cells of an entry. -/
def At4 (w : World) (p : Addr) (d : D) : Prop := p.block < w.heap.size ∧ w.cell? p = some (.slice d.ka d.k.key.length d.kc) ∧ w.cell? ⟨p.block, p.off + 1, none⟩ = some (.int .u64 (d.k.seq : Int)) ∧ w.cell? ⟨p.block, p.off + 2, none⟩ = some (.int .i64 d.k.kind) ∧ w.cell? ⟨p.block, p.off + 3, none⟩ = some (.slice d.va d.val.length d.vc)
theorem At4.keep {w W : World} {p : Addr} {d : D} (h : At4 w p d) (hb : Below w.heap.size w W) : At4 W p d := by
  obtain ⟨h0, h1, h2, h3, h4⟩ := h
  exact ⟨Nat.lt_of_lt_of_le h0 hb.size, (hb.cell (p := p) h0).trans h1, (hb.cell (p := ⟨p.block, p.off + 1, none⟩) h0).trans h2, (hb.cell (p := ⟨p.block, p.off + 2, none⟩) h0).trans h3, (hb.cell (p := ⟨p.block, p.off + 3, none⟩) h0).trans h4⟩
theorem At4.load {w : World} {p : Addr} {d : D} (h : At4 w p d) : Sem.run Try.prog (loadVar 48 p) w = .ok d.v w := D.load h.2.1 h.2.2.1 h.2.2.2.1 h.2.2.2.2
theorem place4 {w : World} {A : Option Addr} {c : Nat} {L : List D} (h : Ents w (· < w.heap.size) A c L) {i : Nat} {d : D} (hd : L[i]? = some d) : ∃ ad p : Addr, A = some ad ∧ ad.add (i * 4) = p ∧ At4 w p d := by
  obtain ⟨ad, p, hA, hpb, hp, q⟩ := h.place hd
  exact ⟨ad, p, hA, hp, hpb, q⟩
theorem mayT_may {ts : List T} (h : may ts ≠ 0) : mayT ts = may ts := if_pos h
set_option maxRecDepth 100000 in
set_option maxHeartbeats 1600000 in
theorem ochkt_any (A : Option Addr) (c : Nat) (L : List D) (w : World) (h1 : Ents w (· < w.heap.size) A c L) (hn : L.length ≤ 1000000) :
    Calls Try.prog 46 #[.slice A L.length c] w fun e w' => e = .returned (.int .i64 (mayT (L.map D.t) : Nat)) ∧ Below w.heap.size w w' := by
  have H1 := Lib.hid h1
  have HCK := Lib.hid (ocheck_any A c L w h1 hn)
  have hml := may_le (L.map D.t)
  have hc1 := h1.len
  have hm1 := h1.cap
  unfold maxLen at hm1
  clear h1
  by_cases hmay : may (L.map D.t) = 0
  · have HM := Lib.hid hmay
    rw [hmay] at HCK
    clear hmay hml
    go_enter Try.func46, Try.ntmps46
    go_wp2_with fail
    refine HCK.out.mono ?_
    rintro e W1 ⟨rfl, hb1⟩
    have HB1 := Lib.hid hb1
    clear hb1 HCK
    go_wp2_with fail
    go_loopw [4] (fun i wr => ∃ j : Nat, (j < L.length ∨ j = 0) ∧ i = .int .i64 ((j : Int) + 1) ∧ Hid (∀ i a b, i < j → (L.map D.t)[i]? = some a → (L.map D.t)[i + 1]? = some b → ¬ (a.k.key = b.k.key ∧ a.k.seq = b.k.seq)) ∧ Hid (Below w.heap.size w wr)) (fun i _ => L.length + 2 - (intOf i).toNat)
    case atStart => exact ⟨0, .inr rfl, rfl, Lib.hid (fun i a b h => by omega), HB1⟩
    case round =>
      obtain ⟨j, hj, rfl, hno, hb⟩ := hrel
      by_cases hlt : j + 1 < L.length
      · obtain ⟨d, hd⟩ : ∃ d, L[j]? = some d := ⟨_, List.getElem?_eq_getElem (by omega)⟩
        obtain ⟨e, he⟩ : ∃ e, L[j + 1]? = some e := ⟨_, List.getElem?_eq_getElem hlt⟩
        have hE := H1.out.next hb.out
        obtain ⟨ad, p1, hA, hp, hq1⟩ := place4 hE hd
        obtain ⟨ad2, p2, hA2, hp2, hq2⟩ := place4 hE he
        subst hA
        injection hA2 with hA2
        subst hA2
        have HP1 := Lib.hid hq1
        have HP2 := Lib.hid hq2
        have dl : decide ((j : Int) + 1 < (L.length : Int)) = true := decide_eq_true (by omega)
        have em : (j : Int) + 1 - 1 = (j : Int) := by omega
        have hj1 : j < L.length := by omega
        have hj2 : (0 : Int) ≤ (j : Int) + 1 := by omega
        have hj3 : (j : Int) + 1 < (L.length : Int) := by omega
        have HSM := Lib.hid (fun (W : World) (hbw : Below wr.heap.size wr W) => osamek_any d e W (((hE.next hbw)).ok d (List.mem_of_getElem? hd)) (((hE.next hbw)).ok e (List.mem_of_getElem? he)))
        have hst : (d.k.key = e.k.key ∧ d.k.seq = e.k.seq) → mayT (L.map D.t) = 10 := fun h => by
          unfold mayT
          rw [if_neg (by rw [HM.out]; decide), if_pos ((twins_iff _).2 ⟨j, d.t, e.t, by rw [List.getElem?_map, hd]; rfl, by rw [List.getElem?_map, he]; rfl, h.1, h.2⟩)]
        have hnx : ¬ (d.k.key = e.k.key ∧ d.k.seq = e.k.seq) → ∀ i a b, i < j + 1 → (L.map D.t)[i]? = some a → (L.map D.t)[i + 1]? = some b → ¬ (a.k.key = b.k.key ∧ a.k.seq = b.k.seq) := fun h i a b hi ha hb' => by
          by_cases hij : i = j
          · subst hij
            rw [List.getElem?_map, hd] at ha
            rw [List.getElem?_map, he] at hb'
            injection ha with ha
            injection hb' with hb'
            rw [← ha, ← hb']
            exact h
          · exact hno.out i a b (by omega) ha hb'
        have HST := Lib.hid hst
        have HNX := Lib.hid hnx
        clear hd he hE hst hnx hq1 hq2
        go_upto_region 7 with fail
        refine wp_region_held_drew (S := fun w' => Hid (Below wr.heap.size wr w')) (by kernel_rfl) (Lib.hid (Below.refl _ _).drew) (fun hS => ?_)
        refine wpAnyH_take (i := 0) (v := ?_) rfl (by kernel_rfl) (by kernel_rfl) (by kernel_rfl) (fun _ _ _ h => h) (Or.inl ⟨by rfl, ?_⟩) hS ?_
        rotate_left
        · intro wi hw
          go_simp
          try with_reducible rfl
        try simp only [Act.put, List.getElem_toArray, List.getElem_cons_succ, List.getElem_cons_zero, List.setIfInBounds_toArray, List.set_cons_zero, List.set_cons_succ]
        refine wpAnyH_take (i := 1) (v := ?_) rfl (by kernel_rfl) (by kernel_rfl) (by kernel_rfl) (fun _ _ _ h => h) (Or.inl ⟨by rfl, ?_⟩) hS ?_
        rotate_left
        · intro wi hw
          go_simp
          try with_reducible rfl
        try simp only [Act.put, List.getElem_toArray, List.getElem_cons_succ, List.getElem_cons_zero, List.setIfInBounds_toArray, List.set_cons_zero, List.set_cons_succ]
        refine wpAnyH_take (i := 2) (v := ?_) rfl (by kernel_rfl) (by kernel_rfl) (by kernel_rfl) (fun _ _ _ h => h) (Or.inl ⟨by rfl, ?_⟩) hS ?_
        rotate_left
        · intro wi hw
          have em : (j : Int) + 1 - 1 = (j : Int) := by omega
          have ew : IntKind.i64.wrap (j : Int) = (j : Int) := IntWalk.i64_in _ (by omega)
          go_simp
          try with_reducible rfl
        try simp only [Act.put, List.getElem_toArray, List.getElem_cons_succ, List.getElem_cons_zero, List.setIfInBounds_toArray, List.set_cons_zero, List.set_cons_succ]
        refine wpAnyH_take (i := 3) (v := ?_) rfl (by kernel_rfl) (by kernel_rfl) (by kernel_rfl) (fun _ _ _ h => h) (Or.inl ⟨by rfl, ?_⟩) hS ?_
        rotate_left
        · intro wi hw
          go_simp
          try with_reducible rfl
        try simp only [Act.put, List.getElem_toArray, List.getElem_cons_succ, List.getElem_cons_zero, List.setIfInBounds_toArray, List.set_cons_zero, List.set_cons_succ]
        refine wpAnyH_take (i := 4) (v := ?_) rfl (by kernel_rfl) (by kernel_rfl) (by kernel_rfl) (fun _ _ _ h => h) (Or.inl ⟨by rfl, ?_⟩) hS ?_
        rotate_left
        · intro wi hw
          obtain ⟨-, q0, q1, q2, q3⟩ := HP1.out.keep hw.out
          have hld := (HP1.out.keep hw.out).load
          go_simp
          try with_reducible rfl
        try simp only [Act.put, List.getElem_toArray, List.getElem_cons_succ, List.getElem_cons_zero, List.setIfInBounds_toArray, List.set_cons_zero, List.set_cons_succ]
        refine wpAnyH_take (i := 5) (v := ?_) rfl (by kernel_rfl) (by kernel_rfl) (by kernel_rfl) (fun _ _ _ h => h) (Or.inl ⟨by rfl, ?_⟩) hS ?_
        rotate_left
        · intro wi hw
          go_simp
          try with_reducible rfl
        try simp only [Act.put, List.getElem_toArray, List.getElem_cons_succ, List.getElem_cons_zero, List.setIfInBounds_toArray, List.set_cons_zero, List.set_cons_succ]
        refine wpAnyH_take (i := 6) (v := ?_) rfl (by kernel_rfl) (by kernel_rfl) (by kernel_rfl) (fun _ _ _ h => h) (Or.inl ⟨by rfl, ?_⟩) hS ?_
        rotate_left
        · intro wi hw
          go_simp
          try with_reducible rfl
        try simp only [Act.put, List.getElem_toArray, List.getElem_cons_succ, List.getElem_cons_zero, List.setIfInBounds_toArray, List.set_cons_zero, List.set_cons_succ]
        refine wpAnyH_take (i := 7) (v := ?_) rfl (by kernel_rfl) (by kernel_rfl) (by kernel_rfl) (fun _ _ _ h => h) (Or.inl ⟨by rfl, ?_⟩) hS ?_
        rotate_left
        · intro wi hw
          go_simp
          try with_reducible rfl
        try simp only [Act.put, List.getElem_toArray, List.getElem_cons_succ, List.getElem_cons_zero, List.setIfInBounds_toArray, List.set_cons_zero, List.set_cons_succ]
        refine wpAnyH_take (i := 8) (v := ?_) rfl (by kernel_rfl) (by kernel_rfl) (by kernel_rfl) (fun _ _ _ h => h) (Or.inl ⟨by rfl, ?_⟩) hS ?_
        rotate_left
        · intro wi hw
          obtain ⟨-, q0, q1, q2, q3⟩ := HP2.out.keep hw.out
          have hld := (HP2.out.keep hw.out).load
          go_simp
          try with_reducible rfl
        try simp only [Act.put, List.getElem_toArray, List.getElem_cons_succ, List.getElem_cons_zero, List.setIfInBounds_toArray, List.set_cons_zero, List.set_cons_succ]
        refine wpAnyH_ready (rs := [9]) (by kernel_rfl) (by simp) ?_
        refine AllReadyH.cons rfl (fun K hK => ?_) AllReadyH.nil
        go_simp
        refine (HSM.out _ hS.out).mono ?_
        rintro e9 W2 ⟨rfl, hb2⟩
        have HB2 : Hid (Below wr.heap.size wr W2) := Lib.hid (hS.out.trans (hb2.mono hS.out.size))
        clear hb2
        by_cases k1 : d.k.key = e.k.key
        · have k1' : decide (d.k.key = e.k.key) = true := decide_eq_true k1
          rw [k1']
          by_cases k2 : d.k.seq = e.k.seq
          · have HE := Lib.hid (HST.out ⟨k1, k2⟩)
            have d2 : ((d.k.seq : Int) == (e.k.seq : Int)) = true := by rw [beq_iff_eq]; omega
            have d3 : (d.k.seq == e.k.seq) = true := by rw [beq_iff_eq]; exact k2
            clear k1 k1' k2 HST HNX
            go_wp2_with fail
            refine hK.out _ _ HB2 (fun _ => ?_)
            clear hK K hS
            refine wpAnyH_other (S' := fun w' => Hid (Below W2.heap.size W2 w')) (fun w hw => Lib.hid (HB2.out.trans (hw.out.mono HB2.out.size))) _ _ _ _ ?_
            have hS : Hid (Below W2.heap.size W2 W2) := Lib.hid (Below.refl _ _)
            try simp only [Act.put, List.getElem_toArray, List.getElem_cons_succ, List.getElem_cons_zero, List.setIfInBounds_toArray, List.set_cons_zero, List.set_cons_succ]
            refine wpAnyH_take (i := 10) (v := ?_) rfl (by kernel_rfl) (by kernel_rfl) (by kernel_rfl) (fun _ _ _ h => h) (Or.inl ⟨by rfl, ?_⟩) hS ?_
            rotate_left
            · intro wi hw
              go_simp
              try with_reducible rfl
            try simp only [Act.put, List.getElem_toArray, List.getElem_cons_succ, List.getElem_cons_zero, List.setIfInBounds_toArray, List.set_cons_zero, List.set_cons_succ]
            refine wpAnyH_take (i := 11) (v := ?_) rfl (by kernel_rfl) (by kernel_rfl) (by kernel_rfl) (fun _ _ _ h => h) (Or.inl ⟨by rfl, ?_⟩) hS ?_
            rotate_left
            · intro wi hw
              go_simp
              try with_reducible rfl
            try simp only [Act.put, List.getElem_toArray, List.getElem_cons_succ, List.getElem_cons_zero, List.setIfInBounds_toArray, List.set_cons_zero, List.set_cons_succ]
            refine wpAnyH_take (i := 12) (v := ?_) rfl (by kernel_rfl) (by kernel_rfl) (by kernel_rfl) (fun _ _ _ h => h) (Or.inl ⟨by rfl, ?_⟩) hS ?_
            rotate_left
            · intro wi hw
              go_simp
              try with_reducible rfl
            try simp only [Act.put, List.getElem_toArray, List.getElem_cons_succ, List.getElem_cons_zero, List.setIfInBounds_toArray, List.set_cons_zero, List.set_cons_succ]
            refine wpAnyH_take (i := 13) (v := ?_) rfl (by kernel_rfl) (by kernel_rfl) (by kernel_rfl) (fun _ _ _ h => h) (Or.inl ⟨by rfl, ?_⟩) hS ?_
            rotate_left
            · intro wi hw
              have em : (j : Int) + 1 - 1 = (j : Int) := by omega
              have ew : IntKind.i64.wrap (j : Int) = (j : Int) := IntWalk.i64_in _ (by omega)
              go_simp
              try with_reducible rfl
            try simp only [Act.put, List.getElem_toArray, List.getElem_cons_succ, List.getElem_cons_zero, List.setIfInBounds_toArray, List.set_cons_zero, List.set_cons_succ]
            refine wpAnyH_take (i := 14) (v := ?_) rfl (by kernel_rfl) (by kernel_rfl) (by kernel_rfl) (fun _ _ _ h => h) (Or.inl ⟨by rfl, ?_⟩) hS ?_
            rotate_left
            · intro wi hw
              go_simp
              try with_reducible rfl
            try simp only [Act.put, List.getElem_toArray, List.getElem_cons_succ, List.getElem_cons_zero, List.setIfInBounds_toArray, List.set_cons_zero, List.set_cons_succ]
            refine wpAnyH_take (i := 15) (v := ?_) rfl (by kernel_rfl) (by kernel_rfl) (by kernel_rfl) (fun _ _ _ h => h) (Or.inl ⟨by rfl, ?_⟩) hS ?_
            rotate_left
            · intro wi hw
              go_simp
              try with_reducible rfl
            try simp only [Act.put, List.getElem_toArray, List.getElem_cons_succ, List.getElem_cons_zero, List.setIfInBounds_toArray, List.set_cons_zero, List.set_cons_succ]
            refine wpAnyH_take (i := 16) (v := ?_) rfl (by kernel_rfl) (by kernel_rfl) (by kernel_rfl) (fun _ _ _ h => h) (Or.inl ⟨by rfl, ?_⟩) hS ?_
            rotate_left
            · intro wi hw
              go_simp
              try with_reducible rfl
            try simp only [Act.put, List.getElem_toArray, List.getElem_cons_succ, List.getElem_cons_zero, List.setIfInBounds_toArray, List.set_cons_zero, List.set_cons_succ]
            refine wpAnyH_take (i := 17) (v := ?_) rfl (by kernel_rfl) (by kernel_rfl) (by kernel_rfl) (fun _ _ _ h => h) (Or.inl ⟨by rfl, ?_⟩) hS ?_
            rotate_left
            · intro wi hw
              obtain ⟨-, q0, q1, q2, q3⟩ := HP1.out.keep (HB2.out.trans (hw.out.mono HB2.out.size))
              go_simp
              try with_reducible rfl
            try simp only [Act.put, List.getElem_toArray, List.getElem_cons_succ, List.getElem_cons_zero, List.setIfInBounds_toArray, List.set_cons_zero, List.set_cons_succ]
            refine wpAnyH_take (i := 18) (v := ?_) rfl (by kernel_rfl) (by kernel_rfl) (by kernel_rfl) (fun _ _ _ h => h) (Or.inl ⟨by rfl, ?_⟩) hS ?_
            rotate_left
            · intro wi hw
              go_simp
              try with_reducible rfl
            try simp only [Act.put, List.getElem_toArray, List.getElem_cons_succ, List.getElem_cons_zero, List.setIfInBounds_toArray, List.set_cons_zero, List.set_cons_succ]
            refine wpAnyH_take (i := 19) (v := ?_) rfl (by kernel_rfl) (by kernel_rfl) (by kernel_rfl) (fun _ _ _ h => h) (Or.inl ⟨by rfl, ?_⟩) hS ?_
            rotate_left
            · intro wi hw
              go_simp
              try with_reducible rfl
            try simp only [Act.put, List.getElem_toArray, List.getElem_cons_succ, List.getElem_cons_zero, List.setIfInBounds_toArray, List.set_cons_zero, List.set_cons_succ]
            refine wpAnyH_take (i := 20) (v := ?_) rfl (by kernel_rfl) (by kernel_rfl) (by kernel_rfl) (fun _ _ _ h => h) (Or.inl ⟨by rfl, ?_⟩) hS ?_
            rotate_left
            · intro wi hw
              go_simp
              try with_reducible rfl
            try simp only [Act.put, List.getElem_toArray, List.getElem_cons_succ, List.getElem_cons_zero, List.setIfInBounds_toArray, List.set_cons_zero, List.set_cons_succ]
            refine wpAnyH_take (i := 21) (v := ?_) rfl (by kernel_rfl) (by kernel_rfl) (by kernel_rfl) (fun _ _ _ h => h) (Or.inl ⟨by rfl, ?_⟩) hS ?_
            rotate_left
            · intro wi hw
              go_simp
              try with_reducible rfl
            try simp only [Act.put, List.getElem_toArray, List.getElem_cons_succ, List.getElem_cons_zero, List.setIfInBounds_toArray, List.set_cons_zero, List.set_cons_succ]
            refine wpAnyH_take (i := 22) (v := ?_) rfl (by kernel_rfl) (by kernel_rfl) (by kernel_rfl) (fun _ _ _ h => h) (Or.inl ⟨by rfl, ?_⟩) hS ?_
            rotate_left
            · intro wi hw
              go_simp
              try with_reducible rfl
            try simp only [Act.put, List.getElem_toArray, List.getElem_cons_succ, List.getElem_cons_zero, List.setIfInBounds_toArray, List.set_cons_zero, List.set_cons_succ]
            refine wpAnyH_take (i := 23) (v := ?_) rfl (by kernel_rfl) (by kernel_rfl) (by kernel_rfl) (fun _ _ _ h => h) (Or.inl ⟨by rfl, ?_⟩) hS ?_
            rotate_left
            · intro wi hw
              obtain ⟨-, q0, q1, q2, q3⟩ := HP2.out.keep (HB2.out.trans (hw.out.mono HB2.out.size))
              go_simp
              try with_reducible rfl
            try simp only [Act.put, List.getElem_toArray, List.getElem_cons_succ, List.getElem_cons_zero, List.setIfInBounds_toArray, List.set_cons_zero, List.set_cons_succ]
            refine wpAnyH_take (i := 24) (v := ?_) rfl (by kernel_rfl) (by kernel_rfl) (by kernel_rfl) (fun _ _ _ h => h) (Or.inl ⟨by rfl, ?_⟩) hS ?_
            rotate_left
            · intro wi hw
              go_simp
              try with_reducible rfl
            try simp only [Act.put, List.getElem_toArray, List.getElem_cons_succ, List.getElem_cons_zero, List.setIfInBounds_toArray, List.set_cons_zero, List.set_cons_succ]
            refine wpAnyH_take (i := 25) (v := ?_) rfl (by kernel_rfl) (by kernel_rfl) (by kernel_rfl) (fun _ _ _ h => h) (Or.inl ⟨by rfl, ?_⟩) hS ?_
            rotate_left
            · intro wi hw
              go_simp
              try with_reducible rfl
            try simp only [Act.put, List.getElem_toArray, List.getElem_cons_succ, List.getElem_cons_zero, List.setIfInBounds_toArray, List.set_cons_zero, List.set_cons_succ]
            refine wpAnyH_done (by kernel_rfl) ?_ _
            have hfin := hb.out.trans ((HB2.out.trans (hS.out.mono HB2.out.size)).mono hb.out.size)
            clear hS
            go_wp2_with fail
            go_ret
            exact ⟨by rw [HE.out]; rfl, hfin⟩
          · have HN := Lib.hid (HNX.out fun h => k2 h.2)
            have d2 : ((d.k.seq : Int) == (e.k.seq : Int)) = false := by rw [beq_eq_false_iff_ne]; omega
            have d3 : (d.k.seq == e.k.seq) = false := by rw [beq_eq_false_iff_ne]; exact k2
            clear k1 k1' k2 HST HNX
            go_wp2_with fail
            refine hK.out _ _ HB2 (fun _ => ?_)
            clear hK K hS
            refine wpAnyH_other (S' := fun w' => Hid (Below W2.heap.size W2 w')) (fun w hw => Lib.hid (HB2.out.trans (hw.out.mono HB2.out.size))) _ _ _ _ ?_
            have hS : Hid (Below W2.heap.size W2 W2) := Lib.hid (Below.refl _ _)
            try simp only [Act.put, List.getElem_toArray, List.getElem_cons_succ, List.getElem_cons_zero, List.setIfInBounds_toArray, List.set_cons_zero, List.set_cons_succ]
            refine wpAnyH_take (i := 10) (v := ?_) rfl (by kernel_rfl) (by kernel_rfl) (by kernel_rfl) (fun _ _ _ h => h) (Or.inl ⟨by rfl, ?_⟩) hS ?_
            rotate_left
            · intro wi hw
              go_simp
              try with_reducible rfl
            try simp only [Act.put, List.getElem_toArray, List.getElem_cons_succ, List.getElem_cons_zero, List.setIfInBounds_toArray, List.set_cons_zero, List.set_cons_succ]
            refine wpAnyH_take (i := 11) (v := ?_) rfl (by kernel_rfl) (by kernel_rfl) (by kernel_rfl) (fun _ _ _ h => h) (Or.inl ⟨by rfl, ?_⟩) hS ?_
            rotate_left
            · intro wi hw
              go_simp
              try with_reducible rfl
            try simp only [Act.put, List.getElem_toArray, List.getElem_cons_succ, List.getElem_cons_zero, List.setIfInBounds_toArray, List.set_cons_zero, List.set_cons_succ]
            refine wpAnyH_take (i := 12) (v := ?_) rfl (by kernel_rfl) (by kernel_rfl) (by kernel_rfl) (fun _ _ _ h => h) (Or.inl ⟨by rfl, ?_⟩) hS ?_
            rotate_left
            · intro wi hw
              go_simp
              try with_reducible rfl
            try simp only [Act.put, List.getElem_toArray, List.getElem_cons_succ, List.getElem_cons_zero, List.setIfInBounds_toArray, List.set_cons_zero, List.set_cons_succ]
            refine wpAnyH_take (i := 13) (v := ?_) rfl (by kernel_rfl) (by kernel_rfl) (by kernel_rfl) (fun _ _ _ h => h) (Or.inl ⟨by rfl, ?_⟩) hS ?_
            rotate_left
            · intro wi hw
              have em : (j : Int) + 1 - 1 = (j : Int) := by omega
              have ew : IntKind.i64.wrap (j : Int) = (j : Int) := IntWalk.i64_in _ (by omega)
              go_simp
              try with_reducible rfl
            try simp only [Act.put, List.getElem_toArray, List.getElem_cons_succ, List.getElem_cons_zero, List.setIfInBounds_toArray, List.set_cons_zero, List.set_cons_succ]
            refine wpAnyH_take (i := 14) (v := ?_) rfl (by kernel_rfl) (by kernel_rfl) (by kernel_rfl) (fun _ _ _ h => h) (Or.inl ⟨by rfl, ?_⟩) hS ?_
            rotate_left
            · intro wi hw
              go_simp
              try with_reducible rfl
            try simp only [Act.put, List.getElem_toArray, List.getElem_cons_succ, List.getElem_cons_zero, List.setIfInBounds_toArray, List.set_cons_zero, List.set_cons_succ]
            refine wpAnyH_take (i := 15) (v := ?_) rfl (by kernel_rfl) (by kernel_rfl) (by kernel_rfl) (fun _ _ _ h => h) (Or.inl ⟨by rfl, ?_⟩) hS ?_
            rotate_left
            · intro wi hw
              go_simp
              try with_reducible rfl
            try simp only [Act.put, List.getElem_toArray, List.getElem_cons_succ, List.getElem_cons_zero, List.setIfInBounds_toArray, List.set_cons_zero, List.set_cons_succ]
            refine wpAnyH_take (i := 16) (v := ?_) rfl (by kernel_rfl) (by kernel_rfl) (by kernel_rfl) (fun _ _ _ h => h) (Or.inl ⟨by rfl, ?_⟩) hS ?_
            rotate_left
            · intro wi hw
              go_simp
              try with_reducible rfl
            try simp only [Act.put, List.getElem_toArray, List.getElem_cons_succ, List.getElem_cons_zero, List.setIfInBounds_toArray, List.set_cons_zero, List.set_cons_succ]
            refine wpAnyH_take (i := 17) (v := ?_) rfl (by kernel_rfl) (by kernel_rfl) (by kernel_rfl) (fun _ _ _ h => h) (Or.inl ⟨by rfl, ?_⟩) hS ?_
            rotate_left
            · intro wi hw
              obtain ⟨-, q0, q1, q2, q3⟩ := HP1.out.keep (HB2.out.trans (hw.out.mono HB2.out.size))
              go_simp
              try with_reducible rfl
            try simp only [Act.put, List.getElem_toArray, List.getElem_cons_succ, List.getElem_cons_zero, List.setIfInBounds_toArray, List.set_cons_zero, List.set_cons_succ]
            refine wpAnyH_take (i := 18) (v := ?_) rfl (by kernel_rfl) (by kernel_rfl) (by kernel_rfl) (fun _ _ _ h => h) (Or.inl ⟨by rfl, ?_⟩) hS ?_
            rotate_left
            · intro wi hw
              go_simp
              try with_reducible rfl
            try simp only [Act.put, List.getElem_toArray, List.getElem_cons_succ, List.getElem_cons_zero, List.setIfInBounds_toArray, List.set_cons_zero, List.set_cons_succ]
            refine wpAnyH_take (i := 19) (v := ?_) rfl (by kernel_rfl) (by kernel_rfl) (by kernel_rfl) (fun _ _ _ h => h) (Or.inl ⟨by rfl, ?_⟩) hS ?_
            rotate_left
            · intro wi hw
              go_simp
              try with_reducible rfl
            try simp only [Act.put, List.getElem_toArray, List.getElem_cons_succ, List.getElem_cons_zero, List.setIfInBounds_toArray, List.set_cons_zero, List.set_cons_succ]
            refine wpAnyH_take (i := 20) (v := ?_) rfl (by kernel_rfl) (by kernel_rfl) (by kernel_rfl) (fun _ _ _ h => h) (Or.inl ⟨by rfl, ?_⟩) hS ?_
            rotate_left
            · intro wi hw
              go_simp
              try with_reducible rfl
            try simp only [Act.put, List.getElem_toArray, List.getElem_cons_succ, List.getElem_cons_zero, List.setIfInBounds_toArray, List.set_cons_zero, List.set_cons_succ]
            refine wpAnyH_take (i := 21) (v := ?_) rfl (by kernel_rfl) (by kernel_rfl) (by kernel_rfl) (fun _ _ _ h => h) (Or.inl ⟨by rfl, ?_⟩) hS ?_
            rotate_left
            · intro wi hw
              go_simp
              try with_reducible rfl
            try simp only [Act.put, List.getElem_toArray, List.getElem_cons_succ, List.getElem_cons_zero, List.setIfInBounds_toArray, List.set_cons_zero, List.set_cons_succ]
            refine wpAnyH_take (i := 22) (v := ?_) rfl (by kernel_rfl) (by kernel_rfl) (by kernel_rfl) (fun _ _ _ h => h) (Or.inl ⟨by rfl, ?_⟩) hS ?_
            rotate_left
            · intro wi hw
              go_simp
              try with_reducible rfl
            try simp only [Act.put, List.getElem_toArray, List.getElem_cons_succ, List.getElem_cons_zero, List.setIfInBounds_toArray, List.set_cons_zero, List.set_cons_succ]
            refine wpAnyH_take (i := 23) (v := ?_) rfl (by kernel_rfl) (by kernel_rfl) (by kernel_rfl) (fun _ _ _ h => h) (Or.inl ⟨by rfl, ?_⟩) hS ?_
            rotate_left
            · intro wi hw
              obtain ⟨-, q0, q1, q2, q3⟩ := HP2.out.keep (HB2.out.trans (hw.out.mono HB2.out.size))
              go_simp
              try with_reducible rfl
            try simp only [Act.put, List.getElem_toArray, List.getElem_cons_succ, List.getElem_cons_zero, List.setIfInBounds_toArray, List.set_cons_zero, List.set_cons_succ]
            refine wpAnyH_take (i := 24) (v := ?_) rfl (by kernel_rfl) (by kernel_rfl) (by kernel_rfl) (fun _ _ _ h => h) (Or.inl ⟨by rfl, ?_⟩) hS ?_
            rotate_left
            · intro wi hw
              go_simp
              try with_reducible rfl
            try simp only [Act.put, List.getElem_toArray, List.getElem_cons_succ, List.getElem_cons_zero, List.setIfInBounds_toArray, List.set_cons_zero, List.set_cons_succ]
            refine wpAnyH_take (i := 25) (v := ?_) rfl (by kernel_rfl) (by kernel_rfl) (by kernel_rfl) (fun _ _ _ h => h) (Or.inl ⟨by rfl, ?_⟩) hS ?_
            rotate_left
            · intro wi hw
              go_simp
              try with_reducible rfl
            try simp only [Act.put, List.getElem_toArray, List.getElem_cons_succ, List.getElem_cons_zero, List.setIfInBounds_toArray, List.set_cons_zero, List.set_cons_succ]
            refine wpAnyH_done (by kernel_rfl) ?_ _
            have hfin := Lib.hid (hb.out.trans ((HB2.out.trans (hS.out.mono HB2.out.size)).mono hb.out.size))
            clear hS
            go_wp2_with fail
            go_roundw
            case rel => exact ⟨j + 1, .inl hlt, by go_num, HN, hfin⟩
            case measure => simp [intOf]; omega
        · have k1' : decide (d.k.key = e.k.key) = false := decide_eq_false k1
          have HN := Lib.hid (HNX.out fun h => k1 h.1)
          rw [k1']
          clear k1 k1' HST HNX
          go_wp2_with fail
          refine hK.out _ _ HB2 (fun _ => ?_)
          clear hK K hS
          refine wpAnyH_other (S' := fun w' => Hid (Below W2.heap.size W2 w')) (fun w hw => Lib.hid (HB2.out.trans (hw.out.mono HB2.out.size))) _ _ _ _ ?_
          have hS : Hid (Below W2.heap.size W2 W2) := Lib.hid (Below.refl _ _)
          try simp only [Act.put, List.getElem_toArray, List.getElem_cons_succ, List.getElem_cons_zero, List.setIfInBounds_toArray, List.set_cons_zero, List.set_cons_succ]
          refine wpAnyH_take (i := 10) (v := ?_) rfl (by kernel_rfl) (by kernel_rfl) (by kernel_rfl) (fun _ _ _ h => h) (Or.inl ⟨by rfl, ?_⟩) hS ?_
          rotate_left
          · intro wi hw
            go_simp
            try with_reducible rfl
          try simp only [Act.put, List.getElem_toArray, List.getElem_cons_succ, List.getElem_cons_zero, List.setIfInBounds_toArray, List.set_cons_zero, List.set_cons_succ]
          refine wpAnyH_take (i := 11) (v := undef) rfl (by kernel_rfl) (by kernel_rfl) (by kernel_rfl) (fun _ _ _ h => h) (Or.inr ⟨by rfl, rfl⟩) hS ?_
          try simp only [Act.put, List.getElem_toArray, List.getElem_cons_succ, List.getElem_cons_zero, List.setIfInBounds_toArray, List.set_cons_zero, List.set_cons_succ]
          refine wpAnyH_take (i := 12) (v := undef) rfl (by kernel_rfl) (by kernel_rfl) (by kernel_rfl) (fun _ _ _ h => h) (Or.inr ⟨by rfl, rfl⟩) hS ?_
          try simp only [Act.put, List.getElem_toArray, List.getElem_cons_succ, List.getElem_cons_zero, List.setIfInBounds_toArray, List.set_cons_zero, List.set_cons_succ]
          refine wpAnyH_take (i := 13) (v := undef) rfl (by kernel_rfl) (by kernel_rfl) (by kernel_rfl) (fun _ _ _ h => h) (Or.inr ⟨by rfl, rfl⟩) hS ?_
          try simp only [Act.put, List.getElem_toArray, List.getElem_cons_succ, List.getElem_cons_zero, List.setIfInBounds_toArray, List.set_cons_zero, List.set_cons_succ]
          refine wpAnyH_take (i := 14) (v := undef) rfl (by kernel_rfl) (by kernel_rfl) (by kernel_rfl) (fun _ _ _ h => h) (Or.inr ⟨by rfl, rfl⟩) hS ?_
          try simp only [Act.put, List.getElem_toArray, List.getElem_cons_succ, List.getElem_cons_zero, List.setIfInBounds_toArray, List.set_cons_zero, List.set_cons_succ]
          refine wpAnyH_take (i := 15) (v := undef) rfl (by kernel_rfl) (by kernel_rfl) (by kernel_rfl) (fun _ _ _ h => h) (Or.inr ⟨by rfl, rfl⟩) hS ?_
          try simp only [Act.put, List.getElem_toArray, List.getElem_cons_succ, List.getElem_cons_zero, List.setIfInBounds_toArray, List.set_cons_zero, List.set_cons_succ]
          refine wpAnyH_take (i := 16) (v := undef) rfl (by kernel_rfl) (by kernel_rfl) (by kernel_rfl) (fun _ _ _ h => h) (Or.inr ⟨by rfl, rfl⟩) hS ?_
          try simp only [Act.put, List.getElem_toArray, List.getElem_cons_succ, List.getElem_cons_zero, List.setIfInBounds_toArray, List.set_cons_zero, List.set_cons_succ]
          refine wpAnyH_take (i := 17) (v := undef) rfl (by kernel_rfl) (by kernel_rfl) (by kernel_rfl) (fun _ _ _ h => h) (Or.inr ⟨by rfl, rfl⟩) hS ?_
          try simp only [Act.put, List.getElem_toArray, List.getElem_cons_succ, List.getElem_cons_zero, List.setIfInBounds_toArray, List.set_cons_zero, List.set_cons_succ]
          refine wpAnyH_take (i := 18) (v := undef) rfl (by kernel_rfl) (by kernel_rfl) (by kernel_rfl) (fun _ _ _ h => h) (Or.inr ⟨by rfl, rfl⟩) hS ?_
          try simp only [Act.put, List.getElem_toArray, List.getElem_cons_succ, List.getElem_cons_zero, List.setIfInBounds_toArray, List.set_cons_zero, List.set_cons_succ]
          refine wpAnyH_take (i := 19) (v := undef) rfl (by kernel_rfl) (by kernel_rfl) (by kernel_rfl) (fun _ _ _ h => h) (Or.inr ⟨by rfl, rfl⟩) hS ?_
          try simp only [Act.put, List.getElem_toArray, List.getElem_cons_succ, List.getElem_cons_zero, List.setIfInBounds_toArray, List.set_cons_zero, List.set_cons_succ]
          refine wpAnyH_take (i := 20) (v := undef) rfl (by kernel_rfl) (by kernel_rfl) (by kernel_rfl) (fun _ _ _ h => h) (Or.inr ⟨by rfl, rfl⟩) hS ?_
          try simp only [Act.put, List.getElem_toArray, List.getElem_cons_succ, List.getElem_cons_zero, List.setIfInBounds_toArray, List.set_cons_zero, List.set_cons_succ]
          refine wpAnyH_take (i := 21) (v := undef) rfl (by kernel_rfl) (by kernel_rfl) (by kernel_rfl) (fun _ _ _ h => h) (Or.inr ⟨by rfl, rfl⟩) hS ?_
          try simp only [Act.put, List.getElem_toArray, List.getElem_cons_succ, List.getElem_cons_zero, List.setIfInBounds_toArray, List.set_cons_zero, List.set_cons_succ]
          refine wpAnyH_take (i := 22) (v := undef) rfl (by kernel_rfl) (by kernel_rfl) (by kernel_rfl) (fun _ _ _ h => h) (Or.inr ⟨by rfl, rfl⟩) hS ?_
          try simp only [Act.put, List.getElem_toArray, List.getElem_cons_succ, List.getElem_cons_zero, List.setIfInBounds_toArray, List.set_cons_zero, List.set_cons_succ]
          refine wpAnyH_take (i := 23) (v := undef) rfl (by kernel_rfl) (by kernel_rfl) (by kernel_rfl) (fun _ _ _ h => h) (Or.inr ⟨by rfl, rfl⟩) hS ?_
          try simp only [Act.put, List.getElem_toArray, List.getElem_cons_succ, List.getElem_cons_zero, List.setIfInBounds_toArray, List.set_cons_zero, List.set_cons_succ]
          refine wpAnyH_take (i := 24) (v := undef) rfl (by kernel_rfl) (by kernel_rfl) (by kernel_rfl) (fun _ _ _ h => h) (Or.inr ⟨by rfl, rfl⟩) hS ?_
          try simp only [Act.put, List.getElem_toArray, List.getElem_cons_succ, List.getElem_cons_zero, List.setIfInBounds_toArray, List.set_cons_zero, List.set_cons_succ]
          refine wpAnyH_take (i := 25) (v := ?_) rfl (by kernel_rfl) (by kernel_rfl) (by kernel_rfl) (fun _ _ _ h => h) (Or.inl ⟨by rfl, ?_⟩) hS ?_
          rotate_left
          · intro wi hw
            go_simp
            try with_reducible rfl
          try simp only [Act.put, List.getElem_toArray, List.getElem_cons_succ, List.getElem_cons_zero, List.setIfInBounds_toArray, List.set_cons_zero, List.set_cons_succ]
          refine wpAnyH_done (by kernel_rfl) ?_ _
          have hfin := Lib.hid (hb.out.trans ((HB2.out.trans (hS.out.mono HB2.out.size)).mono hb.out.size))
          clear hS
          go_wp2_with fail
          go_roundw
          case rel => exact ⟨j + 1, .inl hlt, by go_num, HN, hfin⟩
          case measure => simp [intOf]; omega
      · have dl : decide ((j : Int) + 1 < (L.length : Int)) = false := decide_eq_false (by omega)
        have HF : Hid (twins (L.map D.t) = false) := Lib.hid (by
          rw [← Bool.not_eq_true, twins_iff]
          rintro ⟨i, a, b, ha, hb', hk⟩
          have := (List.getElem?_eq_some_iff.1 hb').1
          rw [List.length_map] at this
          exact hno.out i a b (by omega) ha hb' hk)
        by_cases h0 : L.length = 0
        · have HE : Hid (mayT (L.map D.t) = 1) := Lib.hid (by unfold mayT; rw [if_neg (by rw [HM.out]; decide), if_neg (by rw [HF.out]; decide), if_pos (by rw [List.length_eq_zero_iff.1 h0]; rfl)])
          have d0 : ((L.length : Int) == 0) = true := by rw [beq_iff_eq]; omega
          clear h0
          go_wp2_with fail
          go_ret
          exact ⟨by rw [HE.out]; rfl, hb.out⟩
        · have d0 : ((L.length : Int) == 0) = false := by rw [beq_eq_false_iff_ne]; omega
          have HE : Hid (mayT (L.map D.t) = 0) := Lib.hid (by unfold mayT; rw [if_neg (by rw [HM.out]; decide), if_neg (by rw [HF.out]; decide), if_neg (fun h => h0 (by have := congrArg List.length h; rw [List.length_map] at this; exact this))])
          clear h0
          go_wp2_with fail
          go_ret
          exact ⟨by rw [HE.out]; rfl, hb.out⟩
  · have d1 : ((may (L.map D.t) : Int) != 0) = true := by rw [bne_iff_ne]; omega
    have HE := Lib.hid (mayT_may hmay)
    clear hmay
    generalize may (L.map D.t) = mm at *
    go_enter Try.func46, Try.ntmps46
    go_wp2_with fail
    refine HCK.out.mono ?_
    rintro e W1 ⟨rfl, hb1⟩
    have HB1 := Lib.hid hb1
    clear hb1 HCK
    go_wp2_with fail
    go_ret
    exact ⟨by rw [HE.out]; rfl, HB1.out⟩
end Go.Proofs.Ytobjiamdljjkjaa.Tb

/- Package table: userKeys. -/
namespace Go.Proofs.Ytobjiamdljjkjaa.Tb
set_option linter.unusedVariables false
set_option linter.unusedSimpArgs false
open Go.RowKit Lift Ik Sk Vn Bk Bl Sq
set_option maxRecDepth 100000 in
set_option maxHeartbeats 1600000 in
theorem ouserst_any (A : Option Addr) (c : Nat) (L : List D) (w : World) (h1 : Ents w (· < w.heap.size) A c L) (hn : L.length ≤ 1000000) :
    Calls Try.prog 49 #[.slice A L.length c] w (Users w (users none (L.map D.t))) := by
  have H1 := Lib.hid h1
  have hc1 := h1.len
  have hm1 := h1.cap
  unfold maxLen at hm1
  clear h1
  go_enter Try.func49, Try.ntmps49
  go_wp2_with fail
  go_loopw [3, 8] (fun v i wr => ∃ (j : Nat) (Es : List E), j ≤ L.length ∧ i = .int .i64 (j : Int) ∧ Hid (wr.ownsRow w.heap.size 25 1 v Es.length (Es.map E.v)) ∧ Es.length ≤ j ∧ Hid (Es.map E.bs = users none ((L.map D.t).take j)) ∧
    Hid (∀ e, e ∈ Es → e.Ok w w.heap.size) ∧ Hid (Below w.heap.size w wr)) (fun _ i _ => L.length + 1 - (intOf i).toNat)
  case atStart => exact ⟨0, [], Nat.zero_le _, rfl, Lib.hid (World.ownsRow_nil _ _ _ _), Nat.le_refl _, Lib.hid rfl, Lib.hid (fun e he => by cases he), Lib.hid (Below.refl _ _)⟩
  case round =>
    obtain ⟨j, Es, hj, rfl, hown, hel, hus, hoks, hb⟩ := hrel
    by_cases hlt : j < L.length
    · obtain ⟨d, hd⟩ : ∃ d, L[j]? = some d := ⟨_, List.getElem?_eq_getElem hlt⟩
      have hE := H1.out.next hb.out
      obtain ⟨ad, p, hA, hp, hq⟩ := place4 hE hd
      subst hA
      have okd0 := H1.out.ok d (List.mem_of_getElem? hd)
      have HNX := Lib.hid (users_take (L.map D.t) j d.t none (by rw [List.getElem?_map, hd]; rfl))
      have HOK : Hid (∀ e, e ∈ Es ++ [(⟨d.ka, d.kc, d.k.key⟩ : E)] → e.Ok w w.heap.size) := Lib.hid fun e he => by
        rcases List.mem_append.1 he with h | h
        · exact hoks.out e h
        · simp at h
          subst h
          exact ⟨okd0.kl.lies fun k hk => hk, okd0.kc, okd0.km, okd0.ok.1⟩
      have hld := hq.load
      obtain ⟨-, q0, q1, q2, q3⟩ := hq
      obtain ⟨W0, hW0⟩ : ∃ W0 : World, W0 = wr.alloc (ebox d) := ⟨_, rfl⟩
      have hbx0 : Below wr.heap.size wr W0 := by rw [hW0]; exact below_box wr d
      have hbx : At4 W0 ⟨wr.heap.size, 0, none⟩ d := by
        have hx := Bx.new wr d
        obtain ⟨x0, x1, x2, x3, -⟩ := hx.facts
        rw [hW0]
        exact ⟨by simp, x0, x1, x2, x3⟩
      have HBX := Lib.hid hbx
      have HBX0 := Lib.hid hbx0
      have HE0 := Lib.hid (hE.next hbx0)
      have HD := Lib.hid hd
      clear hd okd0 hbx hbx0 hE
      go_upto_region 5 with fail
      rw [← hW0]
      clear hW0 q0 q1 q2 q3 hld hp
      by_cases h0 : j = 0
      · subst h0
        have HN : Hid ((Es ++ [(⟨d.ka, d.kc, d.k.key⟩ : E)]).map E.bs = users none ((L.map D.t).take (0 + 1))) := Lib.hid (by
          rw [HNX.out, List.map_append, hus.out]; simp; rfl)
        clear HNX
        refine wp_region_held_drew (S := fun w' => Hid (Below W0.heap.size W0 w')) (by kernel_rfl) (Lib.hid (Below.refl _ _).drew) (fun hS => ?_)
        refine wpAnyH_take (i := 0) (v := ?_) rfl (by kernel_rfl) (by kernel_rfl) (by kernel_rfl) (fun _ _ _ h => h) (Or.inl ⟨by rfl, ?_⟩) hS ?_
        rotate_left
        · intro wi hw
          go_simp
          try with_reducible rfl
        try simp only [Act.put, List.getElem_toArray, List.getElem_cons_succ, List.getElem_cons_zero, List.setIfInBounds_toArray, List.set_cons_zero, List.set_cons_succ]
        refine wpAnyH_take (i := 1) (v := ?_) rfl (by kernel_rfl) (by kernel_rfl) (by kernel_rfl) (fun _ _ _ h => h) (Or.inl ⟨by rfl, ?_⟩) hS ?_
        rotate_left
        · intro wi hw
          go_simp
          try with_reducible rfl
        try simp only [Act.put, List.getElem_toArray, List.getElem_cons_succ, List.getElem_cons_zero, List.setIfInBounds_toArray, List.set_cons_zero, List.set_cons_succ]
        refine wpAnyH_take (i := 2) (v := ?_) rfl (by kernel_rfl) (by kernel_rfl) (by kernel_rfl) (fun _ _ _ h => h) (Or.inl ⟨by rfl, ?_⟩) hS ?_
        rotate_left
        · intro wi hw
          go_simp
          try with_reducible rfl
        try simp only [Act.put, List.getElem_toArray, List.getElem_cons_succ, List.getElem_cons_zero, List.setIfInBounds_toArray, List.set_cons_zero, List.set_cons_succ]
        refine wpAnyH_take (i := 3) (v := undef) rfl (by kernel_rfl) (by kernel_rfl) (by kernel_rfl) (fun _ _ _ h => h) (Or.inr ⟨by rfl, rfl⟩) hS ?_
        try simp only [Act.put, List.getElem_toArray, List.getElem_cons_succ, List.getElem_cons_zero, List.setIfInBounds_toArray, List.set_cons_zero, List.set_cons_succ]
        refine wpAnyH_take (i := 4) (v := undef) rfl (by kernel_rfl) (by kernel_rfl) (by kernel_rfl) (fun _ _ _ h => h) (Or.inr ⟨by rfl, rfl⟩) hS ?_
        try simp only [Act.put, List.getElem_toArray, List.getElem_cons_succ, List.getElem_cons_zero, List.setIfInBounds_toArray, List.set_cons_zero, List.set_cons_succ]
        refine wpAnyH_take (i := 5) (v := undef) rfl (by kernel_rfl) (by kernel_rfl) (by kernel_rfl) (fun _ _ _ h => h) (Or.inr ⟨by rfl, rfl⟩) hS ?_
        try simp only [Act.put, List.getElem_toArray, List.getElem_cons_succ, List.getElem_cons_zero, List.setIfInBounds_toArray, List.set_cons_zero, List.set_cons_succ]
        refine wpAnyH_take (i := 6) (v := undef) rfl (by kernel_rfl) (by kernel_rfl) (by kernel_rfl) (fun _ _ _ h => h) (Or.inr ⟨by rfl, rfl⟩) hS ?_
        try simp only [Act.put, List.getElem_toArray, List.getElem_cons_succ, List.getElem_cons_zero, List.setIfInBounds_toArray, List.set_cons_zero, List.set_cons_succ]
        refine wpAnyH_take (i := 7) (v := undef) rfl (by kernel_rfl) (by kernel_rfl) (by kernel_rfl) (fun _ _ _ h => h) (Or.inr ⟨by rfl, rfl⟩) hS ?_
        try simp only [Act.put, List.getElem_toArray, List.getElem_cons_succ, List.getElem_cons_zero, List.setIfInBounds_toArray, List.set_cons_zero, List.set_cons_succ]
        refine wpAnyH_take (i := 8) (v := undef) rfl (by kernel_rfl) (by kernel_rfl) (by kernel_rfl) (fun _ _ _ h => h) (Or.inr ⟨by rfl, rfl⟩) hS ?_
        try simp only [Act.put, List.getElem_toArray, List.getElem_cons_succ, List.getElem_cons_zero, List.setIfInBounds_toArray, List.set_cons_zero, List.set_cons_succ]
        refine wpAnyH_take (i := 9) (v := undef) rfl (by kernel_rfl) (by kernel_rfl) (by kernel_rfl) (fun _ _ _ h => h) (Or.inr ⟨by rfl, rfl⟩) hS ?_
        try simp only [Act.put, List.getElem_toArray, List.getElem_cons_succ, List.getElem_cons_zero, List.setIfInBounds_toArray, List.set_cons_zero, List.set_cons_succ]
        refine wpAnyH_take (i := 10) (v := undef) rfl (by kernel_rfl) (by kernel_rfl) (by kernel_rfl) (fun _ _ _ h => h) (Or.inr ⟨by rfl, rfl⟩) hS ?_
        try simp only [Act.put, List.getElem_toArray, List.getElem_cons_succ, List.getElem_cons_zero, List.setIfInBounds_toArray, List.set_cons_zero, List.set_cons_succ]
        refine wpAnyH_take (i := 11) (v := ?_) rfl (by kernel_rfl) (by kernel_rfl) (by kernel_rfl) (fun _ _ _ h => h) (Or.inl ⟨by rfl, ?_⟩) hS ?_
        rotate_left
        · intro wi hw
          go_simp
          try with_reducible rfl
        try simp only [Act.put, List.getElem_toArray, List.getElem_cons_succ, List.getElem_cons_zero, List.setIfInBounds_toArray, List.set_cons_zero, List.set_cons_succ]
        refine wpAnyH_done (by kernel_rfl) ?_ _
        have HB9 : Hid (Below wr.heap.size wr W0.drew) := Lib.hid (HBX0.out.trans (hS.out.mono HBX0.out.size))
        have HBX9 : Hid (Below W0.heap.size W0 W0.drew) := Lib.hid hS.out
        clear hS
        generalize W0.drew = W9 at HB9 HBX9 ⊢
        have hbw := hb.out.trans (HB9.out.mono hb.out.size)
        have HBW := Lib.hid hbw
        have hownW := own_later hown.out HB9.out
        obtain ⟨-, x0, x1, x2, x3⟩ := HBX.out.keep HBX9.out
        obtain ⟨v', w1, hrun, hown1, hb1, hs1⟩ := run_append_one (P := Try.prog) (u := .slice d.ka d.k.key.length d.kc) 85 85 25 (.slice none 0 0) 24 Try.underlying85 (by kernel_rfl) rfl rfl hownW (by unfold maxLen; omega) (by omega) HBW.out.size
        have HR := Lib.hid hrun
        have hown2 : w1.ownsRow w.heap.size 25 1 v' (Es ++ [(⟨d.ka, d.kc, d.k.key⟩ : E)]).length ((Es ++ [(⟨d.ka, d.kc, d.k.key⟩ : E)]).map E.v) := by
          rw [List.map_append, List.length_append]; exact hown1
        have HO := Lib.hid hown2
        have HB1 := Lib.hid (HBW.out.trans hb1)
        clear hrun hown1 hown2 hb1 hs1 hownW hbw
        go_wp2_with (at_builtin; refine wpList_append_run rfl _ _ 85 rfl rfl rfl HR.out ?_)
        go_roundw
        case rel => exact ⟨0 + 1, Es ++ [(⟨d.ka, d.kc, d.k.key⟩ : E)], Nat.succ_le_of_lt hlt, by go_num, HO, by rw [List.length_append, List.length_singleton]; omega, HN, HOK, HB1⟩
        case measure => simp [intOf] <;> omega
      · obtain ⟨m, rfl⟩ : ∃ m, j = m + 1 := ⟨j - 1, by omega⟩
        obtain ⟨e, he⟩ : ∃ e, L[m]? = some e := ⟨_, List.getElem?_eq_getElem (by omega)⟩
        obtain ⟨ad3, p3, hA3, hp3, hq3⟩ := place4 HE0.out he
        injection hA3 with hA3
        subst hA3
        have HP1 := Lib.hid hq3
        have em : ((m + 1 : Nat) : Int) - 1 = (m : Int) := by omega
        have d0 : (((m + 1 : Nat) : Int) == 0) = false := by rw [beq_eq_false_iff_ne]; omega
        have d0' : ((m : Int) + 1 == 0) = false := by rw [beq_eq_false_iff_ne]; omega
        have d0'' : (m + 1 == 0) = false := by rw [beq_eq_false_iff_ne]; omega
        have hml : m < L.length := by omega
        have hnx := HNX.out
        rw [if_neg h0, Nat.add_sub_cancel, List.getElem?_map, he] at hnx
        have HNY := Lib.hid hnx
        have HSM := Lib.hid (fun (W : World) (hbw : Below W0.heap.size W0 W) => osamek_any e d W ((HE0.out.next hbw).ok e (List.mem_of_getElem? he)) ((HE0.out.next hbw).ok d (List.mem_of_getElem? HD.out)))
        clear hnx HNX hq3 he
        refine wp_region_held_drew (S := fun w' => Hid (Below W0.heap.size W0 w')) (by kernel_rfl) (Lib.hid (Below.refl _ _).drew) (fun hS => ?_)
        refine wpAnyH_take (i := 0) (v := ?_) rfl (by kernel_rfl) (by kernel_rfl) (by kernel_rfl) (fun _ _ _ h => h) (Or.inl ⟨by rfl, ?_⟩) hS ?_
        rotate_left
        · intro wi hw
          go_simp
          try with_reducible rfl
        try simp only [Act.put, List.getElem_toArray, List.getElem_cons_succ, List.getElem_cons_zero, List.setIfInBounds_toArray, List.set_cons_zero, List.set_cons_succ]
        refine wpAnyH_take (i := 1) (v := ?_) rfl (by kernel_rfl) (by kernel_rfl) (by kernel_rfl) (fun _ _ _ h => h) (Or.inl ⟨by rfl, ?_⟩) hS ?_
        rotate_left
        · intro wi hw
          go_simp
          try with_reducible rfl
        try simp only [Act.put, List.getElem_toArray, List.getElem_cons_succ, List.getElem_cons_zero, List.setIfInBounds_toArray, List.set_cons_zero, List.set_cons_succ]
        refine wpAnyH_take (i := 2) (v := ?_) rfl (by kernel_rfl) (by kernel_rfl) (by kernel_rfl) (fun _ _ _ h => h) (Or.inl ⟨by rfl, ?_⟩) hS ?_
        rotate_left
        · intro wi hw
          go_simp
          try with_reducible rfl
        try simp only [Act.put, List.getElem_toArray, List.getElem_cons_succ, List.getElem_cons_zero, List.setIfInBounds_toArray, List.set_cons_zero, List.set_cons_succ]
        refine wpAnyH_take (i := 3) (v := ?_) rfl (by kernel_rfl) (by kernel_rfl) (by kernel_rfl) (fun _ _ _ h => h) (Or.inl ⟨by rfl, ?_⟩) hS ?_
        rotate_left
        · intro wi hw
          go_simp
          try with_reducible rfl
        try simp only [Act.put, List.getElem_toArray, List.getElem_cons_succ, List.getElem_cons_zero, List.setIfInBounds_toArray, List.set_cons_zero, List.set_cons_succ]
        refine wpAnyH_take (i := 4) (v := ?_) rfl (by kernel_rfl) (by kernel_rfl) (by kernel_rfl) (fun _ _ _ h => h) (Or.inl ⟨by rfl, ?_⟩) hS ?_
        rotate_left
        · intro wi hw
          go_simp
          try with_reducible rfl
        try simp only [Act.put, List.getElem_toArray, List.getElem_cons_succ, List.getElem_cons_zero, List.setIfInBounds_toArray, List.set_cons_zero, List.set_cons_succ]
        refine wpAnyH_take (i := 5) (v := ?_) rfl (by kernel_rfl) (by kernel_rfl) (by kernel_rfl) (fun _ _ _ h => h) (Or.inl ⟨by rfl, ?_⟩) hS ?_
        rotate_left
        · intro wi hw
          have em : ((m + 1 : Nat) : Int) - 1 = (m : Int) := by omega
          have em2 : (m : Int) + 1 - 1 = (m : Int) := by omega
          have ew : IntKind.i64.wrap (m : Int) = (m : Int) := IntWalk.i64_in _ (by omega)
          go_simp
          try with_reducible rfl
        try simp only [Act.put, List.getElem_toArray, List.getElem_cons_succ, List.getElem_cons_zero, List.setIfInBounds_toArray, List.set_cons_zero, List.set_cons_succ]
        refine wpAnyH_take (i := 6) (v := ?_) rfl (by kernel_rfl) (by kernel_rfl) (by kernel_rfl) (fun _ _ _ h => h) (Or.inl ⟨by rfl, ?_⟩) hS ?_
        rotate_left
        · intro wi hw
          go_simp
          try with_reducible rfl
        try simp only [Act.put, List.getElem_toArray, List.getElem_cons_succ, List.getElem_cons_zero, List.setIfInBounds_toArray, List.set_cons_zero, List.set_cons_succ]
        refine wpAnyH_take (i := 7) (v := ?_) rfl (by kernel_rfl) (by kernel_rfl) (by kernel_rfl) (fun _ _ _ h => h) (Or.inl ⟨by rfl, ?_⟩) hS ?_
        rotate_left
        · intro wi hw
          have hld := (HP1.out.keep hw.out).load
          obtain ⟨-, q0, q1, q2, q3⟩ := HP1.out.keep hw.out
          go_simp
          try with_reducible rfl
        try simp only [Act.put, List.getElem_toArray, List.getElem_cons_succ, List.getElem_cons_zero, List.setIfInBounds_toArray, List.set_cons_zero, List.set_cons_succ]
        refine wpAnyH_take (i := 8) (v := ?_) rfl (by kernel_rfl) (by kernel_rfl) (by kernel_rfl) (fun _ _ _ h => h) (Or.inl ⟨by rfl, ?_⟩) hS ?_
        rotate_left
        · intro wi hw
          have hlx := (HBX.out.keep hw.out).load
          obtain ⟨-, x0, x1, x2, x3⟩ := HBX.out.keep hw.out
          go_simp
          try with_reducible rfl
        try simp only [Act.put, List.getElem_toArray, List.getElem_cons_succ, List.getElem_cons_zero, List.setIfInBounds_toArray, List.set_cons_zero, List.set_cons_succ]
        refine wpAnyH_ready (rs := [9]) (by kernel_rfl) (by simp) ?_
        refine AllReadyH.cons rfl (fun K hK => ?_) AllReadyH.nil
        go_simp
        refine (HSM.out _ hS.out).mono ?_
        rintro e9 W2 ⟨rfl, hb2⟩
        have HB2 : Hid (Below W0.heap.size W0 W2) := Lib.hid (hS.out.trans (hb2.mono hS.out.size))
        clear hb2
        by_cases k1 : e.k.key = d.k.key
        · have k1' : decide (e.k.key = d.k.key) = true := decide_eq_true k1
          have HN : Hid (Es.map E.bs = users none ((L.map D.t).take (m + 1 + 1))) := Lib.hid (by
            rw [HNY.out, hus.out]
            simp [D.t, k1])
          rw [k1']
          clear HNY k1 k1'
          go_wp2_with fail
          refine hK.out _ _ HB2 (fun _ => ?_)
          clear hK K hS
          refine wpAnyH_other (S' := fun w' => Hid (Below W2.heap.size W2 w')) (fun w hw => Lib.hid (HB2.out.trans (hw.out.mono HB2.out.size))) _ _ _ _ ?_
          have hS : Hid (Below W2.heap.size W2 W2) := Lib.hid (Below.refl _ _)
          try simp only [Act.put, List.getElem_toArray, List.getElem_cons_succ, List.getElem_cons_zero, List.setIfInBounds_toArray, List.set_cons_zero, List.set_cons_succ]
          refine wpAnyH_take (i := 10) (v := ?_) rfl (by kernel_rfl) (by kernel_rfl) (by kernel_rfl) (fun _ _ _ h => h) (Or.inl ⟨by rfl, ?_⟩) hS ?_
          rotate_left
          · intro wi hw
            go_simp
            try with_reducible rfl
          try simp only [Act.put, List.getElem_toArray, List.getElem_cons_succ, List.getElem_cons_zero, List.setIfInBounds_toArray, List.set_cons_zero, List.set_cons_succ]
          refine wpAnyH_take (i := 11) (v := ?_) rfl (by kernel_rfl) (by kernel_rfl) (by kernel_rfl) (fun _ _ _ h => h) (Or.inl ⟨by rfl, ?_⟩) hS ?_
          rotate_left
          · intro wi hw
            go_simp
            try with_reducible rfl
          try simp only [Act.put, List.getElem_toArray, List.getElem_cons_succ, List.getElem_cons_zero, List.setIfInBounds_toArray, List.set_cons_zero, List.set_cons_succ]
          refine wpAnyH_done (by kernel_rfl) ?_ _
          have HB9 := Lib.hid (hb.out.trans ((HBX0.out.trans ((HB2.out.trans (hS.out.mono HB2.out.size)).mono HBX0.out.size)).mono hb.out.size))
          have HO9 := Lib.hid (own_later hown.out (HBX0.out.trans ((HB2.out.trans (hS.out.mono HB2.out.size)).mono HBX0.out.size)))
          clear hS
          go_wp2_with fail
          go_roundw
          case rel => exact ⟨m + 1 + 1, Es, Nat.succ_le_of_lt hlt, by go_num, HO9, by omega, HN, hoks, HB9⟩
          case measure => simp [intOf]; omega
        · have k1' : decide (e.k.key = d.k.key) = false := decide_eq_false k1
          have HN : Hid ((Es ++ [(⟨d.ka, d.kc, d.k.key⟩ : E)]).map E.bs = users none ((L.map D.t).take (m + 1 + 1))) := Lib.hid (by
            rw [HNY.out, List.map_append, hus.out]
            simp [D.t, k1])
          rw [k1']
          clear HNY k1 k1'
          go_wp2_with fail
          refine hK.out _ _ HB2 (fun _ => ?_)
          clear hK K hS
          refine wpAnyH_other (S' := fun w' => Hid (Below W2.heap.size W2 w')) (fun w hw => Lib.hid (HB2.out.trans (hw.out.mono HB2.out.size))) _ _ _ _ ?_
          have hS : Hid (Below W2.heap.size W2 W2) := Lib.hid (Below.refl _ _)
          try simp only [Act.put, List.getElem_toArray, List.getElem_cons_succ, List.getElem_cons_zero, List.setIfInBounds_toArray, List.set_cons_zero, List.set_cons_succ]
          refine wpAnyH_take (i := 10) (v := ?_) rfl (by kernel_rfl) (by kernel_rfl) (by kernel_rfl) (fun _ _ _ h => h) (Or.inl ⟨by rfl, ?_⟩) hS ?_
          rotate_left
          · intro wi hw
            go_simp
            try with_reducible rfl
          try simp only [Act.put, List.getElem_toArray, List.getElem_cons_succ, List.getElem_cons_zero, List.setIfInBounds_toArray, List.set_cons_zero, List.set_cons_succ]
          refine wpAnyH_take (i := 11) (v := ?_) rfl (by kernel_rfl) (by kernel_rfl) (by kernel_rfl) (fun _ _ _ h => h) (Or.inl ⟨by rfl, ?_⟩) hS ?_
          rotate_left
          · intro wi hw
            go_simp
            try with_reducible rfl
          try simp only [Act.put, List.getElem_toArray, List.getElem_cons_succ, List.getElem_cons_zero, List.setIfInBounds_toArray, List.set_cons_zero, List.set_cons_succ]
          refine wpAnyH_done (by kernel_rfl) ?_ _
          have HB9 := Lib.hid (HBX0.out.trans ((HB2.out.trans (hS.out.mono HB2.out.size)).mono HBX0.out.size))
          have HBX9 := Lib.hid (HB2.out.trans (hS.out.mono HB2.out.size))
          clear hS
          have hbw := hb.out.trans (HB9.out.mono hb.out.size)
          have HBW := Lib.hid hbw
          have hownW := own_later hown.out HB9.out
          obtain ⟨-, x0, x1, x2, x3⟩ := HBX.out.keep HBX9.out
          obtain ⟨v', w1, hrun, hown1, hb1, hs1⟩ := run_append_one (P := Try.prog) (u := .slice d.ka d.k.key.length d.kc) 85 85 25 (.slice none 0 0) 24 Try.underlying85 (by kernel_rfl) rfl rfl hownW (by unfold maxLen; omega) (by omega) HBW.out.size
          have HR := Lib.hid hrun
          have hown2 : w1.ownsRow w.heap.size 25 1 v' (Es ++ [(⟨d.ka, d.kc, d.k.key⟩ : E)]).length ((Es ++ [(⟨d.ka, d.kc, d.k.key⟩ : E)]).map E.v) := by
            rw [List.map_append, List.length_append]; exact hown1
          have HO := Lib.hid hown2
          have HB1 := Lib.hid (HBW.out.trans hb1)
          clear hrun hown1 hown2 hb1 hs1 hownW hbw
          go_wp2_with (at_builtin; refine wpList_append_run rfl _ _ 85 rfl rfl rfl HR.out ?_)
          go_roundw
          case rel => exact ⟨m + 1 + 1, Es ++ [(⟨d.ka, d.kc, d.k.key⟩ : E)], Nat.succ_le_of_lt hlt, by go_num, HO, by rw [List.length_append, List.length_singleton]; omega, HN, HOK, HB1⟩
          case measure => simp [intOf] <;> omega
    · have hjl : j = L.length := by omega
      subst hjl
      have hown' := hown.out
      obtain ⟨A9, c9, hv9, k1, k2, k3⟩ := own_parts hown'
      subst hv9
      have HU : Hid (Es.map E.bs = users none (L.map D.t)) := Lib.hid (by rw [hus.out]; congr 1; exact List.take_of_length_le (by rw [List.length_map]; exact Nat.le_refl _))
      have HS : Hid (Seqs wr wr.heap.size A9 c9 Es) := Lib.hid ⟨k3, k1, k2, fun e he => ⟨((hoks.out e he).lies.below hb.out).up hb.out.size, (hoks.out e he).cap, (hoks.out e he).max, (hoks.out e he).byte⟩⟩
      clear hown' k1 k2 k3
      go_wp2_with fail
      go_ret
      exact ⟨A9, c9, Es, rfl, HU.out, HS.out, hb.out⟩
end Go.Proofs.Ytobjiamdljjkjaa.Tb

/- Package table: split. -/
namespace Go.Proofs.Ytobjiamdljjkjaa.Tb
set_option linter.unusedVariables false
set_option linter.unusedSimpArgs false
open Go.RowKit Lift Ik Sk Vn Bk Bl Sq
theorem cut_ents_from (A : Option Addr) (n c p : Nat) (h : p ≤ n) (hc : n ≤ c) (hm : c ≤ maxLen) :
    ∃ A' : Option Addr, (0 < n - p → A' = A.map (·.add (p * 4))) ∧ ∀ (W : World), Sem.run Try.prog (Instr.slice 22 (.slice A n c) (some (.int .i64 (p : Int))) none none) W = .ok (.slice A' (n - p) (c - p)) W := by
  unfold maxLen at hm
  by_cases hcp : c = p
  · refine ⟨A, fun h0 => by omega, fun W => ?_⟩
    obtain rfl : n = p := by omega
    subst hcp
    go_simp
  · refine ⟨A.map (·.add (p * 4)), fun _ => rfl, fun W => ?_⟩
    go_simp
/-- A part more: append(parts, part). -/
theorem part_more {B : Nat} {w : World} {v : Value} {Ps : List P} {p : P} (h : w.ownsRow B 22 1 v Ps.length (Ps.map P.v)) (hB : B ≤ w.heap.size) (hn : Ps.length ≤ 100000000) :
    ∃ v' w', Sem.run Try.prog (Builtin.append_ #[115, 115] 115 #[v, .slice (some ⟨w.heap.size, 0, none⟩) 1 1]) (w.alloc (.cells #[p.v] 22)) = .ok v' w' ∧ w'.ownsRow B 22 1 v' (Ps ++ [p]).length ((Ps ++ [p]).map P.v) ∧ Below B w w' ∧
      ∀ q d, At4 w q d → (∃ us, w.heap[q.block]? = some (.cells us 48 (0, 0))) → At4 w' q d := by
  have hb : Below w.heap.size w (w.alloc (.cells #[p.v] 22)) := Joins.below_alloc1 w _
  have hl : Lies (w.alloc (.cells #[p.v] 22)) (w.heap.size + 1) (some ⟨w.heap.size, 0, none⟩) [p.v] := lies_block (cs := #[p.v]) (heap_alloc_new w _) (Nat.lt_succ_self _)
  have h1 := own_later h hb
  obtain ⟨v', w', hr, ho, hon⟩ := run_append_onto (P := Try.prog) (m := 1) (c := 1) 115 115 22 (.slice none 0 0) 1 24 Try.underlying115 (by kernel_rfl) rfl (by decide)
    (fun u hu => by simp at hu; subst hu; rfl) h1 hl rfl (by unfold maxLen; omega) (by omega) (Nat.le_trans hB hb.size)
  have hbel : Below B w w' := (hb.mono hB).trans (hon.below h1 (Nat.le_trans hB hb.size))
  refine ⟨v', w', hr, by rw [List.length_append, List.map_append]; exact ho, hbel, fun q d hq ⟨us, hus⟩ => ?_⟩
  have hk : w'.heap[q.block]? = w.heap[q.block]? := by
    rw [hon.keep.block _ (Nat.lt_of_lt_of_le hq.1 hb.size) (fun hv => ?_), hb.block _ hq.1]
    have := own_type h1 hv ((hb.block _ hq.1).trans hus)
    exact absurd this (by decide)
  have hc : w'.cell? q = w.cell? q := by simp only [World.cell?]; rw [hk]
  have hc2 : ∀ n : Nat, w'.cell? ⟨q.block, n, none⟩ = w.cell? ⟨q.block, n, none⟩ := fun n => by simp only [World.cell?]; rw [hk]
  obtain ⟨q0, q1, q2, q3, q4⟩ := hq
  exact ⟨Nat.lt_of_lt_of_le q0 (Nat.le_trans hb.size hon.keep.size), hc.trans q1, (hc2 _).trans q2, (hc2 _).trans q3, (hc2 _).trans q4⟩
theorem parts_last {sz : Nat} {cur : List T} (h : cur ≠ []) : parts sz cur [] = [cur] := by unfold parts; rw [if_neg h]
/-- What split answers. -/
def Splt (w : World) (ps : List (List T)) (e : Ending) (w' : World) : Prop :=
  ∃ (A : Option Addr) (c : Nat) (Ps : List P), e = .returned (.slice A Ps.length c) ∧ Ps.map P.ts = ps ∧ Lies w' w'.heap.size A (Ps.map P.v) ∧ Ps.length ≤ c ∧ c ≤ maxLen ∧ (∀ p, p ∈ Ps → Ents w (· < w.heap.size) p.a p.c p.L) ∧ Below w.heap.size w w'
theorem P.ts_mk (a : Option Addr) (c : Nat) (L : List D) : P.ts ⟨a, c, L⟩ = L.map D.t := rfl
set_option maxRecDepth 100000 in
set_option maxHeartbeats 3200000 in
theorem osplit_any (A : Option Addr) (c : Nat) (L : List D) (size : Int) (w : World) (h1 : Ents w (· < w.heap.size) A c L) (hn : L.length ≤ 10000) (hne : L ≠ []) (hok : ∀ d, d ∈ L → okT d.t = true) :
    Calls Try.prog 81 #[.slice A L.length c, .int .i64 size] w (Splt w (parts (clampS size) [] (L.map D.t))) := by
  have H1 := Lib.hid h1
  have HOK := Lib.hid hok
  have hc1 := h1.len
  have hm1 := h1.cap
  have HM1 := Lib.hid h1.cap
  unfold maxLen at hm1
  obtain ⟨sz, hsz⟩ : ∃ sz, sz = clampS size := ⟨_, rfl⟩
  obtain ⟨s1, s2⟩ := clampS_in size
  have hcs : min (max size 1) 1048576 = (sz : Int) := by rw [hsz]; unfold clampS; omega
  rw [← hsz] at s1 s2 ⊢
  have hpos := List.length_pos_iff.2 hne
  clear h1 hok hne hsz
  go_enter Try.func81, Try.ntmps81
  go_wp2_with fail
  go_loopw [5, 6, 7, 15] (fun v f u i wr => ∃ (j fr nn : Nat) (Ps : List P), j ≤ L.length ∧ i = .int .i64 (j : Int) ∧ f = .int .i64 (fr : Int) ∧ u = .int .i64 (nn : Int) ∧ fr ≤ j ∧ fr < L.length ∧ nn ≤ 6000 * j ∧ Ps.length ≤ j ∧
    Hid (wr.ownsRow w.heap.size 22 1 v Ps.length (Ps.map P.v)) ∧ Hid (∀ p, p ∈ Ps → Ents w (· < w.heap.size) p.a p.c p.L) ∧ Hid (Below w.heap.size w wr) ∧
    Hid (parts sz [] (L.map D.t) = Ps.map P.ts ++ parts sz (((L.map D.t).drop fr).take (j - fr)) ((L.map D.t).drop j)) ∧ Hid (nn = weigh (((L.map D.t).drop fr).take (j - fr))) ∧ Hid (fr < j ∨ j = 0))
    (fun _ _ _ i _ => L.length + 1 - (intOf i).toNat)
  case atStart => exact ⟨0, 0, 0, [], Nat.zero_le _, rfl, rfl, rfl, Nat.le_refl _, hpos, Nat.zero_le _, Nat.le_refl _, Lib.hid (World.ownsRow_nil _ _ _ _), Lib.hid (fun p hp => by cases hp), Lib.hid (Below.refl _ _), Lib.hid (by simp), Lib.hid (by simp [weigh]), Lib.hid (.inr rfl)⟩
  case round =>
    obtain ⟨j, fr, nn, Ps, hj, rfl, rfl, rfl, hfj, hfl, hnn, hPl, hown, hpo, hb, hpp, hwg, hfr⟩ := hrel
    by_cases hlt : j < L.length
    · obtain ⟨d, hd⟩ : ∃ d, L[j]? = some d := ⟨_, List.getElem?_eq_getElem hlt⟩
      have hE := H1.out.next hb.out
      obtain ⟨ad, p, hA, hp, hq⟩ := place4 hE hd
      have HEA := Lib.hid hA
      have HDT : Hid ((L.map D.t)[j]? = some d.t) := Lib.hid (by rw [List.getElem?_map, hd]; rfl)
      have HDR : Hid ((L.map D.t).drop j = d.t :: (L.map D.t).drop (j + 1)) := Lib.hid (drop_at HDT.out)
      obtain ⟨o1, o2⟩ := okT_len (HOK.out d (List.mem_of_getElem? hd))
      have hwt : wgt d.t ≤ 5400 := by show d.k.key.length + 8 + d.val.length ≤ 5400; omega
      have hld := hq.load
      obtain ⟨-, q0, q1, q2, q3⟩ := hq
      obtain ⟨W0, hW0⟩ : ∃ W0 : World, W0 = wr.alloc (ebox d) := ⟨_, rfl⟩
      have hbx0 : Below wr.heap.size wr W0 := by rw [hW0]; exact below_box wr d
      have hbx : At4 W0 ⟨wr.heap.size, 0, none⟩ d := by
        have hx := Bx.new wr d
        obtain ⟨x0, x1, x2, x3, -⟩ := hx.facts
        rw [hW0]
        exact ⟨by simp, x0, x1, x2, x3⟩
      have hbt : ∃ us, W0.heap[wr.heap.size]? = some (.cells us 48 (0, 0)) := by rw [hW0]; exact ⟨_, heap_alloc_new wr _⟩
      have HBX := Lib.hid hbx
      have HBT := Lib.hid hbt
      have HB0 := Lib.hid (hb.out.trans (hbx0.mono hb.out.size))
      have HO0 := Lib.hid (own_later hown.out hbx0)
      have HWT := Lib.hid (fun (W : World) (hbw : Below w.heap.size w W) => oweight_any d W ((H1.out.next hbw).ok d (List.mem_of_getElem? hd)) (HOK.out d (List.mem_of_getElem? hd)))
      subst hA
      clear hd hbx hbx0 hE hown hb hbt
      go_upto_region 7 with fail
      rw [← hW0]
      clear hW0 q0 q1 q2 q3 hld hp
      by_cases hfull : sz ≤ nn
      · have df : decide ((sz : Int) ≤ (nn : Int)) = true := decide_eq_true (by omega)
        have df' : decide (sz ≤ nn) = true := decide_eq_true hfull
        have hfrj : fr < j := by
          rcases hfr.out with h | h
          · exact h
          · exfalso
            have := hwg.out
            subst h
            have : fr = 0 := by omega
            subst this
            simp [weigh] at *
            omega
        obtain ⟨A', hA', hcut⟩ := cut_ents_mid (some ad) L.length c fr (j - fr) (by omega) hc1 HM1.out
        have HCUT : Hid (∀ W : World, Sem.run Try.prog (Instr.slice 22 (.slice (some ad) L.length c) (some (.int .i64 (fr : Int))) (some (.int .i64 (j : Int))) none) W = .ok (.slice A' (j - fr) (c - fr)) W) := Lib.hid fun W => hcut W j (by omega)
        have hcl : ((L.drop fr).take (j - fr)).length = j - fr := by rw [List.length_take, List.length_drop]; omega
        have hcm : ((L.drop fr).take (j - fr)).map D.t = ((L.map D.t).drop fr).take (j - fr) := by rw [List.map_take, List.map_drop]
        obtain ⟨pp, hpd⟩ : ∃ pp : P, pp = ⟨A', c - fr, (L.drop fr).take (j - fr)⟩ := ⟨_, rfl⟩
        have hpv : pp.v = .slice A' (j - fr) (c - fr) := by rw [hpd]; show Value.slice A' ((L.drop fr).take (j - fr)).length (c - fr) = _; rw [hcl]
        have hen : Ents w (· < w.heap.size) pp.a pp.c pp.L := by rw [hpd]; exact ents_mid H1.out (by omega) hA'
        have hts : pp.ts = ((L.map D.t).drop fr).take (j - fr) := by rw [hpd]; exact hcm
        obtain ⟨v', w1, hrun, hown1, hb1, hk1⟩ := part_more (p := pp) HO0.out HB0.out.size (by omega)
        rw [hpv] at hrun
        have HR := Lib.hid hrun
        have HO1 := Lib.hid hown1
        have HB1 := Lib.hid (HB0.out.trans hb1)
        have HX1 := Lib.hid (hk1 _ _ HBX.out HBT.out)
        have HPO : Hid (∀ p, p ∈ Ps ++ [pp] → Ents w (· < w.heap.size) p.a p.c p.L) := Lib.hid fun q hq => by
          rcases List.mem_append.1 hq with h | h
          · exact hpo.out q h
          · simp at h; rw [h]; exact hen
        have HPP : Hid (parts sz [] (L.map D.t) = (Ps ++ [pp]).map P.ts ++ parts sz (((L.map D.t).drop j).take (j + 1 - j)) ((L.map D.t).drop (j + 1))) := Lib.hid (by
          rw [hpp.out, HDR.out, List.map_append, List.map_cons, List.map_nil, hts, show j + 1 - j = 1 from by omega, List.take_succ_cons, List.take_zero, List.append_assoc, List.singleton_append]
          conv => lhs; rw [parts]
          rw [if_pos ⟨fun h => by have := congrArg List.length h; rw [← hcm, List.length_map, hcl] at this; simp at this; omega, by rw [← hwg.out]; exact hfull⟩])
        have HWG : Hid (0 + wgt d.t = weigh (((L.map D.t).drop j).take (j + 1 - j))) := Lib.hid (by
          rw [HDR.out, show j + 1 - j = 1 from by omega, List.take_succ_cons, List.take_zero, weigh_cons]
          simp [weigh])
        clear hcut hcl hcm hpd hpv hen hts hrun hown1 hb1 hk1 hA' hpp hwg hfr hfull hfrj
        have hcutw := HCUT.out
        have HWTT := Lib.hid (HWT.out w1 HB1.out)
        obtain ⟨Y, hY⟩ : ∃ Y, Y = wgt d.t := ⟨_, rfl⟩
        rw [← hY] at hwt HWTT HWG
        clear hY HWT
        have hlx := HX1.out.load
        obtain ⟨-, x0, x1, x2, x3⟩ := HX1.out
        go_wp2_with (at_builtin; refine wpList_append_run rfl _ _ 115 rfl rfl rfl HR.out ?_)
        refine HWTT.out.mono ?_
        rintro e W2 ⟨rfl, hb2⟩
        have HB2 := Lib.hid (HB1.out.trans (hb2.mono HB1.out.size))
        have HO2 := Lib.hid (own_later HO1.out hb2)
        clear hb2 hlx x0 x1 x2 x3 HWTT
        go_wp2_with fail
        go_roundw
        case rel => exact ⟨j + 1, j, 0 + Y, Ps ++ [pp], by omega, by go_num, rfl, by go_num, by omega, hlt, by omega, by rw [List.length_append, List.length_singleton]; omega, HO2, HPO, HB2, HPP, HWG, Lib.hid (.inl (by omega))⟩
        case measure => simp [intOf]; omega
      · have df : decide ((sz : Int) ≤ (nn : Int)) = false := decide_eq_false (by omega)
        have df' : decide (sz ≤ nn) = false := decide_eq_false hfull
        have HPP : Hid (parts sz [] (L.map D.t) = Ps.map P.ts ++ parts sz (((L.map D.t).drop fr).take (j + 1 - fr)) ((L.map D.t).drop (j + 1))) := Lib.hid (by
          rw [hpp.out, HDR.out, cut_more hfj HDT.out]
          conv => lhs; rw [parts]
          rw [if_neg (by rintro ⟨h, h2⟩; rw [← hwg.out] at h2; exact hfull h2)])
        have HWG : Hid (nn + wgt d.t = weigh (((L.map D.t).drop fr).take (j + 1 - fr))) := Lib.hid (by rw [cut_more hfj HDT.out, weigh_snoc, ← hwg.out])
        have HWTT := Lib.hid (HWT.out W0 HB0.out)
        obtain ⟨Y, hY⟩ : ∃ Y, Y = wgt d.t := ⟨_, rfl⟩
        rw [← hY] at hwt HWTT HWG
        clear hY HWT hpp hwg hfull
        have hlx := HBX.out.load
        obtain ⟨-, x0, x1, x2, x3⟩ := HBX.out
        go_wp2_with fail
        refine HWTT.out.mono ?_
        rintro e W2 ⟨rfl, hb2⟩
        have HB2 := Lib.hid (HB0.out.trans (hb2.mono HB0.out.size))
        have HO2 := Lib.hid (own_later HO0.out hb2)
        clear hb2 hlx x0 x1 x2 x3 HWTT
        go_wp2_with fail
        go_roundw
        case rel => exact ⟨j + 1, fr, nn + Y, Ps, by omega, by go_num, rfl, by go_num, by omega, hfl, by omega, by omega, HO2, hpo, HB2, HPP, HWG, Lib.hid (.inl (by omega))⟩
        case measure => simp [intOf]; omega
    · obtain rfl : j = L.length := by omega
      obtain ⟨A', hA', hcut⟩ := cut_ents_from A L.length c fr (by omega) hc1 HM1.out
      have hcl : ((L.drop fr).take (L.length - fr)).length = L.length - fr := by rw [List.length_take, List.length_drop]; omega
      have hcm : ((L.drop fr).take (L.length - fr)).map D.t = ((L.map D.t).drop fr).take (L.length - fr) := by rw [List.map_take, List.map_drop]
      obtain ⟨pp, hpd⟩ : ∃ pp : P, pp = ⟨A', c - fr, (L.drop fr).take (L.length - fr)⟩ := ⟨_, rfl⟩
      have hpv : pp.v = .slice A' (L.length - fr) (c - fr) := by rw [hpd]; show Value.slice A' ((L.drop fr).take (L.length - fr)).length (c - fr) = _; rw [hcl]
      have hen : Ents w (· < w.heap.size) pp.a pp.c pp.L := by rw [hpd]; exact ents_mid H1.out (by omega) hA'
      have hts : pp.ts = ((L.map D.t).drop fr).take (L.length - fr) := by rw [hpd]; exact hcm
      obtain ⟨v', w1, hrun, hown1, hb1, -⟩ := part_more (p := pp) hown.out hb.out.size (by omega)
      rw [hpv] at hrun
      have HR := Lib.hid hrun
      have HB1 := Lib.hid (hb.out.trans hb1)
      obtain ⟨A9, c9, hv9, k1, k2, k3⟩ := own_parts hown1
      subst hv9
      have HK3 := Lib.hid k3
      have HK2 := Lib.hid k2
      have HK1 := Lib.hid k1
      have HPO : Hid (∀ p, p ∈ Ps ++ [pp] → Ents w (· < w.heap.size) p.a p.c p.L) := Lib.hid fun q hq => by
        rcases List.mem_append.1 hq with h | h
        · exact hpo.out q h
        · simp at h; rw [h]; exact hen
      have HPP : Hid ((Ps ++ [pp]).map P.ts = parts sz [] (L.map D.t)) := Lib.hid (by
        have hdn : (L.map D.t).drop L.length = [] := List.drop_eq_nil_of_le (by rw [List.length_map]; exact Nat.le_refl _)
        rw [hpp.out, List.map_append, List.map_cons, List.map_nil, hts, hdn]
        rw [parts_last (fun h => by have := congrArg List.length h; rw [← hcm, List.length_map, hcl] at this; simp at this; omega)])
      clear hcl hcm hpd hpv hen hts hrun hown1 hb1 hA' hpp hwg hfr k1 k2 k3 hown
      generalize hQ : Ps ++ [pp] = Qs at *
      clear hQ
      go_wp2_with (at_builtin; refine wpList_append_run rfl _ _ 115 rfl rfl rfl HR.out ?_)
      go_ret
      exact ⟨A9, c9, Qs, rfl, HPP.out, HK3.out, HK1.out, HK2.out, HPO.out, HB1.out⟩
end Go.Proofs.Ytobjiamdljjkjaa.Tb

/- Package table: an entry of the index. -/
namespace Go.Proofs.Ytobjiamdljjkjaa.Tb
set_option linter.unusedVariables false
set_option linter.unusedSimpArgs false
open Go.RowKit Lift Ik Sk Vn Bk Bl Sq
set_option maxRecDepth 100000 in
set_option maxHeartbeats 1600000 in
theorem oindexe_any (A : Option Addr) (c m : Nat) (L : List D) (d : D) (a n B : Nat) (w : World) (h1 : Ents w (· < B) A c L) (hm : L[m]? = some d) (hl : L.length = m + 1) (hB : B ≤ w.heap.size) (ha : a < 9223372036854775808) (hn : n < 9223372036854775808) :
    Calls Try.prog 82 #[.slice A L.length c, .int .i64 (a : Int), .int .i64 (n : Int)] w (Ptr B w (ptr d.t a n)) := by
  have HD := Lib.hid (h1.ok d (List.mem_of_getElem? hm))
  have hz0 : Below w.heap.size w (w.alloc (.cells #[.slice none 0 0, .int .u64 0, .int .i64 0, .slice none 0 0] 48)) := Joins.below_alloc1 w _
  obtain ⟨ad, p, hA, hpb, hp, q0, q1, q2, q3⟩ := (h1.below (hz0.mono hB)).place hm
  have hld := key_load q0 q1 q2
  have hc1 := h1.len
  have hm1 := h1.cap
  unfold maxLen at hm1
  subst hA
  rw [hl]
  rw [hl] at hc1
  have em : ((m + 1 : Nat) : Int) - 1 = (m : Int) := by omega
  obtain ⟨W1, hW1⟩ : ∃ W1, W1 = (w.alloc (.cells #[.slice none 0 0, .int .u64 0, .int .i64 0, .slice none 0 0] 48)).alloc (.cells #[.slice d.ka d.k.key.length d.kc, .int .u64 (d.k.seq : Int), .int .i64 1] 38) := ⟨_, rfl⟩
  have hbx : Lift.Box W1 (w.heap.size + 1) 38 [.slice d.ka d.k.key.length d.kc, .int .u64 (d.k.seq : Int), .int .i64 1] := by
    rw [hW1]
    have := Lift.Box.new (w.alloc (.cells #[.slice none 0 0, .int .u64 0, .int .i64 0, .slice none 0 0] 48)) 38 [.slice d.ka d.k.key.length d.kc, .int .u64 (d.k.seq : Int), .int .i64 1]
    rw [World.size_alloc] at this
    exact this
  have hbz : Bx W1 w.heap.size dz := by
    rw [hW1]
    exact (Bx.new w dz).alloc _
  have hb1 : Below w.heap.size w W1 := by rw [hW1]; exact ((Below.refl _ w).alloc (Nat.le_refl _) _).alloc (by simp) _
  have HBX := Lib.hid hbx
  have HBZ := Lib.hid hbz
  have HB1 := Lib.hid hb1
  clear h1 hm hz0 hbx hbz hb1
  go_enter Try.func82, Try.ntmps82
  go_upto_region 3 with fail
  rw [← hW1]
  clear hW1 q0 q1 q2 q3 hld hpb hp em
  refine wp_region_held_drew (S := fun w' => Hid (Keep (· = w.heap.size) W1 w')) (by kernel_rfl) (Lib.hid (Keep.refl _ _).drew) (fun hS => ?_)
  refine wpAnyH_take (i := 0) (v := ?_) rfl (by kernel_rfl) (by kernel_rfl) (by kernel_rfl) (fun _ _ _ h => h) (Or.inl ⟨by rfl, ?_⟩) hS ?_
  rotate_left
  · intro wi hw
    have hbb := (HBX.out.keep hw.out (by simp)).facts3
    obtain ⟨f0, f1, f2, -, -, -⟩ := hbb
    have hld := KD.load (d := ⟨d.ka, d.kc, ⟨d.k.key, d.k.seq, 1⟩⟩) (p := ⟨w.heap.size + 1, 0, none⟩) f0 f1 f2
    go_simp
    try with_reducible rfl
  try simp only [Act.put, List.getElem_toArray, List.getElem_cons_succ, List.getElem_cons_zero, List.setIfInBounds_toArray, List.set_cons_zero, List.set_cons_succ]
  refine wpAnyH_take (i := 1) (v := ?_) rfl (by kernel_rfl) (by kernel_rfl) (by kernel_rfl) (fun _ _ _ h => h) (Or.inl ⟨by rfl, ?_⟩) hS ?_
  rotate_left
  · intro wi hw
    go_simp
    try with_reducible rfl
  try simp only [Act.put, List.getElem_toArray, List.getElem_cons_succ, List.getElem_cons_zero, List.setIfInBounds_toArray, List.set_cons_zero, List.set_cons_succ]
  refine wpAnyH_take (i := 2) (v := ?_) rfl (by kernel_rfl) (by kernel_rfl) (by kernel_rfl) (fun _ _ _ h => h) (Or.inl ⟨by rfl, ?_⟩) hS ?_
  rotate_left
  · intro wi hw
    have ea : IntKind.u64.wrap (a : Int) = (a : Int) := IntWalk.u64_in _ (by omega)
    go_simp
    try with_reducible rfl
  try simp only [Act.put, List.getElem_toArray, List.getElem_cons_succ, List.getElem_cons_zero, List.setIfInBounds_toArray, List.set_cons_zero, List.set_cons_succ]
  refine wpAnyH_take (i := 4) (v := ?_) rfl (by kernel_rfl) (by kernel_rfl) (by kernel_rfl) (fun _ _ _ h => h) (Or.inl ⟨by rfl, ?_⟩) hS ?_
  rotate_left
  · intro wi hw
    go_simp
    try with_reducible rfl
  try simp only [Act.put, List.getElem_toArray, List.getElem_cons_succ, List.getElem_cons_zero, List.setIfInBounds_toArray, List.set_cons_zero, List.set_cons_succ]
  refine wpAnyH_take (i := 5) (v := ?_) rfl (by kernel_rfl) (by kernel_rfl) (by kernel_rfl) (fun _ _ _ h => h) (Or.inl ⟨by rfl, ?_⟩) hS ?_
  rotate_left
  · intro wi hw
    have en : IntKind.u64.wrap (n : Int) = (n : Int) := IntWalk.u64_in _ (by omega)
    go_simp
    try with_reducible rfl
  try simp only [Act.put, List.getElem_toArray, List.getElem_cons_succ, List.getElem_cons_zero, List.setIfInBounds_toArray, List.set_cons_zero, List.set_cons_succ]
  refine wpAnyH_ready (rs := [3]) (by kernel_rfl) (by simp) ?_
  refine AllReadyH.cons rfl (fun K hK => ?_) AllReadyH.nil
  go_simp
  have hk := hS.out
  refine (Vt.put_calls none 0 a [] _ (.inl rfl) (by simp) (by omega)).mono ?_
  intro e W2 hmade
  obtain ⟨v2, rfl, -, ⟨A2, c2, hv2, m1, m2, m3⟩, hb2⟩ := made_byts hmade
  subst hv2
  rw [List.nil_append] at *
  have HK2 : Hid (Keep (· = w.heap.size) W1 W2) := Lib.hid (hk.trans (below_keep (S := (· = w.heap.size)) hb2) (fun i _ h => h))
  have HL2 := Lib.hid m3
  have HS2 : Hid (w.heap.size ≤ W2.heap.size) := Lib.hid (Nat.le_trans HB1.out.size (Nat.le_trans hk.size hb2.size))
  have HZ2 : Hid (Bx W2 (w.heap.size) dz) := Lib.hid (Lift.Box.below (show Bx W1.drew (w.heap.size) dz from HBZ.out) hb2 HBZ.out.lt)
  clear hmade m3 hb2 hk
  go_wp2_with fail
  refine hK.out _ _ HK2 (fun hS => ?_)
  clear hK K
  try simp only [Act.put, List.getElem_toArray, List.getElem_cons_succ, List.getElem_cons_zero, List.setIfInBounds_toArray, List.set_cons_zero, List.set_cons_succ]
  refine wpAnyH_ready (rs := [6]) (by kernel_rfl) (by simp) ?_
  refine AllReadyH.cons rfl (fun K hK => ?_) AllReadyH.nil
  go_simp
  have la := (enc_len a).2
  have ln := (enc_len n).2
  refine (Vt.put_calls A2 c2 n (enc a) _ HL2.out (by omega) (by omega)).mono ?_
  intro e W3 hmade
  obtain ⟨v3, rfl, hown3, ⟨A3, c3, hv3, n1, n2, n3⟩, hb3⟩ := made_byts hmade
  subst hv3
  have HK3 : Hid (Keep (· = w.heap.size) W1 W3) := Lib.hid (HK2.out.trans (below_keep (S := (· = w.heap.size)) hb3) (fun i _ h => h))
  have HZ3 : Hid (Bx W3 (w.heap.size) dz) := Lib.hid (HZ2.out.below hb3 HZ2.out.lt)
  have HL3 : Hid (LiesP W3 (fun k => Fresh W2.heap.size W3 k ∧ k ≠ w.heap.size) A3 ((enc a ++ enc n).map vb)) := Lib.hid (own_apart3 hown3 HZ3.out)
  have hl9 : (enc a ++ enc n).length ≤ 20 := by rw [List.length_append]; omega
  have HL9 := Lib.hid hl9
  clear hmade n3 hb3 la ln hl9
  go_wp2_with fail
  refine hK.out _ _ HK3 (fun hS => ?_)
  clear hK K
  try simp only [Act.put, List.getElem_toArray, List.getElem_cons_succ, List.getElem_cons_zero, List.setIfInBounds_toArray, List.set_cons_zero, List.set_cons_succ]
  refine wpAnyH_take (i := 7) (v := ?_) rfl (by kernel_rfl) (by kernel_rfl) (by kernel_rfl) (fun _ _ _ h => h) (Or.inl ⟨by rfl, ?_⟩) hS ?_
  rotate_left
  · intro wi hw
    go_simp
    try with_reducible rfl
  try simp only [Act.put, List.getElem_toArray, List.getElem_cons_succ, List.getElem_cons_zero, List.setIfInBounds_toArray, List.set_cons_zero, List.set_cons_succ]
  refine wpAnyH_ready (rs := [8]) (by kernel_rfl) (by simp) ?_
  refine AllReadyH.cons rfl (fun K hK => ?_) AllReadyH.nil
  refine held_row rfl _ _ _ rfl (w.heap.size) #[.slice d.ka d.k.key.length d.kc, .int .u64 (d.k.seq : Int), .int .i64 1, .slice A3 (enc a ++ enc n).length c3] rfl (by rw [List.length_append]; rfl) _ dz.cells.toArray HZ3.out (by kernel_rfl) rfl (by kernel_rfl) ?_
  refine hK.out _ _ (Lib.hid (keep_setRow (S := (· = w.heap.size)) HK3.out (.inr rfl) _)) (fun hS => ?_)
  clear hK K
  try simp only [Act.put, List.getElem_toArray, List.getElem_cons_succ, List.getElem_cons_zero, List.setIfInBounds_toArray, List.set_cons_zero, List.set_cons_succ]
  refine wpAnyH_done (by kernel_rfl) ?_ _
  have hres : Lift.Box (W3.setRow (w.heap.size) #[.slice d.ka d.k.key.length d.kc, .int .u64 (d.k.seq : Int), .int .i64 1, .slice A3 (enc a ++ enc n).length c3]) (w.heap.size) 48 [.slice d.ka d.k.key.length d.kc, .int .u64 (d.k.seq : Int), .int .i64 1, .slice A3 (enc a ++ enc n).length c3] := setRow_heap _ _ _ _ _ _ HZ3.out
  have hk9 := hS.out
  have hoff : ∀ k, k ≠ w.heap.size → (W3.setRow (w.heap.size) #[.slice d.ka d.k.key.length d.kc, .int .u64 (d.k.seq : Int), .int .i64 1, .slice A3 (enc a ++ enc n).length c3]).heap[k]? = W3.heap[k]? := fun k hk => setRow_other W3 (w.heap.size) k _ hk
  have hsz : (W3.setRow (w.heap.size) #[.slice d.ka d.k.key.length d.kc, .int .u64 (d.k.seq : Int), .int .i64 1, .slice A3 (enc a ++ enc n).length c3]).heap.size = W3.heap.size := size_setRow ..
  generalize W3.setRow (w.heap.size) #[.slice d.ka d.k.key.length d.kc, .int .u64 (d.k.seq : Int), .int .i64 1, .slice A3 (enc a ++ enc n).length c3] = W9 at hres hk9 hoff hsz ⊢
  clear hS
  go_wp2_with fail
  refine bodyPost_ret (results_one rfl Try.underlying48 rfl (by kernel_rfl) _ rfl hres) rfl ?_
  have hb9 : Below w.heap.size w W9 := HB1.out.trans (hk9.below HB1.out.size (fun k hk => by rw [hk]; exact Nat.le_refl _))
  have hlt : w.heap.size < W3.heap.size := HZ3.out.lt
  have hb8 : ∀ k, k < w.heap.size → W9.heap[k]? = w.heap[k]? := fun k hk => hb9.block k hk
  refine ⟨⟨d.ka, d.kc, ⟨d.k.key, d.k.seq, 1⟩, A3, c3, enc a ++ enc n⟩, rfl, rfl, ?_, hb9⟩
  have hd9 := HD.out.later (w' := W9) (R' := fun k => k < B ∨ Fresh w.heap.size W9 k) (fun k hk => hb8 k (Nat.lt_of_lt_of_le hk hB)) (fun k hk => .inl hk)
  refine ⟨hd9.kl, hd9.kc, hd9.km, ⟨hd9.ok.1, hd9.ok.2.1, by show (-9223372036854775808 : Int) ≤ 1; decide, by show (1 : Int) ≤ 9223372036854775807; decide⟩, ?_, n1, n2, ?_⟩
  · refine LiesP.later (R := fun k => Fresh W2.heap.size W3 k ∧ k ≠ w.heap.size) HL3.out (fun k hk => hoff k hk.2) (fun k hk => .inr ⟨Nat.le_trans HS2.out hk.1.1, by rw [hsz]; exact hk.1.2.1, by obtain ⟨cs, fr, h⟩ := hk.1.2.2; exact ⟨cs, fr, (hoff k hk.2).trans h⟩⟩)
  · intro x hx
    rcases List.mem_append.1 hx with h | h
    · exact enc_byte a (by omega) x h
    · exact enc_byte n (by omega) x h
end Go.Proofs.Ytobjiamdljjkjaa.Tb

/- Package table: the numbers at the end. -/
namespace Go.Proofs.Ytobjiamdljjkjaa.Tb
set_option linter.unusedVariables false
set_option linter.unusedSimpArgs false
open Go.RowKit Lift Ik Sk Vn Bk Bl Sq
/-- The first j of the five numbers. -/
def five (a b c d e : Nat) : Nat → List Nat
  | 0 => []
  | 1 => low a 4
  | 2 => low a 4 ++ low b 4
  | 3 => low a 4 ++ (low b 4 ++ low c 4)
  | 4 => low a 4 ++ (low b 4 ++ (low c 4 ++ low d 4))
  | _ => tail5 a b c d e
def nth5 (a b c d e : Nat) : Nat → Nat
  | 0 => a
  | 1 => b
  | 2 => c
  | 3 => d
  | _ => e
theorem five_next (a b c d e j : Nat) (hj : j < 5) : five a b c d e (j + 1) = five a b c d e j ++ low (nth5 a b c d e j) 4 := by
  match j, hj with
  | 0, _ => simp [five, nth5]
  | 1, _ => simp [five, nth5]
  | 2, _ => simp [five, nth5]
  | 3, _ => simp [five, nth5]
  | 4, _ => simp [five, nth5, tail5]
theorem five_len (a b c d e j : Nat) : (five a b c d e j).length ≤ 20 := by
  match j with
  | 0 => simp [five]
  | 1 => simp [five, low_length]
  | 2 => simp [five, low_length]
  | 3 => simp [five, low_length]
  | 4 => simp [five, low_length]
  | j + 5 => show (tail5 a b c d e).length ≤ 20; rw [tail5_len]; omega
abbrev fv (a b c d e : Nat) : Value := .agg #[.int .u32 (a : Int), .int .u32 (b : Int), .int .u32 (c : Int), .int .u32 (d : Int), .int .u32 (e : Int)]
theorem tail5_byte (a b c d e : Nat) : ∀ x, x ∈ tail5 a b c d e → x < 256 := by
  intro x hx
  unfold tail5 at hx
  simp only [List.mem_append] at hx
  rcases hx with h | h | h | h | h <;> exact low_byte _ 4 x h
set_option maxRecDepth 100000 in
set_option maxHeartbeats 1600000 in
theorem ofbytes_any (a b c d e : Nat) (w : World) (ha : a < 4294967296) (hb : b < 4294967296) (hc : c < 4294967296) (hd : d < 4294967296) (he : e < 4294967296) :
    Calls Try.prog 84 #[fv a b c d e] w (Made w.heap.size w (tail5 a b c d e ++ sum4 (tail5 a b c d e))) := by
  have hix : ∀ (j : Nat) (W : World), j < 5 → Sem.run Try.prog (Instr.index 141 (fv a b c d e) (.int .i64 (j : Int))) W = .ok (.int .u32 ((nth5 a b c d e j : Nat) : Int)) W := by
    intro j W hj
    have h3 : j = 0 ∨ j = 1 ∨ j = 2 ∨ j = 3 ∨ j = 4 := by omega
    rcases h3 with rfl | rfl | rfl | rfl | rfl
    · show Sem.run Try.prog (Instr.index 141 (fv a b c d e) (.int .i64 0)) W = .ok (.int .u32 (a : Int)) W
      kernel_rfl
    · show Sem.run Try.prog (Instr.index 141 (fv a b c d e) (.int .i64 1)) W = .ok (.int .u32 (b : Int)) W
      kernel_rfl
    · show Sem.run Try.prog (Instr.index 141 (fv a b c d e) (.int .i64 2)) W = .ok (.int .u32 (c : Int)) W
      kernel_rfl
    · show Sem.run Try.prog (Instr.index 141 (fv a b c d e) (.int .i64 3)) W = .ok (.int .u32 (d : Int)) W
      kernel_rfl
    · show Sem.run Try.prog (Instr.index 141 (fv a b c d e) (.int .i64 4)) W = .ok (.int .u32 (e : Int)) W
      kernel_rfl
  have hnt : ∀ j, nth5 a b c d e j < 4294967296 := fun j => by unfold nth5; split <;> omega
  have HIX := Lib.hid hix
  have HNT := Lib.hid hnt
  have hb0 : Below w.heap.size w (w.alloc (.cells #[.int .u32 (a : Int), .int .u32 (b : Int), .int .u32 (c : Int), .int .u32 (d : Int), .int .u32 (e : Int)] 119)) := Joins.below_alloc1 w _
  have HB0 := Lib.hid hb0
  clear hix hnt hb0
  go_enter Try.func84, Try.ntmps84
  go_wp2_with fail
  generalize w.alloc (.cells #[.int .u32 (a : Int), .int .u32 (b : Int), .int .u32 (c : Int), .int .u32 (d : Int), .int .u32 (e : Int)] 119) = w0 at *
  go_loopw [3, 17] (fun o i wr => ∃ j : Nat, j ≤ 5 ∧ i = .int .i64 (j : Int) ∧ Hid (wr.ownsRow w.heap.size 5 1 o (five a b c d e j).length ((five a b c d e j).map vb)) ∧ Hid (Below w.heap.size w wr)) (fun _ i _ => 10 - (intOf i).toNat)
  case atStart => exact ⟨0, by omega, rfl, Lib.hid (World.ownsRow_nil _ _ _ _), HB0⟩
  case round =>
    obtain ⟨j, hj, rfl, hown, hbw⟩ := hrel
    by_cases hlt : j < 5
    · obtain ⟨n, hn⟩ : ∃ n, n = nth5 a b c d e j := ⟨_, rfl⟩
      have hi := fun W => HIX.out j W hlt
      have hn6 : n < 4294967296 := by rw [hn]; exact HNT.out j
      rw [← hn] at hi
      have hl5 := five_len a b c d e j
      have HP := Lib.hid (onumst_any w.heap.size n _ (five a b c d e j) wr hown.out hbw.out.size (by omega) hn6)
      have HE := Lib.hid (five_next a b c d e j hlt)
      rw [← hn] at HE
      clear hn
      go_wp2_with fail
      refine HP.out.mono ?_
      rintro e2 W1 ⟨v1, rfl, ho1, hon1⟩
      rw [← HE.out] at ho1
      obtain ⟨A1, c1, hv1, -, -, -⟩ := own_parts ho1
      obtain ⟨q, hq⟩ : ∃ q, q = (five a b c d e (j + 1)).length := ⟨_, rfl⟩
      rw [← hq] at hv1
      subst hv1
      have HO1 := Lib.hid ho1
      have HB1 := Lib.hid (hbw.out.trans (hon1.below hown.out hbw.out.size))
      clear ho1 hon1 HP hq
      go_wp2_with fail
      go_roundw
      case rel => exact ⟨j + 1, by omega, by go_num, HO1, HB1⟩
      case measure => simp [intOf]; omega
    · obtain rfl : j = 5 := by omega
      obtain ⟨A5, c5, hv5, m1, m2, m3⟩ := own_parts hown.out
      subst hv5
      have h5 : five a b c d e 5 = tail5 a b c d e := rfl
      rw [h5] at hown m1 m3 ⊢
      have HL20 := Lib.hid (tail5_len a b c d e)
      have HS := Lib.hid (osumt_any A5 c5 (tail5 a b c d e) wr m3 m1 m2 (tail5_byte a b c d e))
      have HML := Lib.hid (Crc.maskN_lt (Crc.crc Crc.ent (tail5 a b c d e)))
      have HSD : Hid (sum4 (tail5 a b c d e) = low (Crc.maskN (Crc.crc Crc.ent (tail5 a b c d e))) 4) := Lib.hid rfl
      clear m1 m2 m3 h5
      generalize Crc.maskN (Crc.crc Crc.ent (tail5 a b c d e)) = M at *
      generalize tail5 a b c d e = X at *
      go_wp2_with fail
      refine HS.out.mono ?_
      rintro e2 W1 ⟨rfl, hb1⟩
      have HN := Lib.hid (onumst_any w.heap.size M _ X W1 (own_later hown.out hb1) (Nat.le_trans hbw.out.size hb1.size) (by rw [HL20.out]; decide) HML.out)
      have HB1 := Lib.hid (hbw.out.trans (hb1.mono hbw.out.size))
      have HO1 := Lib.hid (own_later hown.out hb1)
      clear hb1 HS
      go_wp2_with fail
      refine HN.out.mono ?_
      rintro e2 W2 ⟨v2, rfl, ho2, hon2⟩
      obtain ⟨A2, c2, hv2, -, -, -⟩ := own_parts ho2
      obtain ⟨q, hq⟩ : ∃ q, q = (X ++ low M 4).length := ⟨_, rfl⟩
      rw [← hq] at hv2
      subst hv2
      have HO2 := Lib.hid ho2
      have HB2 := Lib.hid (HB1.out.trans (hon2.below HO1.out HB1.out.size))
      clear ho2 hon2 HN hq
      go_wp2_with fail
      go_ret
      exact ⟨_, rfl, by rw [HSD.out]; exact HO2.out, HB2.out⟩
end Go.Proofs.Ytobjiamdljjkjaa.Tb

/- slices.Grow and slices.Concat of bytes. -/
namespace Go.Proofs.Ytobjiamdljjkjaa.Tb
set_option linter.unusedVariables false
set_option linter.unusedSimpArgs false
open Go.RowKit Lift Ik Sk Vn Bk Bl Sq
set_option maxRecDepth 100000 in
set_option maxHeartbeats 800000 in
theorem grow_any (n : Nat) (w : World) (hn : n ≤ 1000000000000) :
    Calls Try.prog 103 #[.slice none 0 0, .int .i64 (n : Int)] w fun e w' => ∃ v, e = .returned v ∧ w'.ownsRow w.heap.size 5 1 v 0 [] ∧ Below w.heap.size w w' := by
  have d1 : decide ((n : Int) < 0) = false := decide_eq_false (by omega)
  by_cases h0 : n = 0
  · subst h0
    go_enter Try.func103, Try.ntmps103
    go_wp2_with fail
    go_ret
    exact ⟨_, rfl, World.ownsRow_nil _ _ _ _, Below.refl _ _⟩
  · have d2 : decide (0 < (n : Int)) = true := decide_eq_true (by omega)
    have d3 : decide (0 < n) = true := decide_eq_true (by omega)
    obtain ⟨i, hi, hz, hs, hb⟩ := info_parts (P := Try.prog) (e := 5) (z := .int .u8 0) (size := 1) (bytes := 1) (by kernel_rfl)
    have hr := Lib.run_append_nil_zeros (P := Try.prog) w 25 3 25 5 i (.int .u8 0) .i64 .i64 Try.underlying25 Try.underlying3 hi hz n (by omega) (by omega) (by omega) (by rw [hb]; omega)
    have hge := grownCap_ge w n 0 5
    have hle := grownCap_le_maxLen w n 0 5 (by unfold maxLen; omega)
    generalize grownCap w n 0 5 = C at *
    obtain ⟨m, rfl⟩ : ∃ m, C = n + m := ⟨C - n, by omega⟩
    rw [show n + m - n = m from by omega] at hr
    have hown := World.ownsRow_made (base := w.heap.size) w.drew (e := 5) (size := 1) (Builtin.zeroCells (Value.int .u8 0).cells n ++ Builtin.zeroCells (Value.int .u8 0).cells m) (n + m) (Nat.le_refl _) hle (by
      unfold Builtin.zeroCells
      rw [Array.size_append, Array.size_map, Array.size_map, Array.size_range, Array.size_range]
      show n * 1 + m * 1 = (n + m) * 1
      omega)
    have hb1 : Below w.heap.size w (w.drew.alloc (.cells (Builtin.zeroCells (Value.int .u8 0).cells n ++ Builtin.zeroCells (Value.int .u8 0).cells m) 5)) := ((Below.refl _ w).drew).alloc (Nat.le_refl _) _
    generalize w.drew.alloc (.cells (Builtin.zeroCells (Value.int .u8 0).cells n ++ Builtin.zeroCells (Value.int .u8 0).cells m) 5) = w1 at *
    have hcut := fun W => cut_to (some ⟨w.heap.size, 0, none⟩) n (n + m) 0 (by omega) (by omega) hle W
    have HR := Lib.hid hr
    have HO := Lib.hid hown
    have HB := Lib.hid hb1
    have HCUT := Lib.hid hcut
    unfold maxLen at hle
    clear hr hown hb1 h0 hi hz hs hb hcut
    go_enter Try.func103, Try.ntmps103
    go_wp2_with (at_builtin; refine Lib.wpList_append_run _ rfl _ _ _ _ rfl _ _ rfl rfl _ _ HR.out ?_)
    go_ret
    exact ⟨_, rfl, HO.out, HB.out⟩
def flatE (L : List E) : List Nat := L.flatMap E.bs
theorem flatE_take {L : List E} {j : Nat} {e : E} (h : L[j]? = some e) : flatE (L.take (j + 1)) = flatE (L.take j) ++ e.bs := by
  unfold flatE
  rw [take_next h, List.flatMap_append]
  simp
theorem flatE_le (L : List E) (j : Nat) : (flatE (L.take j)).length ≤ (flatE L).length := by
  conv => rhs; rw [← List.take_append_drop j L]
  unfold flatE
  rw [List.flatMap_append, List.length_append]
  omega
set_option maxRecDepth 100000 in
set_option maxHeartbeats 1600000 in
theorem concat_any (A : Option Addr) (c : Nat) (L : List E) (w : World) (h1 : Seqs w w.heap.size A c L) (hn : (flatE L).length ≤ 1000000000) :
    Calls Try.prog 83 #[.slice A L.length c] w (Made w.heap.size w (flatE L)) := by
  have H1 := Lib.hid h1
  have hc1 := h1.len
  have hm1 := h1.cap
  have HFL := Lib.hid (flatE_le L)
  unfold maxLen at hm1
  clear h1
  go_enter Try.func83, Try.ntmps83
  go_wp2_with fail
  go_loop [3, 11] (fun s i => ∃ j n : Nat, j ≤ L.length ∧ i = .int .i64 (j : Int) ∧ s = .int .i64 (n : Int) ∧ n ≤ 1000000000 ∧ Hid (n = (flatE (L.take j)).length)) (fun _ i => L.length + 1 - (intOf i).toNat)
  case atStart => exact ⟨0, 0, Nat.zero_le _, rfl, rfl, Nat.zero_le _, Lib.hid (by simp [flatE])⟩
  case round =>
    obtain ⟨j, n, hj, rfl, rfl, hn1, hnn⟩ := hrel
    by_cases hlt : j < L.length
    · obtain ⟨e, he⟩ : ∃ e, L[j]? = some e := ⟨_, List.getElem?_eq_getElem hlt⟩
      obtain ⟨ad, hA, hab, q0⟩ := H1.out.place he
      subst hA
      have hnx : n + e.bs.length = (flatE (L.take (j + 1))).length := by rw [flatE_take he, List.length_append, ← hnn.out]
      have hle : n + e.bs.length ≤ 1000000000 := by rw [hnx]; exact Nat.le_trans (HFL.out _) hn
      have HNX := Lib.hid hnx
      have d1 : decide ((n : Int) + (e.bs.length : Int) < 0) = false := decide_eq_false (by omega)
      clear hnx he
      go_wp2_with fail
      go_round
      case rel => exact ⟨j + 1, n + e.bs.length, by omega, by go_num, by go_num, hle, HNX⟩
      case measure => simp [intOf]; omega
    · obtain rfl : j = L.length := by omega
      have hg := grow_any n w (by omega)
      have HG := Lib.hid hg
      clear hg hnn
      go_wp2_with fail
      refine HG.out.mono ?_
      rintro e W1 ⟨v, rfl, ho, hb⟩
      have HO := Lib.hid ho
      have HB := Lib.hid hb
      clear ho hb HG
      go_wp2_with fail
      go_loopw [6, 27] (fun v i wr => ∃ j : Nat, j ≤ L.length ∧ i = .int .i64 (j : Int) ∧ Hid (wr.ownsRow w.heap.size 5 1 v (flatE (L.take j)).length ((flatE (L.take j)).map vb)) ∧ Hid (Below w.heap.size w wr)) (fun _ i _ => L.length + 1 - (intOf i).toNat)
      case atStart => exact ⟨0, Nat.zero_le _, rfl, Lib.hid (by simpa [flatE] using HO.out), HB⟩
      case round =>
        obtain ⟨j, hj, rfl, hown, hb⟩ := hrel
        by_cases hlt : j < L.length
        · obtain ⟨e, he⟩ : ∃ e, L[j]? = some e := ⟨_, List.getElem?_eq_getElem hlt⟩
          obtain ⟨ad, hA, hab, q0⟩ := (H1.out.below hb.out).place he
          subst hA
          have hel := (((H1.out.below hb.out).ok e (List.mem_of_getElem? he)).lies)
          have hle := HFL.out (j + 1)
          rw [flatE_take he, List.length_append] at hle
          have hfl0 := HFL.out j
          have HFE := Lib.hid (flatE_take he)
          generalize flatE (L.take j) = X at *
          obtain ⟨v', w1, hr, ho1, hon⟩ := append_bytes (c := e.c) hown.out hel (by omega) hb.out.size
          have HR := Lib.hid hr
          have HO1 : Hid (w1.ownsRow w.heap.size 5 1 v' (flatE (L.take (j + 1))).length ((flatE (L.take (j + 1))).map vb)) := Lib.hid (by rw [HFE.out]; exact ho1)
          have HB1 := Lib.hid (hb.out.trans (hon.below hown.out hb.out.size))
          clear hr ho1 hon hel he hle
          go_wp2_with (at_builtin; refine wpList_append_run rfl _ _ 25 rfl rfl rfl HR.out ?_)
          go_roundw
          case rel => exact ⟨j + 1, by omega, by go_num, HO1, HB1⟩
          case measure => simp [intOf]; omega
        · obtain rfl : j = L.length := by omega
          have hall : L.take L.length = L := List.take_of_length_le (Nat.le_refl _)
          rw [hall] at hown
          go_wp2_with fail
          go_ret
          exact ⟨_, rfl, hown.out, hb.out⟩
end Go.Proofs.Ytobjiamdljjkjaa.Tb

/- Package table: lay and Build. -/
namespace Go.Proofs.Ytobjiamdljjkjaa.Tb
set_option linter.unusedVariables false
set_option linter.unusedSimpArgs false
open Go.RowKit Lift Ik Sk Vn Bk Bl Sq
theorem lastT_last {L : List D} {m : Nat} {d : D} (h : L[m]? = some d) (hl : L.length = m + 1) : lastT (L.map D.t) = d.t := by
  have e : L = L.take m ++ [d] := by
    have := take_next h
    rw [← this, List.take_of_length_le (by omega)]
  rw [e, List.map_append, List.map_cons, List.map_nil, lastT_snoc]
theorem foot_load {w : World} {g a b c d e : Nat} (h : Lift.Box w g 119 [.int .u32 (a : Int), .int .u32 (b : Int), .int .u32 (c : Int), .int .u32 (d : Int), .int .u32 (e : Int)]) : Sem.run Try.prog (loadVar 119 ⟨g, 0, none⟩) w = .ok (fv a b c d e) w :=
  run_loadVar_row (P := Try.prog) w g 119 119 #[.int .u32 (a : Int), .int .u32 (b : Int), .int .u32 (c : Int), .int .u32 (d : Int), .int .u32 (e : Int)] (0, 0) _ h Try.underlying119 rfl (by kernel_rfl)
theorem flatten_take_le (ps : List (List T)) (j : Nat) : (ps.take j).flatten.length ≤ ps.flatten.length := by
  conv => rhs; rw [← List.take_append_drop j ps]
  rw [List.flatten_append, List.length_append]
  omega
theorem take_flat {ps : List (List T)} {j : Nat} {t : T} (h : t ∈ (ps.take j).flatten) : t ∈ ps.flatten := by
  obtain ⟨p, h1, h2⟩ := List.mem_flatten.1 h
  exact List.mem_flatten.2 ⟨p, List.mem_of_mem_take h1, h2⟩
set_option maxRecDepth 100000 in
set_option maxHeartbeats 6400000 in
theorem olayt_any (A Af : Option Addr) (c cf : Nat) (L : List D) (F : List Nat) (size every : Int) (w : World) (h1 : Ents w (· < w.heap.size) A c L) (hmt : mayT (L.map D.t) = 0)
    (hf : Lies w w.heap.size Af (F.map vb)) (hcf : F.length ≤ cf) (hmf : cf ≤ maxLen) (f8 : ∀ x, x ∈ F → x < 256) (hfn : F.length ≤ 20000000) :
    Calls Try.prog 47 #[.slice A L.length c, .int .i64 size, .int .i64 every, .slice Af F.length cf] w (Made w.heap.size w (tabF (clampS size) (clamp every) F (L.map D.t))) := by
  obtain ⟨hmay, htw, hne0⟩ := mayT_zero hmt
  obtain ⟨hok, -, hn⟩ := may_zero hmay
  rw [List.length_map] at hn
  have HOK : Hid (∀ d, d ∈ L → okT d.t = true) := Lib.hid fun d hd => hok _ (List.mem_map.2 ⟨d, hd, rfl⟩)
  have hLne : L ≠ [] := fun h => hne0 (by rw [h]; rfl)
  obtain ⟨ps, hps⟩ : ∃ ps, ps = parts (clampS size) [] (L.map D.t) := ⟨_, rfl⟩
  obtain ⟨ev, hev⟩ : ∃ ev, ev = clamp every := ⟨_, rfl⟩
  obtain ⟨e1, e2⟩ := clamp_in every
  rw [← hev] at e1 e2
  have hfl : ps.flatten = L.map D.t := by rw [hps, parts_flat, List.nil_append]
  have hpne : ∀ p, p ∈ ps → p ≠ [] := by rw [hps]; exact parts_some _ _ _
  have hmps : may ps.flatten = 0 := by rw [hfl]; exact hmay
  have HSP := Lib.hid (osplit_any A c L size w h1 hn hLne HOK.out)
  have HTF : Hid (tabF (clampS size) (clamp every) F (L.map D.t) = data ev ps ++ (F ++ (blk 1 (idx ev 0 ps) ++ (tail5 (data ev ps).length F.length ((data ev ps).length + F.length) (blk 1 (idx ev 0 ps)).length L.length ++ sum4 (tail5 (data ev ps).length F.length ((data ev ps).length + F.length) (blk 1 (idx ev 0 ps)).length L.length))))) := Lib.hid (by
    unfold tabF; dsimp only; rw [← hps, ← hev, List.length_map])
  rw [← hps] at HSP
  have HPL : Hid (ps.length ≤ 10000) := Lib.hid (by have h3 := flat_len ps hpne; rw [hfl, List.length_map] at h3; omega)
  have HDATA : Hid (∀ j, (data ev (ps.take j)).length ≤ 50000000) := Lib.hid fun j => by
    have h2 := data_le (every := ev) (ps.take j) (fun p hp => hpne p (List.mem_of_mem_take hp)) (fun t ht => by
      have := take_flat ht
      rw [hfl] at this
      exact hok t this)
    have h3 := flatten_take_le ps j
    rw [hfl, List.length_map] at h3
    omega
  have HPART : Hid (∀ p, p ∈ ps → p ≠ [] ∧ may p = 0) := Lib.hid fun p hp => ⟨hpne p hp, part_may hmps p hp⟩
  have HIDX : Hid (may (idx ev 0 ps) = 0) := Lib.hid (idx_may 0 hpne hmps (by rw [hfl]; exact htw))
  have HTOK : Hid (∀ t, t ∈ ps.flatten → TOk t) := Lib.hid fun t ht => by
    rw [hfl] at ht
    obtain ⟨d, hd, rfl⟩ := List.mem_map.1 ht
    exact ⟨HOK.out d hd, (h1.ok d hd).ok, (h1.ok d hd).v8⟩
  have H1 := Lib.hid h1
  have HF := Lib.hid hf
  have F8 := Lib.hid f8
  have HMF := Lib.hid hmf
  have HEV := Lib.hid hev
  have hc1 := h1.len
  have hm1 := h1.cap
  unfold maxLen at hm1 hmf
  clear h1 hf f8 hmt hmay htw hne0 hok hLne hfl hpne hmps hps hev
  go_enter Try.func47, Try.ntmps47
  go_wp2_with fail
  refine HSP.out.mono ?_
  rintro e W1 ⟨Ap, cp, Ps, rfl, hpts, hlp, hcp, hmp, hpe, hb1⟩
  have HPTS := Lib.hid hpts
  have HLP := Lib.hid hlp
  have HPE := Lib.hid hpe
  have HB1 := Lib.hid hb1
  have hPn : Ps.length ≤ 10000 := by have h2 := congrArg List.length hpts; rw [List.length_map] at h2; have := HPL.out; omega
  have HPSL : Hid (ps.length = Ps.length) := Lib.hid (by rw [← hpts, List.length_map])
  have hmp' := hmp
  unfold maxLen at hmp'
  clear hpts hlp hpe hb1 HSP hmp
  go_wp2_with fail
  have HT0 : Hid (Tw W1.heap.size W1 (.slice none 0 0) (.slice none 0 0) [] []) := Lib.hid (Tw.start W1)
  go_loopw [9, 10, 22] (fun vb' vi i wr => ∃ (j : Nat) (I : List D), j ≤ Ps.length ∧ i = .int .i64 (j : Int) ∧ I.length ≤ j ∧ Hid (Tw W1.heap.size wr vi vb' I (data ev (ps.take j))) ∧ Hid (I.map D.t = idx ev 0 (ps.take j)) ∧ Hid (Below W1.heap.size W1 wr))
    (fun _ _ i _ => Ps.length + 1 - (intOf i).toNat)
  case atStart => exact ⟨0, [], Nat.zero_le _, rfl, Nat.le_refl _, by simpa [data] using HT0, Lib.hid (by simp [idx]), Lib.hid (Below.refl _ _)⟩
  case round =>
    obtain ⟨j, I, hj, rfl, hIl, htw, hidx, hb⟩ := hrel
    have HBW : Hid (Below w.heap.size w wr) := Lib.hid (HB1.out.trans (hb.out.mono HB1.out.size))
    by_cases hlt : j < Ps.length
    · obtain ⟨p, hp⟩ : ∃ p, Ps[j]? = some p := ⟨_, List.getElem?_eq_getElem hlt⟩
      obtain ⟨ad, hA, hab, hcell⟩ := (((HLP.out.below hb.out).up hb.out.size)).place (by rw [List.length_map]; omega)
      have q0 : wr.cell? (ad.add j) = some (.slice p.a p.L.length p.c) := hcell j _ (by rw [List.getElem?_map, hp]; rfl)
      have hpt : ps[j]? = some p.ts := by rw [← HPTS.out, List.getElem?_map, hp]; rfl
      obtain ⟨hpn, hpm⟩ := HPART.out _ (List.mem_of_getElem? hpt)
      have hpe := HPE.out p (List.mem_of_getElem? hp)
      have hpl : p.L ≠ [] := fun h => hpn (by show p.L.map D.t = []; rw [h]; rfl)
      obtain ⟨m, hm⟩ : ∃ m, p.L.length = m + 1 := ⟨p.L.length - 1, by have := List.length_pos_iff.2 hpl; omega⟩
      obtain ⟨dm, hdm⟩ : ∃ dm, p.L[m]? = some dm := ⟨_, List.getElem?_eq_getElem (by omega)⟩
      obtain ⟨hpok, -, hpn4⟩ := may_zero hpm
      have hpn5 : p.L.length ≤ 10000 := by have : p.ts.length = p.L.length := List.length_map ..; omega
      have HBD := Lib.hid (obuild_any p.a p.c p.L every wr ((hpe.below HBW.out).mono fun k hk => Nat.lt_of_lt_of_le hk HBW.out.size) (by omega))
      have hbk := blk_le (every := ev) (ts := p.ts) hpok
      have htl : p.ts.length = p.L.length := List.length_map ..
      rw [htl] at hbk
      have hlast : lastT p.ts = dm.t := lastT_last hdm hm
      have HIX : Hid (idx ev 0 (ps.take (j + 1)) = idx ev 0 (ps.take j) ++ [ptr dm.t (data ev (ps.take j)).length (blk ev p.ts).length]) := Lib.hid (by rw [take_next hpt, idx_snoc, hlast, Nat.zero_add])
      have HDS : Hid (data ev (ps.take (j + 1)) = data ev (ps.take j) ++ blk ev p.ts) := Lib.hid (by rw [take_next hpt, data_snoc])
      have hXl := HDATA.out j
      have HPB : Hid (bldB every p.ts = blk ev p.ts) := Lib.hid (by rw [bldB_ok hpm, HEV.out])
      have HPM := Lib.hid hpm
      have HPEE := Lib.hid hpe
      have HDM := Lib.hid hdm
      have HM := Lib.hid hm
      obtain ⟨A11, c11, hv11, -, -, -⟩ := own_parts htw.out.bown
      subst hv11
      subst hA
      have hYl : (blk ev p.ts).length ≤ 50000000 := by omega
      clear hcell hpt hpn hpm hpe hpl hdm hpok hpn4 hbk htl hlast hp hm
      generalize data ev (ps.take j) = X at *
      generalize hYd : blk ev p.ts = Y at *
      clear hYd
      go_wp2_with fail
      refine HBD.out.mono ?_
      rintro e W2 ⟨v8, rfl, ho8, hb8⟩
      have hpb := HPB.out
      rw [show bldB every (p.L.map D.t) = Y from hpb] at ho8
      rw [show may (p.L.map D.t) = 0 from HPM.out]
      obtain ⟨A8, c8, hv8, m1, m2, m3⟩ := own_parts ho8
      subst hv8
      have HT2 := Lib.hid (htw.out.below hb8)
      have HB2 := Lib.hid (HBW.out.trans (hb8.mono HBW.out.size))
      have HB2' := Lib.hid (hb.out.trans (hb8.mono hb.out.size))
      have HO8 := Lib.hid ho8
      have HPT := Lib.hid (oindexe_any p.a p.c m p.L dm X.length Y.length w.heap.size W2 (HPEE.out.below HB2.out) HDM.out HM.out HB2.out.size (by omega) (by omega))
      clear m3 hb8 HBD ho8 hpb
      go_wp2_with fail
      refine HPT.out.mono ?_
      rintro e W3 ⟨d', rfl, hdt, hdok, hb3⟩
      have hT3 := HT2.out.below hb3
      have hO8 := own_later HO8.out hb3
      have hdR : d'.Ok W3 (Rb W1.heap.size W3 (.slice A11 X.length c11)) := hdok.mono fun k hk => by
        have hbl := HT2.out.bown
        rcases hk with h | ⟨h1, h2, h3⟩
        · have h := Nat.lt_of_lt_of_le h HB1.out.size
          exact ⟨Nat.lt_of_lt_of_le h (Nat.le_trans HB2'.out.size hb3.size), fun hv => absurd (hbl.lt k hv).1 (Nat.not_le_of_lt h), .inl h⟩
        · exact ⟨h2, fun hv => absurd (hbl.lt k hv).2 (Nat.not_lt_of_le h1), .inr h3⟩
      obtain ⟨v4, W4, hr4, hT4, hb4, hkeep4⟩ := hT3.entry hdR (by omega)
      obtain ⟨A8', c8', hv8', -, -, hl8⟩ := own_parts (hkeep4 _ _ _ _ hO8)
      injection hv8' with ha8 hn8 hc8
      subst ha8 hc8
      obtain ⟨v5, W5, hr5, hT5, hb5, -⟩ := hT4.bytes (c := c8) hl8 (by omega)
      have HR4 := Lib.hid hr4
      have HR5 := Lib.hid hr5
      have HT5 : Hid (Tw W1.heap.size W5 v4 v5 (I ++ [d']) (data ev (ps.take (j + 1)))) := Lib.hid (by rw [HDS.out]; exact hT5)
      have HI5 : Hid ((I ++ [d']).map D.t = idx ev 0 (ps.take (j + 1))) := Lib.hid (by rw [HIX.out, List.map_append, hidx.out, List.map_cons, List.map_nil, hdt])
      have HB5 := Lib.hid (((HB2'.out.trans (hb3.mono HB2'.out.size)).trans hb4).trans hb5)
      have hI5 : (I ++ [d']).length ≤ j + 1 := by rw [List.length_append, List.length_singleton]; omega
      clear hdt hdok hb3 hT3 hO8 hdR hr4 hT4 hb4 hkeep4 hl8 hr5 hT5 hb5 hn8 HPT
      go_wp2_with (first | (at_builtin; refine wpList_append_run rfl _ _ 22 rfl rfl rfl HR4.out ?_) | (at_builtin; refine wpList_append_run rfl _ _ 25 rfl rfl rfl HR5.out ?_))
      go_roundw
      case rel => exact ⟨j + 1, I ++ [d'], by omega, by go_num, hI5, HT5, HI5, HB5⟩
      case measure => simp [intOf]; omega
    · obtain rfl : j = Ps.length := by omega
      have hall : ps.take Ps.length = ps := List.take_of_length_le (by rw [HPSL.out]; exact Nat.le_refl _)
      have hXl := HDATA.out Ps.length
      rw [hall] at htw hidx hXl
      obtain ⟨A11, c11, hv11, b1, b2, b3⟩ := own_parts htw.out.bown
      subst hv11
      obtain ⟨A12, c12, hv12, i1, i2, -⟩ := own_parts htw.out.iown
      subst hv12
      have hIent : Ents wr (· < wr.heap.size) A12 c12 I := ⟨(LiesP.of_own htw.out.iown).later (fun _ _ => rfl) (fun k hk => hk.2.1), i1, i2, fun d hd => (htw.out.ok d hd).mono fun k hk => hk.1⟩
      have HBI := Lib.hid (obuild_any A12 c12 I 1 wr hIent (by omega))
      have hmi : may (I.map D.t) = 0 := by rw [hidx.out]; exact HIDX.out
      have HMI := Lib.hid hmi
      have hc1' : clamp (1 : Int) = 1 := rfl
      have HBB : Hid (bldB 1 (I.map D.t) = blk 1 (idx ev 0 ps)) := Lib.hid (by rw [bldB_ok hmi, hc1', hidx.out])
      have hGl : (blk 1 (idx ev 0 ps)).length ≤ 50000000 := by
        have h2 := blk_le (every := 1) (ts := idx ev 0 ps) (may_zero HIDX.out).1
        rw [idx_len] at h2
        have := HPL.out
        omega
      have X8 : Hid (∀ x, x ∈ data ev ps → x < 256) := Lib.hid (dataT_byte ev ps HTOK.out)
      have G8 : Hid (∀ x, x ∈ blk 1 (idx ev 0 ps) → x < 256) := Lib.hid (blkT_byte (idx_ok ps 0 (fun p hp => (HPART.out p hp).1) HTOK.out (by omega)))
      have HBO := Lib.hid htw.out.bown
      have HB11 := Lib.hid b3
      have HC11 := Lib.hid b1
      have HM11 := Lib.hid b2
      clear hall hIent hmi hc1' i1 i2 b1 b2 b3
      generalize data ev ps = X at *
      generalize blk 1 (idx ev 0 ps) = G at *
      go_wp2_with fail
      refine HBI.out.mono ?_
      rintro e W2 ⟨v8, rfl, ho8, hb8⟩
      rw [HBB.out] at ho8
      rw [HMI.out]
      obtain ⟨A8, c8, hv8, m1, m2, m3⟩ := own_parts ho8
      subst hv8
      have HL8 := Lib.hid m3
      have HC8 := Lib.hid m1
      have HM8 := Lib.hid m2
      have HB2 := Lib.hid (HBW.out.trans (hb8.mono HBW.out.size))
      have HB28 := Lib.hid hb8
      have HL11 := Lib.hid (HB11.out.below hb8)
      have ux : IntKind.u32.wrap (X.length : Int) = (X.length : Int) := IntWalk.u32_in _ (by omega)
      have uf : IntKind.u32.wrap (F.length : Int) = (F.length : Int) := IntWalk.u32_in _ (by omega)
      have uxf : IntKind.u32.wrap ((X.length : Int) + (F.length : Int)) = ((X.length + F.length : Nat) : Int) := by rw [IntWalk.u32_in _ (by omega)]; omega
      have ug : IntKind.u32.wrap (G.length : Int) = (G.length : Int) := IntWalk.u32_in _ (by omega)
      have ul : IntKind.u32.wrap (L.length : Int) = (L.length : Int) := IntWalk.u32_in _ (by omega)
      clear m1 m2 m3 hb8 ho8 HBI htw
      obtain ⟨xf, hxf⟩ : ∃ xf : Nat, xf = X.length + F.length := ⟨_, rfl⟩
      have exf : (X.length : Int) + (F.length : Int) = (xf : Int) := by omega
      have HXF := Lib.hid hxf
      obtain ⟨W3, hW3⟩ : ∃ W3 : World, W3 = W2.alloc (.cells #[.int .u32 (X.length : Int), .int .u32 (F.length : Int), .int .u32 (xf : Int), .int .u32 (G.length : Int), .int .u32 (L.length : Int)] 119) := ⟨_, rfl⟩
      have hx3 : Lift.Box W3 W2.heap.size 119 [.int .u32 (X.length : Int), .int .u32 (F.length : Int), .int .u32 (xf : Int), .int .u32 (G.length : Int), .int .u32 (L.length : Int)] := by rw [hW3]; exact Lift.Box.new W2 _ _
      have hld := foot_load hx3
      have x0 : W3.cell? ⟨W2.heap.size, 0, none⟩ = some (.int .u32 (X.length : Int)) := hx3.cell 0
      have x1 : W3.cell? ⟨W2.heap.size, 1, none⟩ = some (.int .u32 (F.length : Int)) := hx3.cell 1
      have x2 : W3.cell? ⟨W2.heap.size, 2, none⟩ = some (.int .u32 (xf : Int)) := hx3.cell 2
      have x3 : W3.cell? ⟨W2.heap.size, 3, none⟩ = some (.int .u32 (G.length : Int)) := hx3.cell 3
      have x4 : W3.cell? ⟨W2.heap.size, 4, none⟩ = some (.int .u32 (L.length : Int)) := hx3.cell 4
      have hb3 : Below W2.heap.size W2 W3 := by rw [hW3]; exact Joins.below_alloc1 W2 _
      have HB23 := Lib.hid hb3
      have HFB := Lib.hid (ofbytes_any X.length F.length xf G.length L.length W3 (by omega) (by omega) (by omega) (by omega) (by omega))
      have HZL : Hid ((tail5 X.length F.length xf G.length L.length ++ sum4 (tail5 X.length F.length xf G.length L.length)).length = 24) := Lib.hid (by rw [List.length_append, tail5_len, sum4_len])
      have Z8 : Hid (∀ x, x ∈ tail5 X.length F.length xf G.length L.length ++ sum4 (tail5 X.length F.length xf G.length L.length) → x < 256) := Lib.hid (by
        intro x hx
        rcases List.mem_append.1 hx with h | h
        · exact tail5_byte _ _ _ _ _ x h
        · exact sum4_byte _ x h)
      have HTF2 : Hid (tabF (clampS size) (clamp every) F (L.map D.t) = X ++ (F ++ (G ++ (tail5 X.length F.length xf G.length L.length ++ sum4 (tail5 X.length F.length xf G.length L.length))))) := Lib.hid (by rw [HTF.out, HXF.out])
      clear hx3 hb3 hxf HTF
      generalize tail5 X.length F.length xf G.length L.length ++ sum4 (tail5 X.length F.length xf G.length L.length) = Z at *
      go_upto_region 12 with fail
      rw [← hW3]
      clear hW3 ux uf uxf ug ul exf
      go_wp2_with fail
      refine HFB.out.mono ?_
      intro e W4 hmade
      obtain ⟨v9, rfl, -, ⟨A9, c9, hv9, m1, m2, m3⟩, hb4⟩ := made_byts hmade
      subst hv9
      obtain ⟨o, ho⟩ : ∃ o : Obj, o = .cells #[.slice A11 X.length c11, .slice Af F.length cf, .slice A8 G.length c8, .slice A9 Z.length c9] 25 := ⟨_, rfl⟩
      have hb5 : Below W4.heap.size W4 (W4.alloc o) := Joins.below_alloc1 W4 o
      have h24 : Below W2.heap.size W2 (W4.alloc o) := (HB23.out.trans (hb4.mono HB23.out.size)).trans (hb5.mono (Nat.le_trans HB23.out.size hb4.size))
      have hsq : Seqs (W4.alloc o) (W4.alloc o).heap.size (some ⟨W4.heap.size, 0, none⟩) 4 [(⟨A11, c11, X⟩ : E), ⟨Af, cf, F⟩, ⟨A8, c8, G⟩, ⟨A9, c9, Z⟩] := by
        refine ⟨?_, Nat.le_refl _, by decide, fun e he => ?_⟩
        · rw [ho]
          exact lies_block (cs := #[.slice A11 X.length c11, .slice Af F.length cf, .slice A8 G.length c8, .slice A9 Z.length c9]) (heap_alloc_new W4 _) (by simp)
        · simp at he
          rcases he with rfl | rfl | rfl | rfl
          · exact ⟨((HL11.out.up HB28.out.size).below h24).up h24.size, HC11.out, HM11.out, X8.out⟩
          · exact ⟨((HF.out.below HB2.out).up HB2.out.size |>.below h24).up h24.size, hcf, HMF.out, F8.out⟩
          · exact ⟨(HL8.out.below h24).up h24.size, HC8.out, HM8.out, G8.out⟩
          · exact ⟨(m3.below hb5).up hb5.size, m1, m2, Z8.out⟩
      have hfe : flatE [(⟨A11, c11, X⟩ : E), ⟨Af, cf, F⟩, ⟨A8, c8, G⟩, ⟨A9, c9, Z⟩] = X ++ (F ++ (G ++ Z)) := by simp [flatE]
      have HCN := Lib.hid (concat_any _ _ _ _ hsq (by rw [hfe, List.length_append, List.length_append, List.length_append, HZL.out]; omega))
      rw [hfe] at HCN
      have HBF := Lib.hid (HB2.out.trans (h24.mono HB2.out.size))
      clear hmade m1 m2 m3 hb4 hb5 h24 hsq hfe HFB
      rw [ho] at HCN HBF
      clear ho
      go_wp2_with fail
      refine HCN.out.mono ?_
      intro e W6 hmade
      obtain ⟨v6, rfl, ho6, hb6⟩ := hmade
      have HO6 := Lib.hid (own_lower ho6 HBF.out.size)
      have HB6 := Lib.hid (HBF.out.trans (hb6.mono HBF.out.size))
      clear ho6 hb6 HCN
      go_wp2_with fail
      go_ret
      exact ⟨_, rfl, by rw [HTF2.out]; exact HO6.out, HB6.out⟩
set_option maxRecDepth 100000 in
set_option maxHeartbeats 1600000 in
theorem obuildt_any (A : Option Addr) (c : Nat) (L : List D) (size every bits : Int) (w : World) (h1 : Ents w (· < w.heap.size) A c L) (hn : L.length ≤ 1000000) :
    Calls Try.prog 26 #[.slice A L.length c, .int .i64 size, .int .i64 every, .int .i64 bits] w (Tabd w size every bits (L.map D.t)) := by
  have HCK := Lib.hid (ochkt_any A c L w h1 hn)
  have hml := mayT_le (L.map D.t)
  by_cases hmt : mayT (L.map D.t) = 0
  · have HMT := Lib.hid hmt
    have HTB : Hid (tabB size every bits (L.map D.t) = tabF (clampS size) (clamp every) (bloomB (users none (L.map D.t)) (clampB bits)) (L.map D.t)) := Lib.hid (by rw [tabB_ok hmt, tab_F])
    have hL4 := (may_zero (mayT_zero hmt).1).2.2
    rw [List.length_map] at hL4
    have hFl : (bloomB (users none (L.map D.t)) (clampB bits)).length ≤ 60000 := by
      rw [bloomB_len]
      have h1 := users_len (L.map D.t) none
      rw [List.length_map] at h1
      have h2 : (users none (L.map D.t)).length * clampB bits ≤ 10000 * 40 := Nat.mul_le_mul (by omega) (clampB_in bits).2
      unfold mOf
      omega
    have hUl : (users none (L.map D.t)).length ≤ 1000000 := by
      have h1 := users_len (L.map D.t) none
      rw [List.length_map] at h1
      omega
    have H1 := Lib.hid h1
    have F8 := Lib.hid (bloomB_byte (users none (L.map D.t)) (clampB bits))
    rw [hmt] at HCK
    clear h1 hmt hml hL4
    go_enter Try.func26, Try.ntmps26
    go_wp2_with fail
    refine HCK.out.mono ?_
    rintro e W1 ⟨rfl, hb1⟩
    have HB1 := Lib.hid hb1
    have HU := Lib.hid (ouserst_any A c L W1 (H1.out.next hb1) hn)
    clear hb1 HCK
    go_wp2_with fail
    refine HU.out.mono ?_
    rintro e W3 ⟨Au, cu, Es, rfl, hEs, hSq, hb3⟩
    have hEl : Es.length ≤ 1000000 := by have := congrArg List.length hEs; rw [List.length_map] at this; omega
    have HBL : Hid (Calls Try.prog 48 #[.slice Au Es.length cu, .int .i64 bits] W3 (Made W3.heap.size W3 (bloomB (users none (L.map D.t)) (clampB bits)))) := Lib.hid (by
      have h := obloom_any Au cu W3.heap.size Es bits W3 hSq (Nat.le_refl _) hEl
      rwa [hEs] at h)
    have HB3 := Lib.hid (HB1.out.trans (hb3.mono HB1.out.size))
    clear hEs hSq hb3 HU
    generalize bloomB (users none (L.map D.t)) (clampB bits) = F at *
    go_wp2_with fail
    refine HBL.out.mono ?_
    intro e W4 hmade
    obtain ⟨v4, rfl, -, ⟨A4, c4, hv4, m1, m2, m3⟩, hb4⟩ := made_byts hmade
    subst hv4
    have HB4 := Lib.hid (HB3.out.trans (hb4.mono HB3.out.size))
    have HLY := Lib.hid (olayt_any A A4 c c4 L F size every W4 (H1.out.next HB4.out) HMT.out m3 m1 m2 F8.out (by omega))
    clear hmade m1 m2 m3 hb4 HBL
    rw [← HTB.out] at HLY
    go_wp2_with fail
    refine HLY.out.mono ?_
    intro e W5 hmade
    obtain ⟨v5, rfl, ho5, hb5⟩ := hmade
    have HO5 := Lib.hid (own_lower ho5 HB4.out.size)
    have HB5 := Lib.hid (HB4.out.trans (hb5.mono HB4.out.size))
    clear ho5 hb5 HLY
    go_wp2_with fail
    go_returns
    exact ⟨_, by rw [HMT.out]; rfl, HO5.out, HB5.out⟩
  · have d1 : ((mayT (L.map D.t) : Int) != 0) = true := by rw [bne_iff_ne]; omega
    have HM := Lib.hid hmt
    obtain ⟨n, hn2⟩ : ∃ n, n = mayT (L.map D.t) := ⟨_, rfl⟩
    have HN := Lib.hid hn2
    rw [← hn2] at HCK d1 hml
    clear hmt h1 hn2
    go_enter Try.func26, Try.ntmps26
    go_wp2_with fail
    refine HCK.out.mono ?_
    rintro e W1 ⟨rfl, hb1⟩
    have HB1 := Lib.hid hb1
    clear hb1 HCK
    go_wp2_with fail
    go_returns
    exact Tabd.no HN.out.symm (by rw [HN.out]; exact HM.out) HB1.out
end Go.Proofs.Ytobjiamdljjkjaa.Tb

/- Package table: the entries of an index: where a block is, and of which entries. -/
namespace Go.Proofs.Ytobjiamdljjkjaa.Tb
set_option linter.unusedVariables false
set_option linter.unusedSimpArgs false
open Go.RowKit Lift Ik Sk Vn Bk Bl Sq
open Vt (res)
theorem dec_back : ∀ (n : Nat) (l : List Nat) (i y x k : Nat), i + n = 9 → y < 2 ^ (7 * i) → (∀ c, c ∈ l → c < 256) → dec l i y = (x, k, 0) →
    ∃ z rest, x = y + z * 2 ^ (7 * i) ∧ l = encN n z ++ rest ∧ k = i + (encN n z).length ∧ (0 < i → 0 < z) ∧ z < 2 * 128 ^ n := by
  intro n
  induction n with
  | zero =>
    intro l i y x k hi hy hb h
    cases l with
    | nil => simp [dec] at h
    | cons c l =>
      simp only [dec] at h
      split at h
      · simp at h
      · rename_i hn
        have hc : c < 128 := by omega
        rw [if_pos hc] at h
        simp only [Prod.mk.injEq] at h
        refine ⟨c, l, ?_, rfl, ?_, fun _ => by omega, by simp; omega⟩
        · rw [← h.1, put_add i y c hy, Nat.mod_eq_of_lt hc]
        · rw [← h.2.1]; rfl
  | succ n ih =>
    intro l i y x k hi hy hb h
    cases l with
    | nil => simp [dec] at h
    | cons c l =>
      have c8 := hb c (by simp)
      simp only [dec] at h
      split at h
      · simp at h
      · rename_i hn
        split at h
        · rename_i hc
          simp only [Prod.mk.injEq] at h
          refine ⟨c, l, ?_, ?_, ?_, fun _ => by omega, ?_⟩
          · rw [← h.1, put_add i y c hy, Nat.mod_eq_of_lt hc]
          · unfold encN; rw [if_pos hc]; rfl
          · unfold encN; rw [if_pos hc, ← h.2.1]; rfl
          · have : 0 < 128 ^ n := Nat.pow_pos (by decide)
            rw [Nat.pow_succ]; omega
        · rename_i hc
          obtain ⟨z, rest, e1, e2, e3, e4, e5⟩ := ih l (i + 1) _ x k (by omega) (put_lt i y c hy) (fun d hd => hb d (by simp [hd])) h
          have hz := e4 (by omega)
          have q1 : (c % 128 + 128 * z) % 128 = c % 128 := by omega
          have q2 : (c % 128 + 128 * z) / 128 = z := by omega
          have q3 : c % 128 + 128 = c := by omega
          have q4 : encN (n + 1) (c % 128 + 128 * z) = c :: encN n z := by
            conv => lhs; unfold encN
            rw [if_neg (by omega), q1, q2, q3]
          refine ⟨c % 128 + 128 * z, rest, ?_, ?_, ?_, fun _ => by omega, ?_⟩
          · rw [e1, put_add i y c hy, show 7 * (i + 1) = 7 * i + 7 by omega, Nat.pow_add, Nat.add_mul, Nat.add_assoc]
            congr 2
            rw [show (2 : Nat) ^ 7 = 128 from rfl, Nat.mul_comm (2 ^ (7 * i)) 128, ← Nat.mul_assoc, Nat.mul_comm z 128]
          · rw [q4, e2]; rfl
          · rw [q4, e3, List.length_cons]; omega
          · rw [Nat.pow_succ]; omega
theorem res_back {bs : List Nat} {p x a : Nat} (hb : ∀ c, c ∈ bs → c < 256) (h : res bs (p : Nat) = (x, a, 0)) : ∃ rest, bs.drop p = enc x ++ rest ∧ a = p + (enc x).length := by
  unfold res at h
  by_cases h1 : ((p : Nat) : Int) < 0 ∨ (bs.length : Int) < ((p : Nat) : Int)
  · rw [if_pos h1] at h
    injection h with _ h
    injection h with _ h
    cases h
  · rw [if_neg h1, Int.toNat_natCast] at h
    injection h with hc h
    injection h with ha he
    rw [if_pos he] at ha
    obtain ⟨z, rest, e1, e2, e3, -, -⟩ := dec_back 9 (bs.drop p) 0 0 x (decAt bs p).2.1 (by omega) (by simp) (fun c hc => hb c (List.mem_of_mem_drop hc)) (by
      show decAt bs p = _
      rw [← hc, ← he])
    obtain rfl : x = z := by rw [e1]; simp
    exact ⟨rest, e2, by rw [← ha, e3]; show p + (0 + (enc x).length) = _; omega⟩
/-- The length that an entry of the index tells of a block at a place. -/
def lenA (v : List Nat) (a : Nat) : Option Nat :=
  if (res v 0).2.2 ≠ 0 ∨ (res v 0).1 ≠ a then none else if (res v ((res v 0).2.1 : Nat)).2.2 ≠ 0 ∨ (res v ((res v 0).2.1 : Nat)).2.1 ≠ v.length then none else some (res v ((res v 0).2.1 : Nat)).1
theorem lenA_enc {v : List Nat} {a n : Nat} (hb : ∀ c, c ∈ v → c < 256) (h : lenA v a = some n) : v = enc a ++ enc n ∧ n < 18446744073709551616 ∧ n = (res v ((res v 0).2.1 : Nat)).1 := by
  unfold lenA at h
  split at h
  · cases h
  · rename_i h1
    split at h
    · cases h
    · rename_i h2
      injection h with h
      have r1 : res v ((0 : Nat) : Int) = (a, (res v 0).2.1, 0) := by
        have e : (res v 0).2.2 = 0 := by omega
        have e2 : (res v 0).1 = a := by omega
        show res v 0 = _
        rw [← e, ← e2]
      have r2 : res v (((res v 0).2.1 : Nat) : Int) = (n, v.length, 0) := by
        have e : (res v ((res v 0).2.1 : Nat)).2.2 = 0 := by omega
        have e2 : (res v ((res v 0).2.1 : Nat)).2.1 = v.length := by omega
        rw [← e, ← e2, ← h]
      obtain ⟨s1, a1, a2⟩ := res_back hb r1
      obtain ⟨s2, b1, b2⟩ := res_back hb r2
      rw [List.drop_zero] at a1
      rw [Nat.zero_add] at a2
      have h3 := (res_ok r2).1
      refine ⟨?_, h3, h.symm⟩
      rw [a2, a1, List.drop_left] at b1
      have h4 : s2 = [] := by
        have l1 := congrArg List.length a1
        have l2 := congrArg List.length b1
        rw [List.length_append] at l1 l2
        exact List.eq_nil_of_length_eq_zero (by omega)
      rw [a1, b1, h4, List.append_nil]
/-- What lengthAt answers. -/
def lenV (o : Option Nat) : Value := match o with
  | some n => .tuple #[.int .u64 (n : Int), .bool true]
  | none => .tuple #[.int .u64 0, .bool false]
theorem told_eq (r : Nat × Nat × Nat) : Vt.told r = .returned (.tuple #[.int .u64 (r.1 : Int), .int .i64 (r.2.1 : Int), .int .i64 (r.2.2 : Int)]) := rfl
set_option maxRecDepth 100000 in
set_option maxHeartbeats 1600000 in
theorem lenat_any (A : Option Addr) (c B a : Nat) (v : List Nat) (w : World) (hl : Lies w B A (v.map vb)) (hc : v.length ≤ c) (hm : c ≤ maxLen) (v8 : ∀ x, x ∈ v → x < 256) (ha : a < 9223372036854775808) :
    Calls Try.prog 111 #[.slice A v.length c, .int .i64 (a : Int)] w fun e w' => e = .returned (lenV (lenA v a)) ∧ w = w' := by
  have hml : v.length ≤ maxLen := Nat.le_trans hc hm
  have HG1 := Lib.hid (Vt.get_calls A c B v 0 w hl hc hml v8)
  have HG2 := Lib.hid (Vt.get_calls A c B v ((res v 0).2.1 : Nat) w hl hc hml v8)
  have hu := IntWalk.u64_in (a : Int) (by omega)
  have HLA : Hid (lenA v a = if (res v 0).2.2 ≠ 0 ∨ (res v 0).1 ≠ a then none else if (res v ((res v 0).2.1 : Nat)).2.2 ≠ 0 ∨ (res v ((res v 0).2.1 : Nat)).2.1 ≠ v.length then none else some (res v ((res v 0).2.1 : Nat)).1) := Lib.hid rfl
  generalize lenA v a = LA at *
  generalize hR2 : res v ((res v 0).2.1 : Nat) = R2 at *
  generalize hR1 : res v 0 = R1 at *
  clear hR1 hR2 hl v8
  obtain ⟨x1, t1, f1⟩ := R1
  obtain ⟨x2, t2, f2⟩ := R2
  dsimp only at *
  unfold maxLen at hm hml
  by_cases k1 : f1 = 0
  · subst k1
    by_cases k2 : x1 = a
    · subst k2
      have b1 : ((x1 : Int) != (x1 : Int)) = false := by simp
      by_cases k3 : f2 = 0
      · subst k3
        by_cases k4 : t2 = v.length
        · have E := Lib.hid (show LA = some x2 by rw [HLA.out, if_neg (by simp), if_neg (by simp [k4])])
          have b2 : ((t2 : Int) != (v.length : Int)) = false := by rw [k4]; simp
          clear k4 HLA
          rw [told_eq] at HG1 HG2
          go_enter Try.func111, Try.ntmps111
          go_wp2_with fail
          refine HG1.out.mono ?_; rintro e w' ⟨rfl, rfl⟩
          go_wp2_with fail
          refine HG2.out.mono ?_; rintro e w' ⟨rfl, rfl⟩
          go_wp2_with fail
          go_returns
          exact ⟨by rw [E.out]; rfl, rfl⟩
        · have E := Lib.hid (show LA = none by rw [HLA.out, if_neg (by simp), if_pos (.inr k4)])
          have b2 : ((t2 : Int) != (v.length : Int)) = true := by rw [bne_iff_ne]; omega
          clear k4 HLA
          rw [told_eq] at HG1 HG2
          go_enter Try.func111, Try.ntmps111
          go_wp2_with fail
          refine HG1.out.mono ?_; rintro e w' ⟨rfl, rfl⟩
          go_wp2_with fail
          refine HG2.out.mono ?_; rintro e w' ⟨rfl, rfl⟩
          go_wp2_with fail
          go_returns
          exact ⟨by rw [E.out]; rfl, rfl⟩
      · have E := Lib.hid (show LA = none by rw [HLA.out, if_neg (by simp), if_pos (.inl k3)])
        have b2 : ((f2 : Int) != 0) = true := by rw [bne_iff_ne]; omega
        clear k3 HLA
        rw [told_eq] at HG1 HG2
        go_enter Try.func111, Try.ntmps111
        go_wp2_with fail
        refine HG1.out.mono ?_; rintro e w' ⟨rfl, rfl⟩
        go_wp2_with fail
        refine HG2.out.mono ?_; rintro e w' ⟨rfl, rfl⟩
        go_wp2_with fail
        go_returns
        exact ⟨by rw [E.out]; rfl, rfl⟩
    · have E := Lib.hid (show LA = none by rw [HLA.out, if_pos (.inr k2)])
      have b1 : ((x1 : Int) != (a : Int)) = true := by rw [bne_iff_ne]; omega
      clear k2 HLA
      rw [told_eq] at HG1
      go_enter Try.func111, Try.ntmps111
      go_wp2_with fail
      refine HG1.out.mono ?_; rintro e w' ⟨rfl, rfl⟩
      go_wp2_with fail
      go_returns
      exact ⟨by rw [E.out]; rfl, rfl⟩
  · have E := Lib.hid (show LA = none by rw [HLA.out, if_pos (.inl k1)])
    have b1 : ((f1 : Int) != 0) = true := by rw [bne_iff_ne]; omega
    clear k1 HLA
    rw [told_eq] at HG1
    go_enter Try.func111, Try.ntmps111
    go_wp2_with fail
    refine HG1.out.mono ?_; rintro e w' ⟨rfl, rfl⟩
    go_wp2_with fail
    go_returns
    exact ⟨by rw [E.out]; rfl, rfl⟩
open Classical in
/-- What pointsTo answers. -/
noncomputable def ptsB (k : K) (ts : List T) : Bool := decide (ts ≠ [] ∧ k = ⟨(lastT ts).k.key, (lastT ts).k.seq, 1⟩)
theorem ptsB_iff (k : K) (ts : List T) : ptsB k ts = true ↔ ts ≠ [] ∧ k = ⟨(lastT ts).k.key, (lastT ts).k.seq, 1⟩ := by unfold ptsB; simp only [decide_eq_true_eq]
theorem ptsB_nil (k : K) : ptsB k [] = false := by rw [← Bool.not_eq_true, ptsB_iff]; exact fun h => h.1 rfl
theorem ptsB_some {k : K} {L : List D} {m : Nat} {d : D} (hm : L[m]? = some d) (hl : L.length = m + 1) (a n : Nat) : ptsB k (L.map D.t) = (cmpK k (ptr d.t a n).k == 0) := by
  rw [Bool.eq_iff_iff, ptsB_iff, lastT_last hm hl, beq_iff_eq, cmpK_zero]
  have hne : L.map D.t ≠ [] := fun h => by have := congrArg List.length h; rw [List.length_map, hl] at this; cases this
  obtain ⟨k1, k2, k3⟩ := k
  constructor
  · rintro ⟨-, h⟩
    injection h with e1 e2 e3
    exact ⟨e1, e2, e3⟩
  · rintro ⟨e1, e2, e3⟩
    refine ⟨hne, ?_⟩
    show (⟨k1, k2, k3⟩ : K) = ⟨d.t.k.key, d.t.k.seq, 1⟩
    rw [show k1 = d.t.k.key from e1, show k2 = d.t.k.seq from e2, show k3 = 1 from e3]
theorem fieldk (d : D) (W : World) : Sem.run Try.prog (Instr.field 48 d.v 0) W = .ok (key d.ka d.kc d.k) W := by kernel_rfl
set_option maxRecDepth 100000 in
set_option maxHeartbeats 1600000 in
theorem ptsto_any (Ak A : Option Addr) (ck c : Nat) (k : K) (L : List D) (w : World) (hk : At w w.heap.size Ak ck k) (h1 : Ents w (· < w.heap.size) A c L) :
    Calls Try.prog 112 #[key Ak ck k, .slice A L.length c] w fun e w' => e = .returned (.bool (ptsB k (L.map D.t))) ∧ Below w.heap.size w w' := by
  obtain ⟨W0, hW0⟩ : ∃ W0 : World, W0 = w.alloc (.cells #[.slice Ak k.key.length ck, .int .u64 (k.seq : Int), .int .i64 k.kind] 38) := ⟨_, rfl⟩
  have hb0 : Below w.heap.size w W0 := by rw [hW0]; exact Joins.below_alloc1 w _
  have hx0 : Lift.Box W0 w.heap.size 38 [.slice Ak k.key.length ck, .int .u64 (k.seq : Int), .int .i64 k.kind] := by rw [hW0]; exact Lift.Box.new w _ _
  have HX := Lib.hid hx0
  have HB0 := Lib.hid hb0
  have H1 := Lib.hid h1
  have HK := Lib.hid hk
  have hc1 := h1.len
  have hm1 := h1.cap
  unfold maxLen at hm1
  clear hb0 hx0 h1 hk
  by_cases h0 : L.length = 0
  · have HE : Hid (ptsB k (L.map D.t) = false) := Lib.hid (by rw [List.length_eq_zero_iff.1 h0]; exact ptsB_nil k)
    have d0 : decide (0 < (L.length : Int)) = false := decide_eq_false (by omega)
    have d0' : decide (0 < L.length) = false := decide_eq_false (by omega)
    clear h0
    go_enter Try.func112, Try.ntmps112
    go_upto_region 1 with fail
    rw [← hW0]
    clear hW0
    refine wp_region_held_drew (S := fun w' => Hid (Below W0.heap.size W0 w')) (by kernel_rfl) (Lib.hid (Below.refl _ _).drew) (fun hS => ?_)
    refine wpAnyH_take (i := 0) (v := ?_) rfl (by kernel_rfl) (by kernel_rfl) (by kernel_rfl) (fun _ _ _ h => h) (Or.inl ⟨by rfl, ?_⟩) hS ?_
    rotate_left
    · intro wi hw
      go_simp
      try with_reducible rfl
    try simp only [Act.put, List.getElem_toArray, List.getElem_cons_succ, List.getElem_cons_zero, List.setIfInBounds_toArray, List.set_cons_zero, List.set_cons_succ]
    refine wpAnyH_take (i := 1) (v := ?_) rfl (by kernel_rfl) (by kernel_rfl) (by kernel_rfl) (fun _ _ _ h => h) (Or.inl ⟨by rfl, ?_⟩) hS ?_
    rotate_left
    · intro wi hw
      go_simp
      try with_reducible rfl
    try simp only [Act.put, List.getElem_toArray, List.getElem_cons_succ, List.getElem_cons_zero, List.setIfInBounds_toArray, List.set_cons_zero, List.set_cons_succ]
    refine wpAnyH_take (i := 2) (v := ?_) rfl (by kernel_rfl) (by kernel_rfl) (by kernel_rfl) (fun _ _ _ h => h) (Or.inl ⟨by rfl, ?_⟩) hS ?_
    rotate_left
    · intro wi hw
      go_simp
      try with_reducible rfl
    try simp only [Act.put, List.getElem_toArray, List.getElem_cons_succ, List.getElem_cons_zero, List.setIfInBounds_toArray, List.set_cons_zero, List.set_cons_succ]
    refine wpAnyH_take (i := 3) (v := ?_) rfl (by kernel_rfl) (by kernel_rfl) (by kernel_rfl) (fun _ _ _ h => h) (Or.inl ⟨by rfl, ?_⟩) hS ?_
    rotate_left
    · intro wi hw
      go_simp
      try with_reducible rfl
    try simp only [Act.put, List.getElem_toArray, List.getElem_cons_succ, List.getElem_cons_zero, List.setIfInBounds_toArray, List.set_cons_zero, List.set_cons_succ]
    refine wpAnyH_take (i := 4) (v := undef) rfl (by kernel_rfl) (by kernel_rfl) (by kernel_rfl) (fun _ _ _ h => h) (Or.inr ⟨by rfl, rfl⟩) hS ?_
    try simp only [Act.put, List.getElem_toArray, List.getElem_cons_succ, List.getElem_cons_zero, List.setIfInBounds_toArray, List.set_cons_zero, List.set_cons_succ]
    refine wpAnyH_take (i := 5) (v := undef) rfl (by kernel_rfl) (by kernel_rfl) (by kernel_rfl) (fun _ _ _ h => h) (Or.inr ⟨by rfl, rfl⟩) hS ?_
    try simp only [Act.put, List.getElem_toArray, List.getElem_cons_succ, List.getElem_cons_zero, List.setIfInBounds_toArray, List.set_cons_zero, List.set_cons_succ]
    refine wpAnyH_take (i := 6) (v := undef) rfl (by kernel_rfl) (by kernel_rfl) (by kernel_rfl) (fun _ _ _ h => h) (Or.inr ⟨by rfl, rfl⟩) hS ?_
    try simp only [Act.put, List.getElem_toArray, List.getElem_cons_succ, List.getElem_cons_zero, List.setIfInBounds_toArray, List.set_cons_zero, List.set_cons_succ]
    refine wpAnyH_take (i := 7) (v := undef) rfl (by kernel_rfl) (by kernel_rfl) (by kernel_rfl) (fun _ _ _ h => h) (Or.inr ⟨by rfl, rfl⟩) hS ?_
    try simp only [Act.put, List.getElem_toArray, List.getElem_cons_succ, List.getElem_cons_zero, List.setIfInBounds_toArray, List.set_cons_zero, List.set_cons_succ]
    refine wpAnyH_take (i := 8) (v := undef) rfl (by kernel_rfl) (by kernel_rfl) (by kernel_rfl) (fun _ _ _ h => h) (Or.inr ⟨by rfl, rfl⟩) hS ?_
    try simp only [Act.put, List.getElem_toArray, List.getElem_cons_succ, List.getElem_cons_zero, List.setIfInBounds_toArray, List.set_cons_zero, List.set_cons_succ]
    refine wpAnyH_take (i := 9) (v := undef) rfl (by kernel_rfl) (by kernel_rfl) (by kernel_rfl) (fun _ _ _ h => h) (Or.inr ⟨by rfl, rfl⟩) hS ?_
    try simp only [Act.put, List.getElem_toArray, List.getElem_cons_succ, List.getElem_cons_zero, List.setIfInBounds_toArray, List.set_cons_zero, List.set_cons_succ]
    refine wpAnyH_take (i := 10) (v := ?_) rfl (by kernel_rfl) (by kernel_rfl) (by kernel_rfl) (fun _ _ _ h => h) (Or.inl ⟨by rfl, ?_⟩) hS ?_
    rotate_left
    · intro wi hw
      go_simp
      try with_reducible rfl
    try simp only [Act.put, List.getElem_toArray, List.getElem_cons_succ, List.getElem_cons_zero, List.setIfInBounds_toArray, List.set_cons_zero, List.set_cons_succ]
    refine wpAnyH_take (i := 11) (v := ?_) rfl (by kernel_rfl) (by kernel_rfl) (by kernel_rfl) (fun _ _ _ h => h) (Or.inl ⟨by rfl, ?_⟩) hS ?_
    rotate_left
    · intro wi hw
      go_simp
      try with_reducible rfl
    try simp only [Act.put, List.getElem_toArray, List.getElem_cons_succ, List.getElem_cons_zero, List.setIfInBounds_toArray, List.set_cons_zero, List.set_cons_succ]
    refine wpAnyH_done (by kernel_rfl) ?_ _
    have hfin := HB0.out.trans (hS.out.mono HB0.out.size)
    clear hS
    go_wp2_with fail
    go_ret
    exact ⟨by rw [HE.out]; rfl, hfin⟩
  · obtain ⟨m, hm⟩ : ∃ m, L.length = m + 1 := ⟨L.length - 1, by omega⟩
    obtain ⟨d, hd⟩ : ∃ d, L[m]? = some d := ⟨_, List.getElem?_eq_getElem (by omega)⟩
    have HE := Lib.hid (ptsB_some (k := k) hd hm 0 0)
    have HPT := Lib.hid (fun (W : World) (hb : Below W0.heap.size W0 W) => oindexe_any A c m L d 0 0 w.heap.size W (H1.out.below (HB0.out.trans (hb.mono HB0.out.size))) hd hm (Nat.le_trans HB0.out.size hb.size) (by decide) (by decide))
    have d0 : decide (0 < (L.length : Int)) = true := decide_eq_true (by omega)
    have d0' : decide (0 < L.length) = true := decide_eq_true (by omega)
    clear h0 hm hd
    go_enter Try.func112, Try.ntmps112
    go_upto_region 1 with fail
    rw [← hW0]
    clear hW0
    refine wp_region_held_drew (S := fun w' => Hid (Below W0.heap.size W0 w')) (by kernel_rfl) (Lib.hid (Below.refl _ _).drew) (fun hS => ?_)
    refine wpAnyH_take (i := 0) (v := ?_) rfl (by kernel_rfl) (by kernel_rfl) (by kernel_rfl) (fun _ _ _ h => h) (Or.inl ⟨by rfl, ?_⟩) hS ?_
    rotate_left
    · intro wi hw
      go_simp
      try with_reducible rfl
    try simp only [Act.put, List.getElem_toArray, List.getElem_cons_succ, List.getElem_cons_zero, List.setIfInBounds_toArray, List.set_cons_zero, List.set_cons_succ]
    refine wpAnyH_take (i := 1) (v := ?_) rfl (by kernel_rfl) (by kernel_rfl) (by kernel_rfl) (fun _ _ _ h => h) (Or.inl ⟨by rfl, ?_⟩) hS ?_
    rotate_left
    · intro wi hw
      go_simp
      try with_reducible rfl
    try simp only [Act.put, List.getElem_toArray, List.getElem_cons_succ, List.getElem_cons_zero, List.setIfInBounds_toArray, List.set_cons_zero, List.set_cons_succ]
    refine wpAnyH_take (i := 2) (v := ?_) rfl (by kernel_rfl) (by kernel_rfl) (by kernel_rfl) (fun _ _ _ h => h) (Or.inl ⟨by rfl, ?_⟩) hS ?_
    rotate_left
    · intro wi hw
      go_simp
      try with_reducible rfl
    try simp only [Act.put, List.getElem_toArray, List.getElem_cons_succ, List.getElem_cons_zero, List.setIfInBounds_toArray, List.set_cons_zero, List.set_cons_succ]
    refine wpAnyH_take (i := 3) (v := ?_) rfl (by kernel_rfl) (by kernel_rfl) (by kernel_rfl) (fun _ _ _ h => h) (Or.inl ⟨by rfl, ?_⟩) hS ?_
    rotate_left
    · intro wi hw
      go_simp
      try with_reducible rfl
    try simp only [Act.put, List.getElem_toArray, List.getElem_cons_succ, List.getElem_cons_zero, List.setIfInBounds_toArray, List.set_cons_zero, List.set_cons_succ]
    refine wpAnyH_take (i := 4) (v := ?_) rfl (by kernel_rfl) (by kernel_rfl) (by kernel_rfl) (fun _ _ _ h => h) (Or.inl ⟨by rfl, ?_⟩) hS ?_
    rotate_left
    · intro wi hw
      obtain ⟨f0, f1, f2, -, -, -⟩ := (show Lift.Box wi w.heap.size 38 [.slice Ak k.key.length ck, .int .u64 (k.seq : Int), .int .i64 k.kind] from HX.out.below hw.out HX.out.lt).facts3
      have hld := KD.load (d := ⟨Ak, ck, k⟩) (p := ⟨w.heap.size, 0, none⟩) f0 f1 f2
      go_simp
      try with_reducible rfl
    try simp only [Act.put, List.getElem_toArray, List.getElem_cons_succ, List.getElem_cons_zero, List.setIfInBounds_toArray, List.set_cons_zero, List.set_cons_succ]
    refine wpAnyH_take (i := 5) (v := ?_) rfl (by kernel_rfl) (by kernel_rfl) (by kernel_rfl) (fun _ _ _ h => h) (Or.inl ⟨by rfl, ?_⟩) hS ?_
    rotate_left
    · intro wi hw
      go_simp
      try with_reducible rfl
    try simp only [Act.put, List.getElem_toArray, List.getElem_cons_succ, List.getElem_cons_zero, List.setIfInBounds_toArray, List.set_cons_zero, List.set_cons_succ]
    refine wpAnyH_ready (rs := [6]) (by kernel_rfl) (by simp) ?_
    refine AllReadyH.cons rfl (fun K hK => ?_) AllReadyH.nil
    go_simp
    refine (HPT.out _ hS.out).mono ?_
    rintro e9 W2 ⟨d', rfl, hdt, hdok, hb2⟩
    have HB2 : Hid (Below W0.heap.size W0 W2) := Lib.hid (hS.out.trans (hb2.mono hS.out.size))
    have hkk : d'.k = (ptr d.t 0 0).k := by have := congrArg T.k hdt; exact this
    have HKK := Lib.hid hkk
    have hW02 := HB2.out.size
    have HDK : Hid (At W2 W2.heap.size d'.ka d'.kc d'.k) := Lib.hid ((hdok.mono (R' := (· < W2.heap.size)) fun k hk => by
      rcases hk with h | h
      · exact Nat.lt_of_lt_of_le h (Nat.le_trans HB0.out.size HB2.out.size)
      · exact h.2.1).at' fun k hk => hk)
    clear hdt hb2 hkk hdok hW02
    go_wp2_with fail
    refine hK.out _ _ HB2 (fun _ => ?_)
    clear hK K hS
    refine wpAnyH_other (S' := fun w' => Hid (Below W2.heap.size W2 w')) (fun w hw => Lib.hid (HB2.out.trans (hw.out.mono HB2.out.size))) _ _ _ _ ?_
    have hS : Hid (Below W2.heap.size W2 W2) := Lib.hid (Below.refl _ _)
    try simp only [Act.put, List.getElem_toArray, List.getElem_cons_succ, List.getElem_cons_zero, List.setIfInBounds_toArray, List.set_cons_zero, List.set_cons_succ]
    refine wpAnyH_take (i := 7) (v := ?_) rfl (by kernel_rfl) (by kernel_rfl) (by kernel_rfl) (fun _ _ _ h => h) (Or.inl ⟨by rfl, ?_⟩) hS ?_
    rotate_left
    · intro wi hw
      have hfk := fieldk d' wi
      go_simp
      try with_reducible rfl
    try simp only [Act.put, List.getElem_toArray, List.getElem_cons_succ, List.getElem_cons_zero, List.setIfInBounds_toArray, List.set_cons_zero, List.set_cons_succ]
    refine wpAnyH_ready (rs := [8]) (by kernel_rfl) (by simp) ?_
    refine AllReadyH.cons rfl (fun K hK => ?_) AllReadyH.nil
    go_simp
    have HAK : Hid (At _ _ Ak ck k) := Lib.hid (HK.out.next (HB0.out.trans ((HB2.out.trans (hS.out.mono HB2.out.size)).mono HB0.out.size)))
    refine (cmp_any Ak d'.ka ck d'.kc k d'.k _ HAK.out (HDK.out.next hS.out)).mono ?_
    rintro e9 W3 ⟨rfl, hb3⟩
    have HB3 : Hid (Below W2.heap.size W2 W3) := Lib.hid (hS.out.trans (hb3.mono hS.out.size))
    rw [HKK.out]
    clear hb3 HAK
    go_wp2_with fail
    refine hK.out _ _ HB3 (fun _ => ?_)
    clear hK K hS
    refine wpAnyH_other (S' := fun w' => Hid (Below W3.heap.size W3 w')) (fun w hw => Lib.hid (HB3.out.trans (hw.out.mono HB3.out.size))) _ _ _ _ ?_
    have hS : Hid (Below W3.heap.size W3 W3) := Lib.hid (Below.refl _ _)
    try simp only [Act.put, List.getElem_toArray, List.getElem_cons_succ, List.getElem_cons_zero, List.setIfInBounds_toArray, List.set_cons_zero, List.set_cons_succ]
    refine wpAnyH_take (i := 9) (v := ?_) rfl (by kernel_rfl) (by kernel_rfl) (by kernel_rfl) (fun _ _ _ h => h) (Or.inl ⟨by rfl, ?_⟩) hS ?_
    rotate_left
    · intro wi hw
      go_simp
      try with_reducible rfl
    try simp only [Act.put, List.getElem_toArray, List.getElem_cons_succ, List.getElem_cons_zero, List.setIfInBounds_toArray, List.set_cons_zero, List.set_cons_succ]
    refine wpAnyH_take (i := 10) (v := ?_) rfl (by kernel_rfl) (by kernel_rfl) (by kernel_rfl) (fun _ _ _ h => h) (Or.inl ⟨by rfl, ?_⟩) hS ?_
    rotate_left
    · intro wi hw
      go_simp
      try with_reducible rfl
    try simp only [Act.put, List.getElem_toArray, List.getElem_cons_succ, List.getElem_cons_zero, List.setIfInBounds_toArray, List.set_cons_zero, List.set_cons_succ]
    refine wpAnyH_take (i := 11) (v := ?_) rfl (by kernel_rfl) (by kernel_rfl) (by kernel_rfl) (fun _ _ _ h => h) (Or.inl ⟨by rfl, ?_⟩) hS ?_
    rotate_left
    · intro wi hw
      go_simp
      try with_reducible rfl
    try simp only [Act.put, List.getElem_toArray, List.getElem_cons_succ, List.getElem_cons_zero, List.setIfInBounds_toArray, List.set_cons_zero, List.set_cons_succ]
    refine wpAnyH_done (by kernel_rfl) ?_ _
    have hfin := HB0.out.trans ((HB2.out.trans ((HB3.out.trans (hS.out.mono HB3.out.size)).mono HB2.out.size)).mono HB0.out.size)
    clear hS
    go_wp2_with fail
    go_ret
    exact ⟨by rw [HE.out]; rfl, hfin⟩
end Go.Proofs.Ytobjiamdljjkjaa.Tb

/- Package table: the footer, read; the index block, read. -/
namespace Go.Proofs.Ytobjiamdljjkjaa.Tb
set_option linter.unusedVariables false
set_option linter.unusedSimpArgs false
open Go.RowKit Lift Ik Sk Vn Bk Bl Sq
/-- A box of five. -/
abbrev put5 (w : World) (g : Nat) (a b c d e : Value) : World := ((((w.setCell ⟨g, 0, none⟩ a).setCell ⟨g, 1, none⟩ b).setCell ⟨g, 2, none⟩ c).setCell ⟨g, 3, none⟩ d).setCell ⟨g, 4, none⟩ e
theorem put5_box {w : World} {g : Nat} {T : TypeId} {u0 u1 u2 u3 u4 : Value} (h : Lift.Box w g T [u0, u1, u2, u3, u4]) (a b c d e : Value) : Lift.Box (put5 w g a b c d e) g T [a, b, c, d, e] := ((((h.set 0 a).set 1 b).set 2 c).set 3 d).set 4 e
theorem put5_below {B : Nat} {w0 w : World} (h : Below B w0 w) {g : Nat} (hg : B ≤ g) (a b c d e : Value) : Below B w0 (put5 w g a b c d e) :=
  ((((h.setCell (p := ⟨g, 0, none⟩) hg _).setCell (p := ⟨g, 1, none⟩) hg _).setCell (p := ⟨g, 2, none⟩) hg _).setCell (p := ⟨g, 3, none⟩) hg _).setCell (p := ⟨g, 4, none⟩) hg _
/-- A number within bytes. -/
def at4 (xs : List Nat) (i : Nat) : Nat := num ((xs.drop i).take 4)
theorem at4_lt {xs : List Nat} (h8 : ∀ x, x ∈ xs → x < 256) (i : Nat) : at4 xs i < 4294967296 := by
  have h := num_lt ((xs.drop i).take 4) fun x hx => h8 x (List.mem_of_mem_drop (List.mem_of_mem_take hx))
  have hl : ((xs.drop i).take 4).length ≤ 4 := by rw [List.length_take]; omega
  exact Nat.lt_of_lt_of_le h (by rw [show 4294967296 = 256 ^ 4 from rfl]; exact Nat.pow_le_pow_right (by decide) hl)
/-- What readFooter answers. -/
def Ftr (w : World) (xs : List Nat) (e : Ending) (w' : World) : Prop :=
  Below w.heap.size w w' ∧ ((xs.drop 20 = sum4 (xs.take 20) ∧ e = .returned (.tuple #[fv (at4 xs 0) (at4 xs 4) (at4 xs 8) (at4 xs 12) (at4 xs 16), .bool true])) ∨ (xs.drop 20 ≠ sum4 (xs.take 20) ∧ e = .returned (.tuple #[fv 0 0 0 0 0, .bool false])))
theorem five_list {V : List Value} {f : Nat → Value} (hl : V.length = 5) (h : ∀ i, i < 5 → V[i]? = some (f i)) : V = [f 0, f 1, f 2, f 3, f 4] := by
  refine List.ext_getElem? fun i => ?_
  by_cases hi : i < 5
  · rw [h i hi]
    have h5 : i = 0 ∨ i = 1 ∨ i = 2 ∨ i = 3 ∨ i = 4 := by omega
    rcases h5 with rfl | rfl | rfl | rfl | rfl <;> rfl
  · rw [List.getElem?_eq_none (by omega), List.getElem?_eq_none (by simp; omega)]
set_option maxRecDepth 100000 in
set_option maxHeartbeats 1600000 in
theorem ofoot_any (A : Option Addr) (c : Nat) (xs : List Nat) (w : World) (hl : Lies w w.heap.size A (xs.map vb)) (hx : xs.length = 24) (hc : 24 ≤ c) (hm : c ≤ maxLen) (h8 : ∀ x, x ∈ xs → x < 256) :
    Calls Try.prog 86 #[.slice A 24 c] w (Ftr w xs) := by
  obtain ⟨W0, hW0⟩ : ∃ W0 : World, W0 = w.alloc (.cells #[.int .u32 0, .int .u32 0, .int .u32 0, .int .u32 0, .int .u32 0] 119) := ⟨_, rfl⟩
  have hb0 : Below w.heap.size w W0 := by rw [hW0]; exact Joins.below_alloc1 w _
  have hx0 : Lift.Box W0 w.heap.size 119 [.int .u32 0, .int .u32 0, .int .u32 0, .int .u32 0, .int .u32 0] := by rw [hW0]; exact Lift.Box.new w _ _
  obtain ⟨A20, hA20, -, hcut⟩ := cut_from A 24 c 20 (by omega) hc hm
  have hto := fun W => cut_to A 24 c 20 (by omega) hc hm W
  have hcm : c - 20 ≤ maxLen := Nat.le_trans (Nat.sub_le _ _) hm
  have hd4 : (xs.drop 20).length = 4 := by rw [List.length_drop]; omega
  have ht20 : (xs.take 20).length = 20 := by rw [List.length_take]; omega
  have HNU : Hid (∀ W : World, Below w.heap.size w W → Calls Try.prog 108 #[.slice A20 4 (c - 20)] W fun e w' => e = .returned (.int .u32 (num (xs.drop 20) : Nat)) ∧ W = w') := Lib.hid fun W hb =>
    onumbert_any A20 (c - 20) 4 w.heap.size (xs.drop 20) W (Lies.cut (hl.below hb) (fun _ => hA20 (by omega)) (List.prefix_refl _)) hd4 (Nat.le_refl _) (by omega) hcm (fun x hx => h8 x (List.mem_of_mem_drop hx))
  have HSU : Hid (∀ W : World, Below w.heap.size w W → Calls Try.prog 105 #[.slice A 20 c] W fun e w' => e = .returned (.int .u32 (Crc.maskN (Crc.crc Crc.ent (xs.take 20)) : Nat)) ∧ Below W.heap.size W w') := Lib.hid fun W hb => by
    have h := osumt_any A c (xs.take 20) W (((hl.below hb).up hb.size).front (by rw [List.map_take]; exact List.take_prefix _ _)) (by rw [ht20]; omega) hm (fun x hx => h8 x (List.mem_of_mem_take hx))
    rwa [ht20] at h
  have hsi := sum_iff (bs := xs) (by omega) h8
  rw [show xs.length - 4 = 20 from by omega] at hsi
  have HSI := Lib.hid hsi
  have HML := Crc.maskN_lt (Crc.crc Crc.ent (xs.take 20))
  have hnl : num (xs.drop 20) < 4294967296 := by
    have := num_lt (xs.drop 20) fun x hx => h8 x (List.mem_of_mem_drop hx)
    rwa [hd4] at this
  have HNX : Hid (∀ (W : World) (j : Nat), Below w.heap.size w W → j < 5 → ∃ A', Sem.run Try.prog (Instr.slice 25 (.slice A 24 c) (some (.int .i64 ((j : Int) * 4))) none none) W = .ok (.slice A' (24 - j * 4) (c - j * 4)) W ∧
      Calls Try.prog 108 #[.slice A' (24 - j * 4) (c - j * 4)] W fun e w' => e = .returned (.int .u32 (at4 xs (4 * j) : Nat)) ∧ W = w') := Lib.hid fun W j hb hj => by
    obtain ⟨A', hA', -, hcut⟩ := cut_from A 24 c (j * 4) (by omega) hc hm
    refine ⟨A', ?_, ?_⟩
    · have := hcut W
      rwa [show ((j * 4 : Nat) : Int) = (j : Int) * 4 from by omega] at this
    · have hl4 : ((xs.drop (j * 4)).take 4).length = 4 := by rw [List.length_take, List.length_drop]; omega
      have h := onumbert_any A' (c - j * 4) (24 - j * 4) w.heap.size ((xs.drop (j * 4)).take 4) W (Lies.cut (hl.below hb) (fun _ => hA' (by omega)) (List.take_prefix _ _)) hl4 (by omega) (by omega) (Nat.le_trans (Nat.sub_le _ _) hm) (fun x hx => h8 x (List.mem_of_mem_drop (List.mem_of_mem_take hx)))
      unfold at4
      rw [Nat.mul_comm 4 j]
      exact h
  have HLT : Hid (∀ i, at4 xs i < 4294967296) := Lib.hid (at4_lt h8)
  have HX0 := Lib.hid hx0
  have HB0 := Lib.hid hb0
  have HCUT : Hid (∀ W : World, Sem.run Try.prog (Instr.slice 25 (.slice A 24 c) (some (.int .i64 20)) none none) W = .ok (.slice A20 4 (c - 20)) W) := Lib.hid hcut
  have HTO : Hid (∀ W : World, Sem.run Try.prog (Instr.slice 25 (.slice A 24 c) none (some (.int .i64 20)) none) W = .ok (.slice A 20 c) W) := Lib.hid hto
  obtain ⟨M, hM⟩ : ∃ M, M = Crc.maskN (Crc.crc Crc.ent (xs.take 20)) := ⟨_, rfl⟩
  obtain ⟨N, hN⟩ : ∃ N, N = num (xs.drop 20) := ⟨_, rfl⟩
  rw [← hM] at HSU HSI HML
  rw [← hN] at HNU HSI hnl
  unfold maxLen at hm
  clear hl h8 hb0 hx0 hcut hto hA20 hsi hd4 ht20 hM hN hcm
  go_enter Try.func86, Try.ntmps86
  go_upto_region 1 with fail
  rw [← hW0]
  clear hW0
  refine wp_region_held_drew (S := fun w' => Hid (Below W0.heap.size W0 w')) (by kernel_rfl) (Lib.hid (Below.refl _ _).drew) (fun hS => ?_)
  refine wpAnyH_take (i := 0) (v := ?_) rfl (by kernel_rfl) (by kernel_rfl) (by kernel_rfl) (fun _ _ _ h => h) (Or.inl ⟨by rfl, ?_⟩) hS ?_
  rotate_left
  · intro wi hw
    go_simp
    try with_reducible rfl
  try simp only [Act.put, List.getElem_toArray, List.getElem_cons_succ, List.getElem_cons_zero, List.setIfInBounds_toArray, List.set_cons_zero, List.set_cons_succ]
  refine wpAnyH_take (i := 1) (v := ?_) rfl (by kernel_rfl) (by kernel_rfl) (by kernel_rfl) (fun _ _ _ h => h) (Or.inl ⟨by rfl, ?_⟩) hS ?_
  rotate_left
  · intro wi hw
    have hcut := HCUT.out wi
    go_simp
    try with_reducible rfl
  try simp only [Act.put, List.getElem_toArray, List.getElem_cons_succ, List.getElem_cons_zero, List.setIfInBounds_toArray, List.set_cons_zero, List.set_cons_succ]
  refine wpAnyH_take (i := 3) (v := ?_) rfl (by kernel_rfl) (by kernel_rfl) (by kernel_rfl) (fun _ _ _ h => h) (Or.inl ⟨by rfl, ?_⟩) hS ?_
  rotate_left
  · intro wi hw
    go_simp
    try with_reducible rfl
  try simp only [Act.put, List.getElem_toArray, List.getElem_cons_succ, List.getElem_cons_zero, List.setIfInBounds_toArray, List.set_cons_zero, List.set_cons_succ]
  refine wpAnyH_take (i := 4) (v := ?_) rfl (by kernel_rfl) (by kernel_rfl) (by kernel_rfl) (fun _ _ _ h => h) (Or.inl ⟨by rfl, ?_⟩) hS ?_
  rotate_left
  · intro wi hw
    have hto := HTO.out wi
    go_simp
    try with_reducible rfl
  try simp only [Act.put, List.getElem_toArray, List.getElem_cons_succ, List.getElem_cons_zero, List.setIfInBounds_toArray, List.set_cons_zero, List.set_cons_succ]
  refine wpAnyH_ready (rs := [2]) (by kernel_rfl) (by simp) ?_
  refine AllReadyH.cons rfl (fun K hK => ?_) AllReadyH.nil
  go_simp
  refine (HNU.out _ (HB0.out.trans (hS.out.mono HB0.out.size))).mono ?_
  rintro e W1 ⟨rfl, hw1⟩
  subst hw1
  go_wp2_with fail
  refine hK.out _ _ hS (fun hS => ?_)
  clear hK K
  try simp only [Act.put, List.getElem_toArray, List.getElem_cons_succ, List.getElem_cons_zero, List.setIfInBounds_toArray, List.set_cons_zero, List.set_cons_succ]
  refine wpAnyH_ready (rs := [5]) (by kernel_rfl) (by simp) ?_
  refine AllReadyH.cons rfl (fun K hK => ?_) AllReadyH.nil
  go_simp
  refine (HSU.out _ (HB0.out.trans (hS.out.mono HB0.out.size))).mono ?_
  rintro e W1 ⟨rfl, hb1⟩
  have HB1 : Hid (Below W0.heap.size W0 W1) := Lib.hid (hS.out.trans (hb1.mono hS.out.size))
  clear hb1
  go_wp2_with fail
  refine hK.out _ _ HB1 (fun _ => ?_)
  clear hK K hS
  refine wpAnyH_other (S' := fun w' => Hid (Below W1.heap.size W1 w')) (fun w hw => Lib.hid (HB1.out.trans (hw.out.mono HB1.out.size))) _ _ _ _ ?_
  have hS : Hid (Below W1.heap.size W1 W1) := Lib.hid (Below.refl _ _)
  try simp only [Act.put, List.getElem_toArray, List.getElem_cons_succ, List.getElem_cons_zero, List.setIfInBounds_toArray, List.set_cons_zero, List.set_cons_succ]
  refine wpAnyH_take (i := 6) (v := ?_) rfl (by kernel_rfl) (by kernel_rfl) (by kernel_rfl) (fun _ _ _ h => h) (Or.inl ⟨by rfl, ?_⟩) hS ?_
  rotate_left
  · intro wi hw
    go_simp
    try with_reducible rfl
  try simp only [Act.put, List.getElem_toArray, List.getElem_cons_succ, List.getElem_cons_zero, List.setIfInBounds_toArray, List.set_cons_zero, List.set_cons_succ]
  refine wpAnyH_done (by kernel_rfl) ?_ _
  have HB2 : Hid (Below W0.heap.size W0 _) := Lib.hid (HB1.out.trans (hS.out.mono HB1.out.size))
  clear hS
  clear HB1
  generalize W1 = W3 at HB2 ⊢
  have hx3 : Lift.Box W3 w.heap.size 119 [.int .u32 0, .int .u32 0, .int .u32 0, .int .u32 0, .int .u32 0] := HX0.out.below HB2.out HX0.out.lt
  have HX3 := Lib.hid hx3
  have HBW := Lib.hid (HB0.out.trans (HB2.out.mono HB0.out.size))
  by_cases hsum : N = M
  · have HY := Lib.hid (HSI.out.1 hsum)
    have d1 : ((N : Int) != (M : Int)) = false := by rw [hsum]; simp
    obtain ⟨W4, hW4⟩ : ∃ W4 : World, W4 = W3.alloc (.cells #[.int .u32 0, .int .u32 0, .int .u32 0, .int .u32 0, .int .u32 0] 141) := ⟨_, rfl⟩
    have hb4 : Below W3.heap.size W3 W4 := by rw [hW4]; exact Joins.below_alloc1 W3 _
    have hx4 : Lift.Box W4 W3.heap.size 141 [.int .u32 0, .int .u32 0, .int .u32 0, .int .u32 0, .int .u32 0] := by rw [hW4]; exact Lift.Box.new W3 _ _
    have HX4 := Lib.hid hx4
    have HB4 := Lib.hid (HBW.out.trans (hb4.mono HBW.out.size))
    have HX34 := Lib.hid (hx3.below hb4 hx3.lt)
    have hgg : w.heap.size < W3.heap.size := hx3.lt
    rw [d1]
    clear hsum hb4 hx4 hx3 d1
    go_wp2_with fail
    rw [← hW4]
    clear hW4
    obtain ⟨gA, hgA⟩ : ∃ gA, gA = W3.heap.size := ⟨_, rfl⟩
    obtain ⟨gF, hgF⟩ : ∃ gF, gF = w.heap.size := ⟨_, rfl⟩
    rw [← hgA] at HX4 hgg ⊢
    rw [← hgF] at HX34 hgg
    have HGF := Lib.hid hgF
    rw [show (Value.pointer (some ⟨w.heap.size, 0, none⟩)) = Value.pointer (some ⟨gF, 0, none⟩) by rw [hgF]]
    clear hgA hgF
    go_loopw [14] (fun i wr => ∃ (j : Nat) (V : List Value), j ≤ 5 ∧ i = .int .i64 (j : Int) ∧ V.length = 5 ∧ Hid (Lift.Box wr gA 141 V) ∧ Hid (Lift.Box wr gF 119 [.int .u32 0, .int .u32 0, .int .u32 0, .int .u32 0, .int .u32 0]) ∧ Hid (∀ k, k < j → V[k]? = some (.int .u32 (at4 xs (4 * k) : Nat))) ∧ Hid (Below w.heap.size w wr)) (fun i _ => 10 - (intOf i).toNat)
    case atStart => exact ⟨0, _, Nat.zero_le _, rfl, rfl, HX4, HX34, Lib.hid (fun k hk => by omega), HB4⟩
    case round =>
      obtain ⟨j, V, hj, rfl, hV, hbx, hbf, hat, hb⟩ := hrel
      by_cases hlt : j < 5
      · obtain ⟨A', hcut, hnum⟩ := HNX.out wr j hb.out hlt
        have HNUM := Lib.hid hnum
        obtain ⟨v0, hv0⟩ : ∃ v0, V[j]? = some v0 := ⟨_, List.getElem?_eq_getElem (by omega)⟩
        have hc0 : wr.cell? ⟨gA, j, none⟩ = some v0 := (hbx.out.cell j).trans hv0
        have hf0 : wr.frozen? ⟨gA, j, none⟩ = false := hbx.out.free j
        have hat4 := HLT.out (4 * j)
        have HBX2 : Hid (Lift.Box (wr.setCell ⟨gA, j, none⟩ (.int .u32 (at4 xs (4 * j) : Nat))) gA 141 (V.set j (.int .u32 (at4 xs (4 * j) : Nat)))) := Lib.hid (hbx.out.set j _)
        have HBF2 : Hid (Lift.Box (wr.setCell ⟨gA, j, none⟩ (.int .u32 (at4 xs (4 * j) : Nat))) gF 119 [.int .u32 0, .int .u32 0, .int .u32 0, .int .u32 0, .int .u32 0]) := Lib.hid (hbf.out.setOther (by show gF ≠ gA; omega) _)
        have HB3 : Hid (Below w.heap.size w (wr.setCell ⟨gA, j, none⟩ (.int .u32 (at4 xs (4 * j) : Nat)))) := Lib.hid (hb.out.setCell (by show w.heap.size ≤ gA; rw [← HGF.out]; omega) _)
        have HAT : Hid (∀ k, k < j + 1 → (V.set j (.int .u32 (at4 xs (4 * j) : Nat)))[k]? = some (.int .u32 (at4 xs (4 * k) : Nat))) := Lib.hid fun k hk => by
          by_cases hkj : k = j
          · subst hkj
            rw [List.getElem?_set_self (by omega)]
          · rw [List.getElem?_set_ne (fun h => hkj h.symm)]
            exact hat.out k (by omega)
        clear hnum hv0 hbx hbf hat hb
        generalize at4 xs (4 * j) = n at *
        go_wp2_with fail
        refine HNUM.out.mono ?_
        rintro e w9 ⟨rfl, rfl⟩
        go_wp2_with fail
        go_roundw
        case rel => exact ⟨j + 1, _, by omega, by go_num, by rw [List.length_set]; exact hV, HBX2, HBF2, HAT, HB3⟩
        case measure => simp [intOf]; omega
      · obtain rfl : j = 5 := by omega
        have hVV := five_list (f := fun k => .int .u32 (at4 xs (4 * k) : Nat)) hV hat.out
        subst hVV
        have c0 : wr.cell? ⟨gA, 0, none⟩ = some (.int .u32 (at4 xs 0 : Nat)) := hbx.out.cell 0
        have c1 : wr.cell? ⟨gA, 1, none⟩ = some (.int .u32 (at4 xs 4 : Nat)) := hbx.out.cell 1
        have c2 : wr.cell? ⟨gA, 2, none⟩ = some (.int .u32 (at4 xs 8 : Nat)) := hbx.out.cell 2
        have c3 : wr.cell? ⟨gA, 3, none⟩ = some (.int .u32 (at4 xs 12 : Nat)) := hbx.out.cell 3
        have c4 : wr.cell? ⟨gA, 4, none⟩ = some (.int .u32 (at4 xs 16 : Nat)) := hbx.out.cell 4
        have g0 : wr.cell? ⟨gF, 0, none⟩ = some (.int .u32 0) := hbf.out.cell 0
        have g1 : wr.cell? ⟨gF, 1, none⟩ = some (.int .u32 0) := hbf.out.cell 1
        have g2 : wr.cell? ⟨gF, 2, none⟩ = some (.int .u32 0) := hbf.out.cell 2
        have g3 : wr.cell? ⟨gF, 3, none⟩ = some (.int .u32 0) := hbf.out.cell 3
        have g4 : wr.cell? ⟨gF, 4, none⟩ = some (.int .u32 0) := hbf.out.cell 4
        have e0 := hbf.out.free 0
        have e1 := hbf.out.free 1
        have e2 := hbf.out.free 2
        have e3 := hbf.out.free 3
        have e4 := hbf.out.free 4
        have HBF := hbf
        clear hat hbx hbf hV
        have HFTR : Hid (∀ w', Below w.heap.size w w' → Ftr w xs (.returned (.tuple #[fv (at4 xs 0) (at4 xs 4) (at4 xs 8) (at4 xs 12) (at4 xs 16), .bool true])) w') := Lib.hid fun w' h => ⟨h, .inl ⟨HY.out, rfl⟩⟩
        generalize at4 xs 0 = n0 at *
        generalize at4 xs 4 = n1 at *
        generalize at4 xs 8 = n2 at *
        generalize at4 xs 12 = n3 at *
        generalize at4 xs 16 = n4 at *
        go_wp2_with fail
        have hbz := put5_box HBF.out (.int .u32 (n0 : Int)) (.int .u32 (n1 : Int)) (.int .u32 (n2 : Int)) (.int .u32 (n3 : Int)) (.int .u32 (n4 : Int))
        refine bodyPost_ret (results_box rfl Try.underlying119 (by kernel_rfl) _ rfl hbz) rfl ?_
        exact HFTR.out _ (put5_below hb.out (by rw [HGF.out]; exact Nat.le_refl _) _ _ _ _ _)
  · have HY : Hid (xs.drop 20 ≠ sum4 (xs.take 20)) := Lib.hid fun h => hsum (HSI.out.2 h)
    have d1 : ((N : Int) != (M : Int)) = true := by rw [bne_iff_ne]; omega
    clear hsum
    have g0 : W3.cell? ⟨w.heap.size, 0, none⟩ = some (.int .u32 0) := hx3.cell 0
    have g1 : W3.cell? ⟨w.heap.size, 1, none⟩ = some (.int .u32 0) := hx3.cell 1
    have g2 : W3.cell? ⟨w.heap.size, 2, none⟩ = some (.int .u32 0) := hx3.cell 2
    have g3 : W3.cell? ⟨w.heap.size, 3, none⟩ = some (.int .u32 0) := hx3.cell 3
    have g4 : W3.cell? ⟨w.heap.size, 4, none⟩ = some (.int .u32 0) := hx3.cell 4
    have e0 := hx3.free 0
    have e1 := hx3.free 1
    have e2 := hx3.free 2
    have e3 := hx3.free 3
    have e4 := hx3.free 4
    clear hx3
    go_wp2_with fail
    have hbz := put5_box HX3.out (.int .u32 0) (.int .u32 0) (.int .u32 0) (.int .u32 0) (.int .u32 0)
    refine bodyPost_ret (results_box rfl Try.underlying119 (by kernel_rfl) _ rfl hbz) rfl ?_
    exact ⟨put5_below HBW.out (Nat.le_refl _) _ _ _ _ _, .inr ⟨HY.out, rfl⟩⟩
end Go.Proofs.Ytobjiamdljjkjaa.Tb

/- Package table: suffixes, footers that fit, filters, the index. -/
namespace Go.Proofs.Ytobjiamdljjkjaa.Tb
set_option linter.unusedVariables false
set_option linter.unusedSimpArgs false
open Go.RowKit Lift Ik Sk Vn Bk Bl Sq
set_option maxRecDepth 100000 in
set_option maxHeartbeats 800000 in
theorem hassuf_any (A1 A2 : Option Addr) (c1 c2 : Nat) (x y : List Nat) (w : World) (h1 : Lies w w.heap.size A1 (x.map vb)) (hc1 : x.length ≤ c1) (hm1 : c1 ≤ maxLen) (h2 : Lies w w.heap.size A2 (y.map vb)) (hc2 : y.length ≤ c2) (hm2 : c2 ≤ maxLen) (x8 : ∀ a, a ∈ x → a < 256) (y8 : ∀ a, a ∈ y → a < 256) :
    Calls Try.prog 122 #[.slice A1 x.length c1, .slice A2 y.length c2] w fun e w' => e = .returned (.bool (decide (y.length ≤ x.length ∧ x.drop (x.length - y.length) = y))) ∧ w = w' := by
  by_cases h : y.length ≤ x.length
  · have d1 : decide ((y.length : Int) ≤ (x.length : Int)) = true := decide_eq_true (by omega)
    have d2 : decide (y.length ≤ x.length) = true := decide_eq_true h
    obtain ⟨p, hp⟩ : ∃ p, x.length - y.length = p := ⟨_, rfl⟩
    have e1 : (x.length : Int) - (y.length : Int) = (p : Int) := by omega
    obtain ⟨A', hA', -, hcut⟩ := cut_from A1 x.length c1 p (by omega) hc1 hm1
    have e2 : x.length - p = y.length := by omega
    rw [e2] at hcut hA'
    have hdl : (x.drop p).length = y.length := by rw [List.length_drop]; omega
    have HEQ : Hid (Calls Try.prog 52 #[.slice A' y.length (c1 - p), .slice A2 y.length c2] w fun e w' => e = .returned (.bool (decide (x.drop p = y))) ∧ w = w') := Lib.hid (by
      have h := equal_any A' A2 (c1 - p) c2 (x.drop p) y w (Lies.cut h1 (fun h => hA' (by omega)) (List.prefix_refl _)) h2 (fun a ha => x8 a (List.mem_of_mem_drop ha)) y8
      rwa [hdl] at h)
    have HD : Hid (decide (y.length ≤ x.length ∧ x.drop (x.length - y.length) = y) = decide (x.drop p = y)) := Lib.hid (by rw [hp, Bool.eq_iff_iff, decide_eq_true_iff, decide_eq_true_iff]; exact ⟨fun h => h.2, fun h2 => ⟨h, h2⟩⟩)
    have HH := Lib.hid h
    unfold maxLen at hm1 hm2
    rw [HD.out]
    clear h hp hdl h1 h2 x8 y8 hA' e2
    generalize decide (x.drop p = y) = bb at *
    go_enter Try.func122, Try.ntmps122
    go_wp2_with fail
    refine HEQ.out.mono ?_
    rintro e w' ⟨rfl, rfl⟩
    go_wp2_with fail
    go_ret
    exact ⟨rfl, rfl⟩
  · have d1 : decide ((y.length : Int) ≤ (x.length : Int)) = false := decide_eq_false (by omega)
    have d2 : decide (y.length ≤ x.length) = false := decide_eq_false h
    have HD : Hid (decide (y.length ≤ x.length ∧ x.drop (x.length - y.length) = y) = false) := Lib.hid (decide_eq_false fun hh => h hh.1)
    rw [HD.out]
    clear h h1 h2
    go_enter Try.func122, Try.ntmps122
    go_wp2_with fail
    go_ret
    exact ⟨rfl, rfl⟩
set_option maxRecDepth 100000 in
set_option maxHeartbeats 800000 in
theorem fits_any (a b c d e n : Nat) (w : World) (ha : a < 4294967296) (hb : b < 4294967296) (hc : c < 4294967296) (hd : d < 4294967296) (hn : n < 9223372036854775808) :
    Calls Try.prog 87 #[fv a b c d e, .int .i64 (n : Int)] w fun r w' => r = .returned (.bool (decide (a + b = c ∧ c + d = n))) ∧ Below w.heap.size w w' := by
  have hb0 : Below w.heap.size w (w.alloc (.cells #[.int .u32 (a : Int), .int .u32 (b : Int), .int .u32 (c : Int), .int .u32 (d : Int), .int .u32 (e : Int)] 119)) := Joins.below_alloc1 w _
  have HB := Lib.hid hb0
  have ua : IntKind.u64.wrap (a : Int) = (a : Int) := IntWalk.u64_in _ (by omega)
  have ub : IntKind.u64.wrap (b : Int) = (b : Int) := IntWalk.u64_in _ (by omega)
  have uc : IntKind.u64.wrap (c : Int) = (c : Int) := IntWalk.u64_in _ (by omega)
  have ud : IntKind.u64.wrap (d : Int) = (d : Int) := IntWalk.u64_in _ (by omega)
  have un : IntKind.u64.wrap (n : Int) = (n : Int) := IntWalk.u64_in _ (by omega)
  clear hb0
  by_cases k1 : a + b = c
  · have d1 : ((a : Int) + (b : Int) == (c : Int)) = true := by rw [beq_iff_eq]; omega
    by_cases k2 : c + d = n
    · have d2 : ((c : Int) + (d : Int) == (n : Int)) = true := by rw [beq_iff_eq]; omega
      have E := Lib.hid (show decide (a + b = c ∧ c + d = n) = true from decide_eq_true ⟨k1, k2⟩)
      clear k1 k2
      rw [E.out]
      go_enter Try.func87, Try.ntmps87
      go_wp2_with fail
      go_ret
      exact ⟨rfl, HB.out⟩
    · have d2 : ((c : Int) + (d : Int) == (n : Int)) = false := by rw [beq_eq_false_iff_ne]; omega
      have E := Lib.hid (show decide (a + b = c ∧ c + d = n) = false from decide_eq_false fun h => k2 h.2)
      clear k1 k2
      rw [E.out]
      go_enter Try.func87, Try.ntmps87
      go_wp2_with fail
      go_ret
      exact ⟨rfl, HB.out⟩
  · have d1 : ((a : Int) + (b : Int) == (c : Int)) = false := by rw [beq_eq_false_iff_ne]; omega
    have E := Lib.hid (show decide (a + b = c ∧ c + d = n) = false from decide_eq_false fun h => k1 h.1)
    clear k1
    rw [E.out]
    go_enter Try.func87, Try.ntmps87
    go_wp2_with fail
    go_ret
    exact ⟨rfl, HB.out⟩
/-- What readIndex answers. -/
def Rix (w : World) (xs : List Nat) (e : Ending) (w' : World) : Prop :=
  Below w.heap.size w w' ∧ (((allB xs).2 ≠ 0 ∧ e = .returned (.tuple #[.slice none 0 0, .int .i64 (inner (allB xs).2 : Nat)])) ∨ ((allB xs).2 = 0 ∧ evB xs ≠ 1 ∧ e = .returned (.tuple #[.slice none 0 0, .int .i64 2])) ∨
    ((allB xs).2 = 0 ∧ evB xs = 1 ∧ ∃ (A : Option Addr) (c : Nat) (L : List D), (allB xs).1 = L.map D.t ∧ e = .returned (.tuple #[.slice A L.length c, .int .i64 0]) ∧ Ents w' (fun k => w.heap.size ≤ k ∧ k < w'.heap.size) A c L))
set_option maxRecDepth 100000 in
set_option maxHeartbeats 800000 in
theorem oridx_any (A : Option Addr) (c : Nat) (bs : List Nat) (w : World) (hl : Lies w w.heap.size A (bs.map vb)) (hc : bs.length ≤ c) (hm : c ≤ maxLen) (hs : bs.length ≤ 50000000) (h8 : ∀ x, x ∈ bs → x < 256) :
    Calls Try.prog 88 #[.slice A bs.length c] w (Rix w bs) := by
  have HO := Lib.hid (oopen_any A c bs w hl hc hm hs h8)
  have hle := allB_le bs
  clear hl h8
  go_enter Try.func88, Try.ntmps88
  go_wp2_with fail
  refine HO.out.mono ?_
  rintro e W ⟨hb, (⟨h1, h2, rfl⟩ | ⟨h2, A1, c1, L, hB, h1, rfl, hents⟩)⟩
  · obtain ⟨n, hn⟩ : ∃ n, n = (allB bs).2 := ⟨_, rfl⟩
    have HNN := Lib.hid hn
    have H2 := Lib.hid h2
    have HB := Lib.hid hb
    rw [← hn] at hle ⊢
    have d1 : ((n : Int) != 0) = true := by rw [bne_iff_ne, hn]; omega
    have HDF := Lib.hid (defect_any n W)
    clear hn h1 h2 hb HO
    go_wp2_with fail
    refine HDF.out.mono ?_
    rintro e w' ⟨rfl, rfl⟩
    go_wp2_with fail
    go_returns
    exact ⟨HB.out, .inl ⟨H2.out, by rw [← HNN.out]; rfl⟩⟩
  · have H1 := Lib.hid h1
    have H2 := Lib.hid h2
    have HB := Lib.hid hb
    have HE := Lib.hid hents
    obtain ⟨v, hv⟩ : ∃ v, v = evB bs := ⟨_, rfl⟩
    have HV := Lib.hid hv
    rw [← hv]
    clear h1 h2 hb HO hB hents hle hv
    by_cases k : v = 1
    · have d2 : ((v : Int) != 1) = false := by rw [k]; rfl
      have HK := Lib.hid k
      clear k
      go_wp2_with fail
      go_returns
      exact ⟨HB.out, .inr (.inr ⟨H2.out, HV.out.symm.trans HK.out, A1, c1, L, H1.out, rfl, HE.out⟩)⟩
    · have d2 : ((v : Int) != 1) = true := by rw [bne_iff_ne]; omega
      have HK := Lib.hid k
      clear k
      go_wp2_with fail
      go_returns
      exact ⟨HB.out, .inr (.inl ⟨H2.out, fun h => HK.out (HV.out.trans h), rfl⟩)⟩
theorem bloomB_last (keys : List (List Nat)) (bits : Nat) : ∃ X, bloomB keys bits = X ++ [kOf bits] := ⟨_, rfl⟩
set_option maxRecDepth 100000 in
set_option maxHeartbeats 1600000 in
theorem isfil_any (Af A : Option Addr) (cf c : Nat) (F : List Nat) (Es : List E) (w : World) (hf : Lies w w.heap.size Af (F.map vb)) (hcf : F.length ≤ cf) (hmf : cf ≤ maxLen) (f8 : ∀ x, x ∈ F → x < 256) (hk : Seqs w w.heap.size A c Es) (hn : Es.length ≤ 1000000) :
    Calls Try.prog 114 #[.slice Af F.length cf, .slice A Es.length c] w (Says w (filB (Es.map E.bs) F)) := by
  have HF := Lib.hid hf
  have F8 := Lib.hid f8
  have HK := Lib.hid hk
  have HMF := Lib.hid hmf
  unfold maxLen at hmf
  clear hf f8 hk
  go_enter Try.func114, Try.ntmps114
  go_wp2_with fail
  go_loopw [5] (fun i wr => ∃ j : Nat, 1 ≤ j ∧ j ≤ 41 ∧ i = .int .i64 (j : Int) ∧ Hid (Below w.heap.size w wr) ∧ Hid (∀ b, 1 ≤ b → b < j → ¬ bloomB (Es.map E.bs) b = F)) (fun i _ => 50 - (intOf i).toNat)
  case atStart => exact ⟨1, by omega, by omega, rfl, Lib.hid (Below.refl _ _), Lib.hid fun b h1 h2 => by omega⟩
  case round =>
    obtain ⟨j, hj1, hj, rfl, hb, hno⟩ := hrel
    by_cases hj2 : j ≤ 40
    · have dj : decide ((j : Int) ≤ 40) = true := decide_eq_true (by omega)
      have dj' : decide (j ≤ 40) = true := decide_eq_true hj2
      have hcb : clampB (j : Int) = j := by unfold clampB; omega
      have HB0 : Hid (Calls Try.prog 48 #[.slice none 0 0, .int .i64 (j : Int)] wr (Made wr.heap.size wr (bloomB [] j))) := Lib.hid (by
        have h := obloom_any none 0 wr.heap.size [] (j : Int) wr ⟨.inl rfl, Nat.le_refl _, by decide, by simp⟩ (Nat.le_refl _) (by simp)
        rwa [hcb] at h)
      obtain ⟨X, hX⟩ := bloomB_last [] j
      have hX8 := bloomB_byte [] j
      obtain ⟨q, hq⟩ : ∃ q, (bloomB [] j).length = q + 1 := ⟨X.length, by rw [hX, List.length_append]; rfl⟩
      have hdq : (bloomB [] j).drop q = [kOf j] := by
        rw [hX] at hq ⊢
        rw [List.length_append] at hq
        exact List.drop_left' (by simpa using hq)
      have hk8 : kOf j < 256 := hX8 _ (by rw [hX]; simp)
      have hlenq : q + 1 ≤ 1000 := by rw [← hq, bloomB_len]; unfold mOf; simp
      have HBK := Lib.hid (fun (W : World) (hbw : Below w.heap.size w W) => by
        have h := obloom_any A c w.heap.size Es (j : Int) W (HK.out.below hbw) hbw.size hn
        rw [hcb] at h
        exact h)
      have HNX : Hid (¬ bloomB (Es.map E.bs) j = F → ∀ b, 1 ≤ b → b < j + 1 → ¬ bloomB (Es.map E.bs) b = F) := Lib.hid fun h b h1 h2 => by
        by_cases hi : b = j
        · rw [hi]; exact h
        · exact hno.out b h1 (by omega)
      have HYES : Hid (bloomB (Es.map E.bs) j = F → filB (Es.map E.bs) F) := Lib.hid fun h => ⟨j, hj1, hj2, h⟩
      have HSUF : Hid (bloomB (Es.map E.bs) j = F → 1 ≤ F.length ∧ F.drop (F.length - 1) = [kOf j]) := Lib.hid fun h => by
        obtain ⟨Y, hY⟩ := bloomB_last (Es.map E.bs) j
        rw [← h, hY, List.length_append]
        exact ⟨by simp, List.drop_left' (by simp)⟩
      have HQ := Lib.hid hq
      have HDQ := Lib.hid hdq
      have HX8 := Lib.hid hX8
      have hK8 := bloomB_byte (Es.map E.bs) j
      have HK8 := Lib.hid hK8
      clear hX hX8 hq hdq hcb hK8
      generalize hE : bloomB [] j = E0 at *
      generalize hG : bloomB (Es.map E.bs) j = G at *
      clear hE hG
      go_wp2_with fail
      refine HB0.out.mono ?_
      intro e W2 hmade
      obtain ⟨v2, rfl, -, ⟨A2, c2, hv2, m1, m2, m3⟩, hb2⟩ := made_byts hmade
      rw [HQ.out] at hv2 m1
      subst hv2
      obtain ⟨A3, hA3, -, hcut⟩ := cut_from A2 (q + 1) c2 q (by omega) m1 m2
      rw [show q + 1 - q = 1 from by omega] at hcut hA3
      have HCUT : Hid (∀ W : World, Sem.run Try.prog (Instr.slice 25 (.slice A2 (q + 1) c2) (some (.int .i64 (q : Int))) none none) W = .ok (.slice A3 1 (c2 - q)) W) := Lib.hid hcut
      have HB2 := Lib.hid (hb.out.trans (hb2.mono hb.out.size))
      have HL3 : Hid (Lies W2 W2.heap.size A3 ([kOf j].map vb)) := Lib.hid (Lies.cut m3 (fun _ => hA3 (by omega)) (by rw [HDQ.out]; exact List.prefix_refl _))
      have HHS := Lib.hid (hassuf_any Af A3 cf (c2 - q) F [kOf j] W2 ((HF.out.below HB2.out).up HB2.out.size) hcf HMF.out HL3.out (by simp; omega) (Nat.le_trans (Nat.sub_le _ _) m2) F8.out (by simpa using hk8))
      have hcutw := HCUT.out
      have eq1 : ((q + 1 : Nat) : Int) - 1 = (q : Int) := by omega
      have m2' := m2
      unfold maxLen at m2'
      have HBKW := Lib.hid (HBK.out W2 HB2.out)
      by_cases hsuf : 1 ≤ F.length ∧ F.drop (F.length - 1) = [kOf j]
      · have ds : decide ([kOf j].length ≤ F.length ∧ F.drop (F.length - [kOf j].length) = [kOf j]) = true := decide_eq_true hsuf
        rw [ds] at HHS
        clear hsuf ds hmade m2 m3 hb2 hcut hA3 HB0 HBK HSUF
        go_wp2_with fail
        refine HHS.out.mono ?_
        rintro e w9 ⟨rfl, rfl⟩
        go_wp2_with fail
        refine HBKW.out.mono ?_
        intro e W4 hmade
        obtain ⟨v4, rfl, -, ⟨A4, c4, hv4, n1, n2, n3⟩, hb4⟩ := made_byts hmade
        subst hv4
        have HB4 := Lib.hid (HB2.out.trans (hb4.mono HB2.out.size))
        have HEQ := Lib.hid (equal_any A4 Af c4 cf G F W4 n3 ((HF.out.below HB4.out).up HB4.out.size) HK8.out F8.out)
        clear hmade n1 n2 n3 hb4 HBKW
        by_cases heq : G = F
        · have de : decide (G = F) = true := decide_eq_true heq
          have HY := Lib.hid (HYES.out heq)
          rw [de] at HEQ
          clear heq de
          go_wp2_with fail
          refine HEQ.out.mono ?_
          rintro e w9 ⟨rfl, rfl⟩
          go_wp2_with fail
          go_ret
          exact ⟨true, rfl, ⟨fun _ => HY.out, fun _ => rfl⟩, HB4.out⟩
        · have de : decide (G = F) = false := decide_eq_false heq
          have HN := Lib.hid (HNX.out heq)
          rw [de] at HEQ
          clear heq de
          go_wp2_with fail
          refine HEQ.out.mono ?_
          rintro e w9 ⟨rfl, rfl⟩
          go_wp2_with fail
          go_roundw
          case rel => exact ⟨j + 1, by omega, by omega, by go_num, HB4, HN⟩
          case measure => simp [intOf]; omega
      · have ds : decide ([kOf j].length ≤ F.length ∧ F.drop (F.length - [kOf j].length) = [kOf j]) = false := decide_eq_false hsuf
        have HN := Lib.hid (HNX.out fun h => hsuf (HSUF.out h))
        rw [ds] at HHS
        clear hsuf ds hmade m2 m3 hb2 hcut hA3 HB0 HBK HSUF
        go_wp2_with fail
        refine HHS.out.mono ?_
        rintro e w9 ⟨rfl, rfl⟩
        go_wp2_with fail
        go_roundw
        case rel => exact ⟨j + 1, by omega, by omega, by go_num, HB2, HN⟩
        case measure => simp [intOf]; omega
    · obtain rfl : j = 41 := by omega
      have HN : Hid (¬ filB (Es.map E.bs) F) := Lib.hid fun ⟨b, h1, h2, h3⟩ => hno.out b h1 (by omega) h3
      go_wp2_with fail
      go_ret
      exact ⟨false, rfl, ⟨fun h => (by cases h), fun h => absurd h HN.out⟩, hb.out⟩
end Go.Proofs.Ytobjiamdljjkjaa.Tb
