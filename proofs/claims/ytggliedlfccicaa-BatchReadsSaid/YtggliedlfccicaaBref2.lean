/- What the document's own ReadBatch answers. -/
import Derived.Test.YtggliedlfccicaaBref1
namespace Go.Proofs.Ytggliedlfccicaa.Bt
set_option linter.unusedVariables false
set_option linter.unusedSimpArgs false
open Go.RowKit Lift Ik Vn

theorem field_len (l : List Nat) (lo hi : Nat) (h : (fieldL l lo hi).1 = 0) : (fieldL l lo hi).2.2 ≤ l.length := by
  have hd := dec_len l 0 0
  unfold fieldL at h ⊢
  split at h
  · rename_i h1; exact absurd h h1
  · rename_i h1
    rw [if_neg h1]
    split at h
    · cases h
    · rename_i h2
      rw [if_neg h2]
      split at h
      · cases h
      · rename_i h3
        rw [if_neg h3]
        have := hd (by simpa using h1)
        rw [List.length_drop] at h3
        simp only
        omega
/-- One operation onto a slice of operations of the call's own, whose keys and values lie elsewhere. -/
theorem push_op {w : World} {base : Nat} {v : Value} {pre : List D} {d : D} (hown : w.ownsRow base 46 3 v pre.length (cellsL pre)) (hbase : base ≤ w.heap.size) (hn : pre.length ≤ 100)
    (hk : ∀ x, x ∈ pre → x.Ok w (fun k => base ≤ k ∧ k < w.heap.size ∧ v.ownBlock ≠ some k)) (hd : d.Ok w (fun k => base ≤ k ∧ k < w.heap.size ∧ v.ownBlock ≠ some k)) :
    ∃ v' W, Sem.run Try.prog (Builtin.append_ #[23, 23] 23 #[v, .slice (some ⟨w.heap.size, 0, none⟩) 1 1]) (w.alloc (.cells #[.int .i64 d.kind, .slice d.ka d.key.length d.kc, .slice d.va d.val.length d.vc] 46)) = .ok v' W ∧
      W.ownsRow base 46 3 v' (pre ++ [d]).length (cellsL (pre ++ [d])) ∧ Below base w W ∧ ∀ x, x ∈ pre ++ [d] → x.Ok W (fun k => base ≤ k ∧ k < W.heap.size ∧ v'.ownBlock ≠ some k) := by
  have hl : Lies (w.alloc (.cells d.cells.toArray 46)) (w.heap.size + 1) (some ⟨w.heap.size, 0, none⟩) (cellsL [d]) := by
    have := lies_block (w := w.alloc (.cells d.cells.toArray 46)) (B := w.heap.size + 1) (heap_alloc_new w _) (by omega)
    simpa [cellsL] using this
  obtain ⟨v', W, hr, ho, hon⟩ := run_append_onto (P := Try.prog) (m := 1) (c := 1) 23 23 46 zV 3 56 Try.underlying23 (by kernel_rfl) rfl (by decide)
    cellsL_one (hown.alloc (.cells d.cells.toArray 46)) hl rfl (by unfold maxLen; omega) (by omega) (by simp; omega)
  have hba := Joins.below_alloc1 w (.cells d.cells.toArray 46)
  have hpre := Onto.pre hba hon
  refine ⟨v', W, hr, by rw [List.length_append, cellsL_append]; exact ho, hpre.below hown hbase, fun x hx => ?_⟩
  have hx2 : x.Ok w (fun k => base ≤ k ∧ k < w.heap.size ∧ v.ownBlock ≠ some k) := by
    rcases List.mem_append.1 hx with h | h
    · exact hk x h
    · simp at h; subst h; exact hd
  refine hx2.later (fun k hk2 => hpre.keep.block k hk2.2.1 hk2.2.2) fun k hk2 => ⟨hk2.1, Nat.lt_of_lt_of_le hk2.2.1 hpre.keep.size, fun h => ?_⟩
  rcases hpre.place k h with h1 | h1
  · exact hk2.2.2 h1
  · omega
theorem ops_err {n p m er : Nat} {bs : List Nat} {acc : List O} (he : opsL n bs 12 [] = opsL (m + 1) bs p acc) (h : (opL (bs.drop p)).1 = er) (h0 : er ≠ 0) : (opsL n bs 12 []).1 = er := by
  rw [he]
  show (if (opL (bs.drop p)).1 ≠ 0 then ((opL (bs.drop p)).1, [], 0) else _).1 = er
  rw [h, if_pos h0]
theorem ops_go {n p m k : Nat} {bs : List Nat} {acc : List O} {x : O} (he : opsL n bs 12 [] = opsL (m + 1) bs p acc) (h : opL (bs.drop p) = (0, x, k)) : opsL n bs 12 [] = opsL m bs (p + k) (acc ++ [x]) := by
  rw [he]
  show (if (opL (bs.drop p)).1 ≠ 0 then ((opL (bs.drop p)).1, [], 0) else opsL m bs (p + (opL (bs.drop p)).2.2) (acc ++ [(opL (bs.drop p)).2.1])) = _
  rw [h]
  rfl

set_option maxRecDepth 100000 in
set_option maxHeartbeats 400000 in
theorem rread_short (A : Option Addr) (c : Nat) (bs : List Nat) (w : World) (hn : bs.length < 12) : Calls Try.prog 19 #[.slice A bs.length c] w (Readed w bs) := by
  have E := Lib.hid (show readB bs = (4, 0, []) by unfold readB; rw [if_pos hn])
  have hb0 := Joins.below_alloc2 w (.cells #[.int .u64 0, .slice none 0 0] 25) (.cells #[.int .u64 0, .slice none 0 0] 25)
  have b2 : Box ((w.alloc (.cells #[.int .u64 0, .slice none 0 0] 25)).alloc (.cells #[.int .u64 0, .slice none 0 0] 25)) w.heap.size 25 [.int .u64 0, .slice none 0 0] := (Box.new w 25 [.int .u64 0, .slice none 0 0]).alloc _
  have HB := Lib.hid hb0
  have B2 := Lib.hid b2
  clear hb0 b2
  go_enter Try.func19, Try.ntmps19
  go_wp2_with fail
  go_returns
  exact readed_bad E.out HB.out

set_option maxRecDepth 100000 in
set_option maxHeartbeats 3200000 in
theorem rread_long (ad : Addr) (c : Nat) (bs : List Nat) (w : World) (hl : Lies w w.heap.size (some ad) (bs.map vb)) (hc : bs.length ≤ c) (hm : c ≤ maxLen) (h8 : ∀ x, x ∈ bs → x < 256) (hs : bs.length ≤ 1000000) (h12 : 12 ≤ bs.length) :
    Calls Try.prog 19 #[.slice (some ad) bs.length c] w (Readed w bs) := by
  obtain ⟨l1, l2⟩ := head_lt h8
  have E0 := Lib.hid (show readB bs = if headN bs < 1 ∨ 100 < headN bs ∨ fits (headS bs) (headN bs) = false then (2, 0, []) else if (opsL (headN bs) bs 12 []).1 ≠ 0 then ((opsL (headN bs) bs 12 []).1, 0, [])
      else if (opsL (headN bs) bs 12 []).2.2 ≠ bs.length then (2, 0, []) else (0, headS bs, (opsL (headN bs) bs 12 []).2.1) by unfold readB; rw [if_neg (by omega)])
  have G1 := Lib.hid fun W (hb : Below w.heap.size w W) => get_any (some ad) c w.heap.size 0 8 bs W (hl.below hb) hc hm h8 (by omega) (by omega)
  have G2 := Lib.hid fun W (hb : Below w.heap.size w W) => get_any (some ad) c w.heap.size 8 4 bs W (hl.below hb) hc hm h8 (by omega) (by omega)
  rw [List.drop_zero, show num (bs.take 8) = headS bs from rfl] at G1
  rw [show num ((bs.drop 8).take 4) = headN bs from rfl] at G2
  generalize headS bs = s at *
  generalize headN bs = n at *
  have HL := Lib.hid hl
  have HM := Lib.hid hm
  have H8 := Lib.hid h8
  have hb0 := Joins.below_alloc2 w (.cells #[.int .u64 0, .slice none 0 0] 25) (.cells #[.int .u64 0, .slice none 0 0] 25)
  have b2 : Box ((w.alloc (.cells #[.int .u64 0, .slice none 0 0] 25)).alloc (.cells #[.int .u64 0, .slice none 0 0] 25)) w.heap.size 25 [.int .u64 0, .slice none 0 0] := (Box.new w 25 [.int .u64 0, .slice none 0 0]).alloc _
  have b4 : Box ((w.alloc (.cells #[.int .u64 0, .slice none 0 0] 25)).alloc (.cells #[.int .u64 0, .slice none 0 0] 25)) (w.heap.size + 1) 25 [.int .u64 0, .slice none 0 0] := by
    have := Box.new (w.alloc (.cells #[.int .u64 0, .slice none 0 0] 25)) 25 [.int .u64 0, .slice none 0 0]
    rw [show (w.alloc (.cells #[.int .u64 0, .slice none 0 0] 25)).heap.size = w.heap.size + 1 by simp] at this
    exact this
  have hz0 : ((w.alloc (.cells #[.int .u64 0, .slice none 0 0] 25)).alloc (.cells #[.int .u64 0, .slice none 0 0] 25)).heap.size = w.heap.size + 2 := by simp
  clear hl hm h8
  go_enter Try.func19, Try.ntmps19
  go_wp2_with fail
  generalize ((w.alloc (.cells #[.int .u64 0, .slice none 0 0] 25)).alloc (.cells #[.int .u64 0, .slice none 0 0] 25)) = w0 at hb0 b2 b4 hz0 ⊢
  refine (show Calls Try.prog 30 #[.slice (some ad) bs.length c, .int .i64 0, .int .i64 8] w0 _ from G1.out w0 hb0).mono ?_; rintro e w' ⟨rfl, rfl⟩
  go_wp2_with fail
  have hba := Joins.below_alloc1 w0 (.cells #[.int .u64 (s : Int), .slice none 0 0] 25)
  have b5 := Box.new w0 25 [.int .u64 (s : Int), .slice none 0 0]
  have hz1 : (w0.alloc (.cells #[.int .u64 (s : Int), .slice none 0 0] 25)).heap.size = w.heap.size + 3 := by simp [hz0]
  rw [hz0] at b5
  have b2 := b2.below hba (by omega)
  have b4 := b4.below hba (by omega)
  have hb1 := hb0.trans (hba.mono (by omega))
  generalize w0.alloc (.cells #[.int .u64 (s : Int), .slice none 0 0] 25) = W1 at hba b5 hz1 b2 b4 hb1 ⊢
  refine (show Calls Try.prog 30 #[.slice (some ad) bs.length c, .int .i64 8, .int .i64 4] W1 _ from G2.out W1 hb1).mono ?_; rintro e w' ⟨rfl, rfl⟩
  have HB1 := Lib.hid hb1
  have B2 := Lib.hid b2
  have B4 := Lib.hid b4
  have B5 := Lib.hid b5
  have HZ1 := Lib.hid hz1
  obtain ⟨q0, q1, q2, q3⟩ := b2.facts2
  obtain ⟨r0, r1, _, _⟩ := b4.facts2
  obtain ⟨t0, t1, t2, t3⟩ := b5.facts2
  clear hb0 b2 b4 hz0 hba b5 hz1 hb1 G1 G2
  by_cases h1 : n < 1
  · have E := Lib.hid (show readB bs = (2, 0, []) by rw [E0.out, if_pos (.inl h1)])
    have d1 : decide ((n : Int) < 1) = true := by simp; omega
    clear h1
    go_wp2_with fail
    obtain ⟨hkx, hbx, _⟩ := batch_end (g := w.heap.size + 1) (.int .u64 0) (.slice none 0 0) (below_keep HB1.out) rfl B2.out _ rfl
    refine bodyPost_ret (results_box rfl Try.underlying25 (by kernel_rfl) _ rfl hbx) rfl ?_
    exact readed_bad E.out (hkx.below (Nat.le_refl _) fun k hk => by omega)
  · have d1 : decide ((n : Int) < 1) = false := by simp; omega
    by_cases h2 : 100 < n
    · have E := Lib.hid (show readB bs = (2, 0, []) by rw [E0.out, if_pos (.inr (.inl h2))])
      have d2 : decide ((100 : Int) < (n : Int)) = true := by simp; omega
      clear h1 h2
      go_wp2_with fail
      obtain ⟨hkx, hbx, _⟩ := batch_end (g := w.heap.size + 1) (.int .u64 0) (.slice none 0 0) (below_keep HB1.out) rfl B2.out _ rfl
      refine bodyPost_ret (results_box rfl Try.underlying25 (by kernel_rfl) _ rfl hbx) rfl ?_
      exact readed_bad E.out (hkx.below (Nat.le_refl _) fun k hk => by omega)
    · have d2 : decide ((100 : Int) < (n : Int)) = false := by simp; omega
      have HF := Lib.hid fun W => rfits_any s n W l1 ⟨by omega, by omega⟩
      cases hf : fits s n
      · have E := Lib.hid (show readB bs = (2, 0, []) by rw [E0.out, if_pos (.inr (.inr hf))])
        rw [hf] at HF
        have wn := u64_in n (by omega)
        clear h1 h2 hf
        go_wp2_with fail
        refine (HF.out W1).mono ?_; rintro e w' ⟨rfl, rfl⟩
        go_wp2_with fail
        obtain ⟨hkx, hbx, _⟩ := batch_end (g := w.heap.size + 1) (.int .u64 0) (.slice none 0 0) (below_keep HB1.out) rfl B2.out _ rfl
        refine bodyPost_ret (results_box rfl Try.underlying25 (by kernel_rfl) _ rfl hbx) rfl ?_
        exact readed_bad E.out (hkx.below (Nat.le_refl _) fun k hk => by omega)
      · have E1 := Lib.hid (show readB bs = if (opsL n bs 12 []).1 ≠ 0 then ((opsL n bs 12 []).1, 0, []) else if (opsL n bs 12 []).2.2 ≠ bs.length then (2, 0, []) else (0, s, (opsL n bs 12 []).2.1) by
          rw [E0.out, if_neg (by rw [hf]; intro q; rcases q with q | q | q; omega; omega; cases q)])
        rw [hf] at HF
        clear E0 hf
        go_wp2_with fail
        refine (HF.out W1).mono ?_; rintro e w' ⟨rfl, rfl⟩
        go_wp2_with fail
        clear q0 q1 q2 q3 r0 r1 t0 t1 t2 t3 HF d1 d2
        go_loopw [7, 8] (fun a i wr => ∃ (j p : Nat) (pre : List D) (v : Value), i = .int .i64 j ∧ a = .int .i64 p ∧ pre.length = j ∧ j ≤ n ∧ p ≤ bs.length ∧ Hid (Below w.heap.size w wr) ∧ Hid (Box wr w.heap.size 25 [.int .u64 0, .slice none 0 0]) ∧ Hid (Box wr (w.heap.size + 1) 25 [.int .u64 0, .slice none 0 0]) ∧
            Hid (Box wr (w.heap.size + 2) 25 [.int .u64 (s : Int), v]) ∧ Hid (wr.ownsRow (w.heap.size + 3) 46 3 v pre.length (cellsL pre)) ∧ Hid (∀ d, d ∈ pre → d.Ok wr (fun k => w.heap.size + 3 ≤ k ∧ k < wr.heap.size ∧ v.ownBlock ≠ some k)) ∧ Hid (opsL n bs 12 [] = opsL (n - j) bs p (opsO pre)))
          (fun _ i _ => n + 1 - (intOf i).toNat)
        case atStart => exact ⟨0, 12, [], .slice none 0 0, rfl, rfl, rfl, by omega, by omega, HB1, B2, B4, B5, Lib.hid (World.ownsRow_nil _ _ _ _), Lib.hid (fun d hd => by simp at hd), Lib.hid rfl⟩
        case round =>
          obtain ⟨j, p, pre, v, rfl, rfl, hpl, hj, hple, hbw, b2, b4, b5, hown, hks, he⟩ := hrel
          have hsz : w.heap.size + 3 ≤ wr.heap.size := by have := b5.out.lt; omega
          have HPL := Lib.hid hpl
          obtain ⟨q0, q1, q2, q3⟩ := b2.out.facts2
          obtain ⟨r0, r1, _, _⟩ := b4.out.facts2
          obtain ⟨t0, t1, t2, t3⟩ := b5.out.facts2
          clear hpl
          by_cases hlt : j < n
          · have HE := Lib.hid (show opsL n bs 12 [] = opsL ((n - (j + 1)) + 1) bs p (opsO pre) by rw [he.out]; congr 1; omega)
            by_cases hpn : p < bs.length
            · obtain ⟨k, hkk⟩ : ∃ k, bs[p]? = some k := ⟨_, List.getElem?_eq_getElem hpn⟩
              have k8 := H8.out k (List.mem_of_getElem? hkk)
              have HDR := Lib.hid (drop_cons hkk)
              obtain ⟨_, hA, _, hcell⟩ := (HL.out.below hbw.out).place (by simp; omega)
              cases hA
              have hck : wr.cell? (ad.add p) = some (.int .u8 (k : Int)) := cells_at hcell _ _ hkk
              clear hkk hcell
              by_cases hk2 : 1 < k
              · have E := Lib.hid (show readB bs = (2, 0, []) by
                  have h := ops_err HE.out (er := 2) (by rw [HDR.out]; simp [opL, hk2]) (by decide)
                  rw [E1.out, if_pos (by rw [h]; decide), h])
                have HBX := Lib.hid (hbw.out.trans ((Joins.below_alloc1 wr (.cells #[.int .i64 (k : Int), .slice none 0 0, .slice none 0 0] 46)).mono hbw.out.size))
                have BX2 := Lib.hid (b2.out.alloc (.cells #[.int .i64 (k : Int), .slice none 0 0, .slice none 0 0] 46))
                obtain ⟨y0, y1, y2, y3⟩ := BX2.out.facts2
                obtain ⟨z0, z1, _, _⟩ := (b4.out.alloc (.cells #[.int .i64 (k : Int), .slice none 0 0, .slice none 0 0] 46)).facts2
                go_wp2_with fail
                obtain ⟨hkx, hbx, _⟩ := batch_end (g := w.heap.size + 1) (.int .u64 0) (.slice none 0 0) (below_keep HBX.out) rfl BX2.out _ rfl
                refine bodyPost_ret (results_box rfl Try.underlying25 (by kernel_rfl) _ rfl hbx) rfl ?_
                exact readed_bad E.out (hkx.below (Nat.le_refl _) fun k hk => by omega)
              · obtain ⟨fe, ft, fk, hf⟩ : ∃ fe ft fk, fieldL (bs.drop (p + 1)) 1 256 = (fe, ft, fk) := ⟨_, _, _, rfl⟩
                have h3 := field_three (bs.drop (p + 1)) 1 256
                have hmem := field_mem (bs.drop (p + 1)) 1 256
                rw [hf] at h3 hmem
                simp only at h3
                have T8 := Lib.hid (show ∀ x, x ∈ ft → x < 256 from fun x hx => H8.out x (List.mem_of_mem_drop (hmem x hx)))
                have hba := Joins.below_alloc1 wr (.cells #[.int .i64 (k : Int), .slice none 0 0, .slice none 0 0] 46)
                have b9 := Box.new wr 46 [.int .i64 (k : Int), .slice none 0 0, .slice none 0 0]
                have hz9 : (wr.alloc (.cells #[.int .i64 (k : Int), .slice none 0 0, .slice none 0 0] 46)).heap.size = wr.heap.size + 1 := by simp
                have hfld := field_any ad c (p + 1) 1 256 w.heap.size bs (wr.alloc (.cells #[.int .i64 (k : Int), .slice none 0 0, .slice none 0 0] 46)) (HL.out.below (hbw.out.trans (hba.mono hbw.out.size))) hc HM.out H8.out hs (by omega) (by decide) (by decide)
                rw [hf, show ((p + 1 : Nat) : Int) = (p : Int) + 1 by omega] at hfld
                have FF := Lib.hid hf
                clear hmem hf
                go_wp2_with fail
                generalize wr.alloc (.cells #[.int .i64 (k : Int), .slice none 0 0, .slice none 0 0] 46) = Wa at hba b9 hz9 hfld ⊢
                refine (show Calls Try.prog 31 #[.slice (some ad) bs.length c, .int .i64 ((p : Int) + 1), .int .i64 1, .int .i64 256] Wa _ from hfld).mono ?_
                rintro e W3 ⟨A1, c1, rfl, hl3, hc3, hm3, hb3⟩
                have h93 := hba.trans (hb3.mono hba.size)
                have b23 := b2.out.below h93 b2.out.lt
                have b43 := b4.out.below h93 b4.out.lt
                have b53 := b5.out.below h93 b5.out.lt
                have b93 := b9.below hb3 (by omega)
                have hbw3 := hbw.out.trans (h93.mono hbw.out.size)
                have L3 := Lib.hid (hl3.later (R' := fun k => wr.heap.size < k ∧ k < W3.heap.size) (fun _ _ => rfl) fun k hk => ⟨by omega, hk.2⟩)
                have C3 := Lib.hid hc3
                have M3 := Lib.hid hm3
                have H93 := Lib.hid h93
                have B23 := Lib.hid b23
                have B43 := Lib.hid b43
                have B53 := Lib.hid b53
                have B93 := Lib.hid b93
                have HBW3 := Lib.hid hbw3
                have hsz3 : wr.heap.size < W3.heap.size := by have := hb3.size; omega
                clear q0 q1 q2 q3 r0 r1 t0 t1 t2 t3 hck
                obtain ⟨q0, q1, q2, q3⟩ := b23.facts2
                obtain ⟨r0, r1, _, _⟩ := b43.facts2
                obtain ⟨t0, t1, t2, t3⟩ := b53.facts2
                obtain ⟨u0, u1, u2, u3, u4, u5⟩ := b93.facts3
                clear hba b9 hz9 hfld hl3 hc3 hm3 hb3 h93 b23 b43 b53 b93 hbw3
                rcases h3 with rfl | ⟨rfl, rfl⟩ | ⟨rfl, rfl⟩
                · rw [if_pos rfl]
                  rcases (show k = 0 ∨ k = 1 by omega) with rfl | rfl
                  · have hfl := field_len (bs.drop (p + 1)) 1 256
                    rw [FF.out, List.length_drop] at hfl
                    have hfl := hfl rfl
                    try simp only at hfl
                    have H94 := Lib.hid (H93.out.setCell (p := ⟨wr.heap.size, 1, none⟩) (Nat.le_refl _) (.slice A1 ft.length c1))
                    have b94 := Box.set (us := [.int .i64 ((0 : Nat) : Int), .slice none 0 0, .slice none 0 0]) B93.out 1 (.slice A1 ft.length c1)
                    have b24 := b2.out.below H94.out b2.out.lt
                    have b44 := b4.out.below H94.out b4.out.lt
                    have b54 := b5.out.below H94.out b5.out.lt
                    obtain ⟨x0, x1, x2, x3⟩ := b24.facts2
                    obtain ⟨y0, y1, _, _⟩ := b44.facts2
                    obtain ⟨z0, z1, z2, z3⟩ := b54.facts2
                    obtain ⟨g0, g1, g2, g3, g4, g5⟩ := Box.facts3 (u0 := .int .i64 0) (u1 := .slice A1 ft.length c1) (u2 := .slice none 0 0) b94
                    clear b94 b24 b44 b54
                    have hdok : D.Ok (W3.setCell ⟨wr.heap.size, 1, none⟩ (.slice A1 ft.length c1)) (fun k => w.heap.size + 3 ≤ k ∧ k < (W3.setCell ⟨wr.heap.size, 1, none⟩ (.slice A1 ft.length c1)).heap.size ∧ v.ownBlock ≠ some k) ⟨0, A1, c1, ft, none, 0, []⟩ := ⟨L3.out.later (fun k hk => Below.heap_setCell _ _ _ _ (by show k ≠ wr.heap.size; omega)) fun k hk => ⟨by omega, by simpa [World.setCell] using hk.2, fun h => by have := (hown.out.lt _ h).2; omega⟩, C3.out, M3.out, T8.out, .inl rfl, Nat.le_refl _, (show 0 ≤ maxLen by decide), by simp, by simp, by simp⟩
                    obtain ⟨v', W8, hr8, hown8, hb8, hks8⟩ := push_op (d := ⟨0, A1, c1, ft, none, 0, []⟩) (own_later hown.out H94.out) (Nat.le_trans hsz H94.out.size) (by rw [HPL.out]; omega)
                      (fun x hx => (hks.out x hx).later (fun k hk => H94.out.block k hk.2.1) fun k hk => ⟨hk.1, Nat.lt_of_lt_of_le hk.2.1 H94.out.size, hk.2.2⟩) hdok
                    obtain ⟨m8, hm8⟩ : ∃ m8, m8 = (pre ++ [(⟨0, A1, c1, ft, none, 0, []⟩ : D)]).length := ⟨_, rfl⟩
                    rw [← hm8] at hown8
                    obtain ⟨A8, c8, hv8, _, _, _⟩ := own_parts hown8
                    subst hv8
                    have HM8 := Lib.hid hm8
                    clear hm8
                    have hbw8 := (hbw.out.trans (H94.out.mono hbw.out.size)).trans (hb8.mono (Nat.le_add_right _ _))
                    have b28 := (b2.out.below H94.out b2.out.lt).below hb8 (by omega)
                    have b48 := (b4.out.below H94.out b4.out.lt).below hb8 (by omega)
                    have b58 := (b5.out.below H94.out b5.out.lt).below hb8 (by omega)
                    obtain ⟨m0, m1, m2, m3⟩ := b58.facts2
                    have HN := Lib.hid (show opsL n bs 12 [] = opsL (n - (j + 1)) bs (p + 1 + fk) (opsO (pre ++ [(⟨0, A1, c1, ft, none, 0, []⟩ : D)])) by
                      rw [ops_go HE.out (by rw [HDR.out]; exact opL_del FF.out), show p + 1 + fk = p + (1 + fk) by omega]
                      simp [opsO, D.o])
                    rw [show (W3.setCell ⟨wr.heap.size, 1, none⟩ (.slice A1 ft.length c1)).heap.size = W3.heap.size by simp [World.setCell]] at hr8
                    try dsimp only [List.length_nil] at hr8
                    have HR8 := Lib.hid hr8
                    have HOW8 := Lib.hid (ownsRow_setCell_below hown8 (a := ⟨w.heap.size + 2, 1, none⟩) (by show w.heap.size + 2 < w.heap.size + 3; omega) (.slice A8 m8 c8))
                    have HBW9 := Lib.hid (hbw8.setCell (p := ⟨w.heap.size + 2, 1, none⟩) (by show w.heap.size ≤ w.heap.size + 2; omega) (.slice A8 m8 c8))
                    have B29 := Lib.hid (b28.setOther (p := ⟨w.heap.size + 2, 1, none⟩) (by simp) (.slice A8 m8 c8))
                    have B49 := Lib.hid (b48.setOther (p := ⟨w.heap.size + 2, 1, none⟩) (by simp) (.slice A8 m8 c8))
                    have B59 := Lib.hid (b58.set 1 (.slice A8 m8 c8))
                    have HKS9 := Lib.hid (fun x hx => (hks8 x hx).later (w' := W8.setCell ⟨w.heap.size + 2, 1, none⟩ (.slice A8 m8 c8)) (R' := fun k => w.heap.size + 3 ≤ k ∧ k < (W8.setCell ⟨w.heap.size + 2, 1, none⟩ (.slice A8 m8 c8)).heap.size ∧ (Value.slice A8 m8 c8).ownBlock ≠ some k) (fun k hk => Below.heap_setCell _ _ _ _ (by show k ≠ w.heap.size + 2; have := hk.1; omega)) fun k hk => ⟨hk.1, by simpa [World.setCell] using hk.2.1, hk.2.2⟩)
                    clear hdok hr8 hown8 hb8 hks8 hbw8 b28 b48 b58
                    go_wp2_with (at_builtin; refine wpList_append_run rfl _ _ 23 rfl rfl rfl HR8.out ?_)
                    go_roundw
                    case rel => exact ⟨j + 1, p + 1 + fk, pre ++ [⟨0, A1, c1, ft, none, 0, []⟩], .slice A8 m8 c8, by go_num, by go_num, by rw [List.length_append, HPL.out]; rfl, by omega, by omega, HBW9, B29, B49, B59, Lib.hid (by rw [← HM8.out]; exact HOW8.out), HKS9, HN⟩
                    case measure => simp [intOf]; omega
                  · obtain ⟨ge, gt, gk, hg⟩ : ∃ ge gt gk, fieldL (bs.drop (p + 1 + fk)) 0 4096 = (ge, gt, gk) := ⟨_, _, _, rfl⟩
                    have h3 := field_three (bs.drop (p + 1 + fk)) 0 4096
                    have hmem := field_mem (bs.drop (p + 1 + fk)) 0 4096
                    have hfl2 := field_len (bs.drop (p + 1 + fk)) 0 4096
                    rw [hg] at h3 hmem hfl2
                    rw [List.length_drop] at hfl2
                    simp only at h3
                    have V8 := Lib.hid (show ∀ x, x ∈ gt → x < 256 from fun x hx => H8.out x (List.mem_of_mem_drop (hmem x hx)))
                    have hfl := field_len (bs.drop (p + 1)) 1 256
                    rw [FF.out, List.length_drop] at hfl
                    have hfl := hfl rfl
                    try simp only at hfl
                    have h94 := H93.out.setCell (p := ⟨wr.heap.size, 1, none⟩) (Nat.le_refl _) (.slice A1 ft.length c1)
                    have b94 := Box.set (us := [.int .i64 ((1 : Nat) : Int), .slice none 0 0, .slice none 0 0]) B93.out 1 (.slice A1 ft.length c1)
                    have hz4 : (W3.setCell ⟨wr.heap.size, 1, none⟩ (.slice A1 ft.length c1)).heap.size = W3.heap.size := by simp [World.setCell]
                    have hfld := field_any ad c (p + 1 + fk) 0 4096 w.heap.size bs (W3.setCell ⟨wr.heap.size, 1, none⟩ (.slice A1 ft.length c1)) (HL.out.below (hbw.out.trans (h94.mono hbw.out.size))) hc HM.out H8.out hs (by omega) (by decide) (by decide)
                    rw [hg, show ((p + 1 + fk : Nat) : Int) = (p : Int) + 1 + (fk : Int) by omega] at hfld
                    have HFLD := Lib.hid hfld
                    have hg2 : fieldL ((bs.drop (p + 1)).drop fk) 0 4096 = (ge, gt, gk) := by rw [List.drop_drop]; exact hg
                    have HOP := Lib.hid (show opL (bs.drop p) = if ge ≠ 0 then (ge, noO, 0) else (0, ⟨1, ft, gt⟩, 1 + fk + gk) by rw [HDR.out]; exact opL_put FF.out hg2)
                    clear hmem hg hg2 hfld
                    obtain ⟨g0, g1, g2, g3, g4, g5⟩ := Box.facts3 (u0 := .int .i64 1) (u1 := .slice A1 ft.length c1) (u2 := .slice none 0 0) b94
                    have H94 := Lib.hid h94
                    have B94 := Lib.hid b94
                    have HZ4 := Lib.hid hz4
                    clear b94 h94 hz4
                    go_wp2_with fail
                    refine (show Calls Try.prog 31 #[.slice (some ad) bs.length c, .int .i64 ((p : Int) + 1 + (fk : Int)), .int .i64 0, .int .i64 4096] (W3.setCell ⟨wr.heap.size, 1, none⟩ (.slice A1 ft.length c1)) _ from HFLD.out).mono ?_
                    rintro e W5 ⟨A2, c2, rfl, hl5, hc5, hm5, hb5⟩
                    have h95 := H94.out.trans (hb5.mono H94.out.size)
                    have b25 := b2.out.below h95 b2.out.lt
                    have b45 := b4.out.below h95 b4.out.lt
                    have b55 := b5.out.below h95 b5.out.lt
                    have b95 := B94.out.below hb5 (by rw [HZ4.out]; omega)
                    have hsz5 : W3.heap.size ≤ W5.heap.size := by have := hb5.size; rw [HZ4.out] at this; exact this
                    have L5 := Lib.hid ((L3.out.later (w' := W3.setCell ⟨wr.heap.size, 1, none⟩ (.slice A1 ft.length c1)) (R' := fun k => wr.heap.size < k ∧ k < W3.heap.size) (fun k hk => Below.heap_setCell _ _ _ _ (by show k ≠ wr.heap.size; omega)) fun _ h => h).later (w' := W5) (R' := fun k => wr.heap.size < k ∧ k < W5.heap.size) (fun k hk => hb5.block k (by rw [HZ4.out]; exact hk.2)) fun k hk => ⟨hk.1, Nat.lt_of_lt_of_le hk.2 hsz5⟩)
                    have V5 := Lib.hid (hl5.later (R' := fun k => wr.heap.size < k ∧ k < W5.heap.size) (fun _ _ => rfl) fun k hk => ⟨by have := hk.1; rw [HZ4.out] at this; omega, hk.2⟩)
                    have C5 := Lib.hid hc5
                    have M5 := Lib.hid hm5
                    have H95 := Lib.hid h95
                    have B25 := Lib.hid b25
                    have B95 := Lib.hid b95
                    have HBW5 := Lib.hid (hbw.out.trans (h95.mono hbw.out.size))
                    clear q0 q1 q2 q3 r0 r1 t0 t1 t2 t3 u0 u1 u2 u3 u4 u5 g0 g1 g2 g3 g4 g5
                    obtain ⟨q0, q1, q2, q3⟩ := b25.facts2
                    obtain ⟨r0, r1, _, _⟩ := b45.facts2
                    obtain ⟨t0, t1, t2, t3⟩ := b55.facts2
                    obtain ⟨u0, u1, u2, u3, u4, u5⟩ := Box.facts3 (u0 := .int .i64 1) (u1 := .slice A1 ft.length c1) (u2 := .slice none 0 0) b95
                    clear hl5 hc5 hm5 hb5 h95 b25 b45 b55 b95 HFLD
                    rcases h3 with rfl | ⟨rfl, rfl⟩ | ⟨rfl, rfl⟩
                    · rw [if_pos rfl]
                      have hfl2 := hfl2 rfl
                      try simp only at hfl2
                      have HO2 := Lib.hid (show opL (bs.drop p) = (0, ⟨1, ft, gt⟩, 1 + fk + gk) by rw [HOP.out]; rfl)
                      have H96 := Lib.hid (H95.out.setCell (p := ⟨wr.heap.size, 2, none⟩) (Nat.le_refl _) (.slice A2 gt.length c2))
                      have b96 := Box.set (us := [.int .i64 1, .slice A1 ft.length c1, .slice none 0 0]) B95.out 2 (.slice A2 gt.length c2)
                      have b26 := b2.out.below H96.out b2.out.lt
                      have b46 := b4.out.below H96.out b4.out.lt
                      have b56 := b5.out.below H96.out b5.out.lt
                      obtain ⟨x0, x1, x2, x3⟩ := b26.facts2
                      obtain ⟨y0, y1, _, _⟩ := b46.facts2
                      obtain ⟨z0, z1, z2, z3⟩ := b56.facts2
                      obtain ⟨g0, g1, g2, g3, g4, g5⟩ := Box.facts3 (u0 := .int .i64 1) (u1 := .slice A1 ft.length c1) (u2 := .slice A2 gt.length c2) b96
                      clear b96 b26 b46 b56
                      have hdok : D.Ok (W5.setCell ⟨wr.heap.size, 2, none⟩ (.slice A2 gt.length c2)) (fun k => w.heap.size + 3 ≤ k ∧ k < (W5.setCell ⟨wr.heap.size, 2, none⟩ (.slice A2 gt.length c2)).heap.size ∧ v.ownBlock ≠ some k) ⟨1, A1, c1, ft, A2, c2, gt⟩ := ⟨L5.out.later (fun k hk => Below.heap_setCell _ _ _ _ (by show k ≠ wr.heap.size; omega)) fun k hk => ⟨by omega, by simpa [World.setCell] using hk.2, fun h => by have := (hown.out.lt _ h).2; omega⟩, C3.out, M3.out, T8.out, V5.out.later (fun k hk => Below.heap_setCell _ _ _ _ (by show k ≠ wr.heap.size; omega)) fun k hk => ⟨by omega, by simpa [World.setCell] using hk.2, fun h => by have := (hown.out.lt _ h).2; omega⟩, C5.out, M5.out, V8.out, by simp, by simp⟩
                      obtain ⟨v', W8, hr8, hown8, hb8, hks8⟩ := push_op (d := ⟨1, A1, c1, ft, A2, c2, gt⟩) (own_later hown.out H96.out) (Nat.le_trans hsz H96.out.size) (by rw [HPL.out]; omega)
                        (fun x hx => (hks.out x hx).later (fun k hk => H96.out.block k hk.2.1) fun k hk => ⟨hk.1, Nat.lt_of_lt_of_le hk.2.1 H96.out.size, hk.2.2⟩) hdok
                      obtain ⟨m8, hm8⟩ : ∃ m8, m8 = (pre ++ [(⟨1, A1, c1, ft, A2, c2, gt⟩ : D)]).length := ⟨_, rfl⟩
                      rw [← hm8] at hown8
                      obtain ⟨A8, c8, hv8, _, _, _⟩ := own_parts hown8
                      subst hv8
                      have HM8 := Lib.hid hm8
                      clear hm8
                      have hbw8 := (hbw.out.trans (H96.out.mono hbw.out.size)).trans (hb8.mono (Nat.le_add_right _ _))
                      have b28 := (b2.out.below H96.out b2.out.lt).below hb8 (by omega)
                      have b48 := (b4.out.below H96.out b4.out.lt).below hb8 (by omega)
                      have b58 := (b5.out.below H96.out b5.out.lt).below hb8 (by omega)
                      obtain ⟨m0, m1, m2, m3⟩ := b58.facts2
                      have HN := Lib.hid (show opsL n bs 12 [] = opsL (n - (j + 1)) bs (p + 1 + fk + gk) (opsO (pre ++ [(⟨1, A1, c1, ft, A2, c2, gt⟩ : D)])) by
                        rw [ops_go HE.out (HO2.out), show p + 1 + fk + gk = p + (1 + fk + gk) by omega]
                        simp [opsO, D.o])
                      rw [show (W5.setCell ⟨wr.heap.size, 2, none⟩ (.slice A2 gt.length c2)).heap.size = W5.heap.size by simp [World.setCell]] at hr8
                      try dsimp only [List.length_nil] at hr8
                      have HR8 := Lib.hid hr8
                      have HOW8 := Lib.hid (ownsRow_setCell_below hown8 (a := ⟨w.heap.size + 2, 1, none⟩) (by show w.heap.size + 2 < w.heap.size + 3; omega) (.slice A8 m8 c8))
                      have HBW9 := Lib.hid (hbw8.setCell (p := ⟨w.heap.size + 2, 1, none⟩) (by show w.heap.size ≤ w.heap.size + 2; omega) (.slice A8 m8 c8))
                      have B29 := Lib.hid (b28.setOther (p := ⟨w.heap.size + 2, 1, none⟩) (by simp) (.slice A8 m8 c8))
                      have B49 := Lib.hid (b48.setOther (p := ⟨w.heap.size + 2, 1, none⟩) (by simp) (.slice A8 m8 c8))
                      have B59 := Lib.hid (b58.set 1 (.slice A8 m8 c8))
                      have HKS9 := Lib.hid (fun x hx => (hks8 x hx).later (w' := W8.setCell ⟨w.heap.size + 2, 1, none⟩ (.slice A8 m8 c8)) (R' := fun k => w.heap.size + 3 ≤ k ∧ k < (W8.setCell ⟨w.heap.size + 2, 1, none⟩ (.slice A8 m8 c8)).heap.size ∧ (Value.slice A8 m8 c8).ownBlock ≠ some k) (fun k hk => Below.heap_setCell _ _ _ _ (by show k ≠ w.heap.size + 2; have := hk.1; omega)) fun k hk => ⟨hk.1, by simpa [World.setCell] using hk.2.1, hk.2.2⟩)
                      clear hdok hr8 hown8 hb8 hks8 hbw8 b28 b48 b58
                      go_wp2_with (at_builtin; refine wpList_append_run rfl _ _ 23 rfl rfl rfl HR8.out ?_)
                      go_roundw
                      case rel => exact ⟨j + 1, p + 1 + fk + gk, pre ++ [⟨1, A1, c1, ft, A2, c2, gt⟩], .slice A8 m8 c8, by go_num, by go_num, by rw [List.length_append, HPL.out]; rfl, by omega, by omega, HBW9, B29, B49, B59, Lib.hid (by rw [← HM8.out]; exact HOW8.out), HKS9, HN⟩
                      case measure => simp [intOf]; omega
                    · have E := Lib.hid (show readB bs = (2, 0, []) by
                        have h := ops_err HE.out (er := 2) (by rw [HOP.out]; rfl) (by decide)
                        rw [E1.out, if_pos (by rw [h]; decide), h])
                      go_wp2_with fail
                      obtain ⟨hkx, hbx, _⟩ := batch_end (g := w.heap.size + 1) (.int .u64 0) (.slice none 0 0) (below_keep HBW5.out) rfl B25.out _ rfl
                      refine bodyPost_ret (results_box rfl Try.underlying25 (by kernel_rfl) _ rfl hbx) rfl ?_
                      exact readed_bad E.out (hkx.below (Nat.le_refl _) fun k hk => by omega)
                    · have E := Lib.hid (show readB bs = (4, 0, []) by
                        have h := ops_err HE.out (er := 4) (by rw [HOP.out]; rfl) (by decide)
                        rw [E1.out, if_pos (by rw [h]; decide), h])
                      go_wp2_with fail
                      obtain ⟨hkx, hbx, _⟩ := batch_end (g := w.heap.size + 1) (.int .u64 0) (.slice none 0 0) (below_keep HBW5.out) rfl B25.out _ rfl
                      refine bodyPost_ret (results_box rfl Try.underlying25 (by kernel_rfl) _ rfl hbx) rfl ?_
                      exact readed_bad E.out (hkx.below (Nat.le_refl _) fun k hk => by omega)
                · have E := Lib.hid (show readB bs = (2, 0, []) by
                    have h := ops_err HE.out (er := 2) (by rw [HDR.out, opL_text (by omega) FF.out (by decide)]) (by decide)
                    rw [E1.out, if_pos (by rw [h]; decide), h])
                  go_wp2_with fail
                  obtain ⟨hkx, hbx, _⟩ := batch_end (g := w.heap.size + 1) (.int .u64 0) (.slice none 0 0) (below_keep HBW3.out) rfl B23.out _ rfl
                  refine bodyPost_ret (results_box rfl Try.underlying25 (by kernel_rfl) _ rfl hbx) rfl ?_
                  exact readed_bad E.out (hkx.below (Nat.le_refl _) fun k hk => by omega)
                · have E := Lib.hid (show readB bs = (4, 0, []) by
                    have h := ops_err HE.out (er := 4) (by rw [HDR.out, opL_text (by omega) FF.out (by decide)]) (by decide)
                    rw [E1.out, if_pos (by rw [h]; decide), h])
                  go_wp2_with fail
                  obtain ⟨hkx, hbx, _⟩ := batch_end (g := w.heap.size + 1) (.int .u64 0) (.slice none 0 0) (below_keep HBW3.out) rfl B23.out _ rfl
                  refine bodyPost_ret (results_box rfl Try.underlying25 (by kernel_rfl) _ rfl hbx) rfl ?_
                  exact readed_bad E.out (hkx.below (Nat.le_refl _) fun k hk => by omega)
            · have E := Lib.hid (show readB bs = (4, 0, []) by
                have h := ops_err HE.out (er := 4) (by rw [List.drop_of_length_le (by omega)]; rfl) (by decide)
                rw [E1.out, if_pos (by rw [h]; decide), h])
              have d3 : decide ((bs.length : Int) ≤ (p : Int)) = true := by simp; omega
              go_wp2_with fail
              obtain ⟨hkx, hbx, _⟩ := batch_end (g := w.heap.size + 1) (.int .u64 0) (.slice none 0 0) (below_keep hbw.out) rfl b2.out _ rfl
              refine bodyPost_ret (results_box rfl Try.underlying25 (by kernel_rfl) _ rfl hbx) rfl ?_
              exact readed_bad E.out (hkx.below (Nat.le_refl _) fun k hk => by omega)
          · obtain rfl : j = n := by omega
            have hfin : opsL j bs 12 [] = (0, opsO pre, p) := by rw [he.out, Nat.sub_self]; rfl
            by_cases hpn : p = bs.length
            · have E := Lib.hid (show readB bs = (0, s, opsO pre) by rw [E1.out, hfin]; simp [hpn])
              have d3 : ((p : Int) != (bs.length : Int)) = false := by rw [bne_eq_false_iff_eq]; omega
              obtain ⟨A2, c2, hv, hc2, hm2, _⟩ := own_parts hown.out
              subst hv
              have hlp := LiesP.of_own hown.out
              have C2 := Lib.hid hc2
              have M2 := Lib.hid hm2
              have LP := Lib.hid (hlp.later (R' := fun k => w.heap.size + 3 ≤ k ∧ k < wr.heap.size) (fun _ _ => rfl) fun k hk => ⟨hk.1, hk.2.1⟩)
              clear hfin hc2 hm2 hlp hpn
              go_wp2_with fail
              obtain ⟨hkx, hbx, hk9⟩ := batch_end (g := w.heap.size + 1) (.int .u64 s) (.slice A2 pre.length c2) (below_keep hbw.out) rfl b2.out _ rfl
              refine bodyPost_ret (results_box rfl Try.underlying25 (by kernel_rfl) _ rfl hbx) rfl ?_
              have ho9 : OpsP wr (fun k => w.heap.size + 3 ≤ k ∧ k < wr.heap.size) A2 c2 pre := ⟨LP.out, C2.out, M2.out, fun d hd => (hks.out d hd).later (fun _ _ => rfl) fun k hk => ⟨hk.1, hk.2.1⟩⟩
              have ho9 := ho9.later (R' := fun k => k < ((wr.setCell ⟨w.heap.size, 0, none⟩ (.int .u64 s)).setCell ⟨w.heap.size, 1, none⟩ (.slice A2 pre.length c2)).heap.size) (fun k hk => hk9.block k hk.2 (by omega)) fun k hk => Nat.lt_of_lt_of_le hk.2 hk9.size
              exact ⟨A2, c2, pre, by rw [E.out]; rfl, by rw [E.out], ho9.ops fun _ h => h, hkx.below (Nat.le_refl _) fun k hk => by omega⟩
            · have E := Lib.hid (show readB bs = (2, 0, []) by rw [E1.out, hfin]; simp [hpn])
              have d3 : ((p : Int) != (bs.length : Int)) = true := by rw [bne_iff_ne]; omega
              clear hfin hpn
              go_wp2_with fail
              obtain ⟨hkx, hbx, _⟩ := batch_end (g := w.heap.size + 1) (.int .u64 0) (.slice none 0 0) (below_keep hbw.out) rfl b2.out _ rfl
              refine bodyPost_ret (results_box rfl Try.underlying25 (by kernel_rfl) _ rfl hbx) rfl ?_
              exact readed_bad E.out (hkx.below (Nat.le_refl _) fun k hk => by omega)

theorem rread_all (A : Option Addr) (c : Nat) (bs : List Nat) (w : World) (hl : Lies w w.heap.size A (bs.map vb)) (hc : bs.length ≤ c) (hm : c ≤ maxLen) (h8 : ∀ x, x ∈ bs → x < 256) (hs : bs.length ≤ 1000000) :
    Calls Try.prog 19 #[.slice A bs.length c] w (Readed w bs) := by
  by_cases h : bs.length < 12
  · exact rread_short A c bs w h
  · obtain ⟨ad, rfl, _⟩ := hl.place (by simp; omega)
    exact rread_long ad c bs w hl hc hm h8 hs (by omega)
end Go.Proofs.Ytggliedlfccicaa.Bt
