/- Proved: for any number of keys, block size, restart interval and bits per key, TableOne of butterylaw13 answers true (a table with one entry for each of several keys finds exactly these keys at the right sequence numbers, and has as many data blocks as its block size requires), and its arguments read as before. Conditions: none beyond what the given row states. -/
import Derived.Test.YtobjiamdljjkjaaJf
import Derived.Deep.RegionHeld3
import Derived.Deep.QuietTactic
import Derived.BigQuiet
import Derived.LoopTactic
import Derived.Test.YtobjiamdljjkjaaTone
namespace Go.Proofs.Ytobjiamdljjkjaa.tableOne
set_option linter.unusedVariables false
set_option linter.unusedSimpArgs false
open Go.ChangeShapes Go.WideShapes Go.ChangeAt Go.RowKit Lift Tb Bk Ik Sk Vn

theorem own : ownKnob Try.prog.godebug = none := by kernel_rfl

theorem one_ok {w wa wb : World} {j : Nat} (hj : j < 100) (ha : wa = w.alloc (.cells #[.int .u8 ((2 * j : Nat) : Int), .int .u8 7] 5)) (hb : wb = wa.alloc (.cells #[.int .u8 (j : Int)] 5)) :
    D.Ok wb (Fresh w.heap.size wb) ⟨some ⟨w.heap.size, 0, none⟩, 2, (oneE j).k, some ⟨w.heap.size + 1, 0, none⟩, 1, (oneE j).val⟩ ∧ Below w.heap.size w wb := by
  have sa : wa.heap.size = w.heap.size + 1 := by rw [ha, World.size_alloc]
  have sb : wb.heap.size = w.heap.size + 1 + 1 := by rw [hb, World.size_alloc, sa]
  have h0 : wb.heap[w.heap.size]? = some (.cells #[.int .u8 ((2 * j : Nat) : Int), .int .u8 7] 5 (0, 0)) := by
    rw [hb, Below.heap_alloc _ _ _ (by omega), ha]
    exact heap_alloc_new w _
  have h1 : wb.heap[w.heap.size + 1]? = some (.cells #[.int .u8 (j : Int)] 5 (0, 0)) := by
    rw [hb, ← sa]
    exact heap_alloc_new wa _
  have hbl : Below w.heap.size w wb := by rw [hb]; exact (by rw [ha]; exact Joins.below_alloc1 w _ : Below w.heap.size w wa).alloc (by omega) _
  have kl : LiesP wb (Fresh w.heap.size wb) (some ⟨w.heap.size, 0, none⟩) ([2 * j, 7].map vb) := .inr ⟨_, rfl, ⟨Nat.le_refl _, by show w.heap.size < wb.heap.size; omega, _, _, h0⟩, fun i u hu => by
    rw [show (Addr.add ⟨w.heap.size, 0, none⟩ i) = ⟨w.heap.size, i, none⟩ by unfold Addr.add; split <;> simp_all, cell_of_row wb w.heap.size i _ _ _ h0]
    simpa [vb] using hu⟩
  have vl : LiesP wb (Fresh w.heap.size wb) (some ⟨w.heap.size + 1, 0, none⟩) ([j].map vb) := .inr ⟨_, rfl, ⟨Nat.le_succ _, by show w.heap.size + 1 < wb.heap.size; omega, _, _, h1⟩, fun i u hu => by
    rw [show (Addr.add ⟨w.heap.size + 1, 0, none⟩ i) = ⟨w.heap.size + 1, i, none⟩ by unfold Addr.add; split <;> simp_all, cell_of_row wb (w.heap.size + 1) i _ _ _ h1]
    simpa [vb] using hu⟩
  exact ⟨⟨kl, by show (2 : Nat) ≤ 2; decide, by show (2 : Nat) ≤ maxLen; decide, ⟨by unfold oneE; simp; omega, by show (9 : Nat) < 18446744073709551616; decide, by show (-9223372036854775808 : Int) ≤ 1; decide, by show (1 : Int) ≤ 9223372036854775807; decide⟩, vl, by show (1 : Nat) ≤ 1; decide, by show (1 : Nat) ≤ maxLen; decide, by unfold oneE; simp; omega⟩, hbl⟩
set_option maxRecDepth 100000 in
set_option maxHeartbeats 3200000 in
theorem walk (n' sz ev bi : Int) (w : World) (hn : -9223372036854775808 ≤ n' ∧ n' ≤ 9223372036854775807) (hs : -9223372036854775808 ≤ sz ∧ sz ≤ 9223372036854775807) :
    Calls Try.prog 9 #[.int .i64 n', .int .i64 sz, .int .i64 ev, .int .i64 bi] w (Tb.Yes w) := by
  go_enter Try.func9, Try.ntmps9
  go_wp2_with fail
  refine (Tb.alive_any _).mono ?_
  rintro e W1 ⟨rfl, hb1⟩
  have HB1 := Lib.hid hb1
  clear hb1
  by_cases c1 : n' < 1
  · have d1 : decide (n' < 1) = true := decide_eq_true c1
    go_wp2_with fail
    go_ret
    exact ⟨rfl, HB1.out⟩
  · have d1 : decide (n' < 1) = false := decide_eq_false c1
    by_cases c2 : 100 < n'
    · have d2 : decide (100 < n') = true := decide_eq_true c2
      go_wp2_with fail
      go_ret
      exact ⟨rfl, HB1.out⟩
    · have d2 : decide (100 < n') = false := decide_eq_false c2
      by_cases c3 : sz < 1
      · have d3 : decide (sz < 1) = true := decide_eq_true c3
        go_wp2_with fail
        go_ret
        exact ⟨rfl, HB1.out⟩
      · have d3 : decide (sz < 1) = false := decide_eq_false c3
        by_cases c4 : 1000 < sz
        · have d4 : decide (1000 < sz) = true := decide_eq_true c4
          go_wp2_with fail
          go_ret
          exact ⟨rfl, HB1.out⟩
        · have d4 : decide (1000 < sz) = false := decide_eq_false c4
          obtain ⟨n, rfl⟩ := Int.eq_ofNat_of_zero_le (by omega : 0 ≤ n')
          obtain ⟨z, rfl⟩ := Int.eq_ofNat_of_zero_le (by omega : 0 ≤ sz)
          have hn1 : 1 ≤ n := by omega
          have hn2 : n ≤ 100 := by omega
          have hz1 : 1 ≤ z := by omega
          have hz2 : z ≤ 1000 := by omega
          have d1' : ¬ (n : Int) < 1 := c1
          clear hn hs c1 c2 c3 c4
          go_wp2_with fail
          have HAC0 := Lib.hid (Ac.nil W1.heap.size W1)
          go_loopw [10, 11] (fun v i wr => ∃ (j : Nat) (L : List D), j ≤ n ∧ i = .int .i64 (j : Int) ∧ Hid (Ac W1.heap.size wr v L) ∧ Hid (L.map D.t = ones j) ∧ Hid (Below W1.heap.size W1 wr)) (fun _ i _ => n + 1 - (intOf i).toNat)
          case atStart => exact ⟨0, [], Nat.zero_le _, rfl, HAC0, Lib.hid rfl, Lib.hid (Below.refl _ _)⟩
          case round =>
            obtain ⟨j, L, hj, rfl, hac, hones, hb⟩ := hrel
            have hLl : L.length = j := by have := congrArg List.length hones.out; rw [List.length_map, ones_len] at this; exact this
            have HLL := Lib.hid hLl
            clear hLl
            by_cases hlt : j < n
            · have dl : decide ((j : Int) < (n : Int)) = true := decide_eq_true (by omega)
              have dl2 : decide (j < n) = true := decide_eq_true hlt
              obtain ⟨wa, ha⟩ : ∃ wa, wa = wr.alloc (.cells #[.int .u8 ((2 * j : Nat) : Int), .int .u8 7] 5) := ⟨_, rfl⟩
              obtain ⟨wb, hwb⟩ : ∃ wb, wb = wa.alloc (.cells #[.int .u8 (j : Int)] 5) := ⟨_, rfl⟩
              obtain ⟨hok, hbb⟩ := one_ok (by omega) ha hwb
              have hsa : wa.heap.size = wr.heap.size + 1 := by rw [ha, World.size_alloc]
              obtain ⟨v', w', hr, hac', hb'⟩ := (hac.out.below hbb).more (hok.mono (fun k hk => Fresh.low hb.out.size k hk)) (Nat.le_trans hb.out.size hbb.size) (by have := HLL.out; omega)
              have HR := Lib.hid hr
              have HAC := Lib.hid hac'
              have HON : Hid ((L ++ [(⟨some ⟨wr.heap.size, 0, none⟩, 2, (oneE j).k, some ⟨wr.heap.size + 1, 0, none⟩, 1, (oneE j).val⟩ : D)]).map D.t = ones (j + 1)) := Lib.hid (by rw [List.map_append, hones.out, ones_next]; rfl)
              have HB' := Lib.hid ((hb.out.trans (hbb.mono hb.out.size)).trans hb')
              have u1 : IntKind.u8.wrap (2 * (j : Int)) = 2 * (j : Int) := by rw [IntKind.wrap_u8]; omega
              have u2 : IntKind.u8.wrap (j : Int) = (j : Int) := by rw [IntKind.wrap_u8]; omega
              have e2 : ((2 * j : Nat) : Int) = 2 * (j : Int) := by omega
              have hra := hsa
              rw [hwb, ha] at HR
              rw [e2] at HR
              simp only [World.size_alloc] at HR
              clear hok hbb hr hac' hb' hwb ha hsa hra e2
              go_wp2_with (at_builtin; refine wpList_append_run rfl _ _ 22 rfl rfl rfl HR.out ?_)
              go_roundw
              case rel => exact ⟨j + 1, _, by omega, by go_num, HAC, HON, HB'⟩
              case measure => simp [intOf]; omega
            · obtain rfl : j = n := by omega
              have dl : decide ((j : Int) < (j : Int)) = false := decide_eq_false (by omega)
              obtain ⟨A3, c3, hv3, k1, k2, -⟩ := own_parts hac.out.own
              subst hv3
              have hen : Ents wr (· < wr.heap.size) A3 c3 L := ⟨(LiesP.of_own hac.out.own).later (fun _ _ => rfl) (fun k hk => hk.2.1), k1, k2, fun d hd => (hac.out.ok d hd).mono fun k hk => hk.2.1⟩
              have hm0 := ones_may hn1 hn2
              have HBU := Lib.hid (obuildt_any A3 c3 L (z : Int) ev bi wr hen (by have := HLL.out; omega))
              have HBW := Lib.hid (HB1.out.trans (hb.out.mono HB1.out.size))
              clear hen k1 k2
              go_wp2_with fail
              refine HBU.out.mono ?_
              rintro e W2 ⟨v, rfl, hown, hb2⟩
              rw [hones.out] at hown ⊢
              rw [hm0]
              obtain ⟨-, hbl⟩ := tabB_len (size := (z : Int)) (every := ev) (bits := bi) hm0 (by rw [ones_len]; omega)
              have htl := (tabB_told (size := (z : Int)) (every := ev) (bits := bi) hm0).1
              have HTL := Lib.hid htl
              have HX8 : Hid (∀ x, x ∈ tabB (z : Int) ev bi (ones j) → x < 256) := Lib.hid (tabB_byte (fun t ht => by
                obtain ⟨q, hq, rfl⟩ := List.mem_map.1 ht
                rw [List.mem_range] at hq
                exact ⟨⟨by unfold oneE; simp; omega, by show (9 : Nat) < 18446744073709551616; decide, by show (-9223372036854775808 : Int) ≤ 1; decide, by show (1 : Int) ≤ 9223372036854775807; decide⟩, by unfold oneE; simp; omega⟩))
              obtain ⟨A2, c2, rfl, hc2, hm2, hl2⟩ := own_parts hown
              have HSM : Hid (tallO (tabB (z : Int) ev bi (ones j)) = tallB (tabB (z : Int) ev bi (ones j))) := Lib.hid same_tab
              generalize tabB (z : Int) ev bi (ones j) = X at *
              have HL2 := Lib.hid hl2
              have HM2 := Lib.hid hm2
              have HB2 := Lib.hid (HBW.out.trans (hb2.mono HBW.out.size))
              have HGET : Hid (∀ (W : World) (Ak : Option Addr) (i seq : Nat), Below W2.heap.size W2 W → Lies W W.heap.size Ak ([i, 7].map vb) → i < 256 → seq < 100 → Calls Try.prog 28 #[.slice A2 X.length c2, .slice Ak 2 2, .int .u64 (seq : Int)] W (Finds W (getT (ones j) [i, 7] seq) 0)) := Lib.hid fun W Ak i seq hW hk hi hs => by
                have h := ogett_any A2 Ak c2 2 X [i, 7] seq W ((HL2.out.below hW).up hW.size) hc2 HM2.out (by omega) HX8.out hk (Nat.le_refl _) (by decide) (fun x hx => by simp at hx; omega) (by omega) HSM.out
                rw [HTL.out] at h
                exact h
              have HLN := Lib.hid hbl
              clear hl2 hown htl hb2 HBU hm2 hbl
              have HC2 := Lib.hid hc2
              go_wp2_with fail
              refine (Tb.num_any _ W2).mono ?_
              rintro e w' ⟨rfl, rfl⟩
              go_wp2_with fail
              go_loopw [14] (fun v wr' => ∃ i : Nat, i ≤ 2 * j ∧ v = .int .i64 (i : Int) ∧ Hid (Below W2.heap.size W2 wr')) (fun v _ => 2 * j + 1 - (intOf v).toNat)
              case atStart => exact ⟨0, Nat.zero_le _, rfl, Lib.hid (Below.refl _ _)⟩
              case round =>
                obtain ⟨i, hi, rfl, hbi⟩ := hrel
                by_cases hil : i < 2 * j
                · have dl3 : decide ((i : Int) < 2 * (j : Int)) = true := decide_eq_true (by omega)
                  have u3 : IntKind.u8.wrap (i : Int) = (i : Int) := by rw [IntKind.wrap_u8]; omega
                  obtain ⟨wa, hwa⟩ : ∃ wa, wa = wr.alloc (.cells #[.int .u8 (i : Int), .int .u8 7] 5) := ⟨_, rfl⟩
                  have hbwa : Below wr.heap.size wr wa := by rw [hwa]; exact Joins.below_alloc1 _ _
                  have hlwa : Lies wa wa.heap.size (some ⟨wr.heap.size, 0, none⟩) ([i, 7].map vb) := by
                    rw [hwa]
                    have := lies_block (cs := #[.int .u8 (i : Int), .int .u8 7]) (heap_alloc_new wr (.cells #[.int .u8 (i : Int), .int .u8 7] 5)) (Nat.lt_succ_self _)
                    rw [World.size_alloc]
                    exact this
                  have HG1 := Lib.hid (HGET.out wa _ i 9 (hbi.out.trans (hbwa.mono hbi.out.size)) hlwa (by omega) (by omega))
                  rw [ones_get hil] at HG1
                  have HBA := Lib.hid (hbi.out.trans (hbwa.mono hbi.out.size))
                  by_cases hev : i % 2 = 0
                  · rw [if_pos hev] at HG1
                    rw [hwa] at HG1 HBA
                    have HEV := Lib.hid hev
                    clear hlwa hbwa hwa hev
                    go_wp2_with fail
                    refine HG1.out.mono ?_
                    rintro e W3 ⟨hb3, d, rfl, hdt, hdo⟩
                    obtain ⟨W4, hW4⟩ : ∃ W4, W4 = W3.alloc (ebox d) := ⟨_, rfl⟩
                    have hbx : Below W3.heap.size W3 W4 := by rw [hW4]; exact below_box W3 d
                    have HB4 : Hid (Below W2.heap.size W2 W4) := Lib.hid ((HBA.out.trans (hb3.mono HBA.out.size)).trans (hbx.mono (Nat.le_trans HBA.out.size hb3.size)))
                    have HBX : Hid (Bx W4 W3.heap.size d) := Lib.hid (by rw [hW4]; exact Bx.new W3 d)
                    have HDO : Hid (d.Ok W4 (· < W4.heap.size)) := Lib.hid ((hdo.mono fun k hk => hk.2).next hbx)
                    have hdv : d.val = [i / 2] := by have := congrArg T.val hdt; exact this
                    have HDV := Lib.hid hdv
                    clear hb3 hdt hdo hdv HG1 hbx
                    have hlk : Lies (W4.alloc (.cells #[.int .u8 (i : Int), .int .u8 7] 5)) (W4.alloc (.cells #[.int .u8 (i : Int), .int .u8 7] 5)).heap.size (some ⟨W4.heap.size, 0, none⟩) ([i, 7].map vb) := by
                      have := lies_block (cs := #[.int .u8 (i : Int), .int .u8 7]) (heap_alloc_new W4 (.cells #[.int .u8 (i : Int), .int .u8 7] 5)) (Nat.lt_succ_self _)
                      rw [World.size_alloc]
                      exact this
                    have hbk := Joins.below_alloc1 W4 (.cells #[.int .u8 (i : Int), .int .u8 7] 5)
                    have HG2 := Lib.hid (HGET.out _ _ i 8 (HB4.out.trans (hbk.mono HB4.out.size)) hlk (by omega) (by omega))
                    rw [ones_late] at HG2
                    have hs4 : W4.heap.size = W3.heap.size + 1 := by rw [hW4, World.size_alloc]
                    have HG2' : Hid (Calls Try.prog 28 #[.slice A2 X.length c2, .slice (some ⟨W3.heap.size + 1, 0, none⟩) 2 2, .int .u64 ((8 : Nat) : Int)] (W4.alloc (.cells #[.int .u8 (i : Int), .int .u8 7] 5)) (Finds (W4.alloc (.cells #[.int .u8 (i : Int), .int .u8 7] 5)) none 0)) := Lib.hid (by rw [← hs4]; exact HG2.out)
                    clear HG2 hs4
                    have HBK := Lib.hid (HB4.out.trans (hbk.mono HB4.out.size))
                    clear hlk
                    have HK4 := Lib.hid hbk
                    have HW4 := Lib.hid hW4
                    clear hbk hW4
                    go_wp2_with fail
                    change Calls _ _ _ ((W3.alloc (ebox d)).alloc _) _
                    rw [← HW4.out]
                    refine HG2'.out.mono ?_
                    intro e W6 hf6
                    obtain ⟨hb6, hf6⟩ := hf6
                    subst hf6
                    have HB46 := Lib.hid (HK4.out.trans (hb6.mono HK4.out.size))
                    obtain ⟨W7, hW7⟩ : ∃ W7, W7 = W6.alloc zbox := ⟨_, rfl⟩
                    have hb7 : Below W6.heap.size W6 W7 := by rw [hW7]; exact below_box W6 dz
                    have HB47 := Lib.hid (HB46.out.trans (hb7.mono HB46.out.size))
                    obtain ⟨q, hq⟩ : ∃ q, q = i / 2 := ⟨_, rfl⟩
                    have hq2 : q < 100 := by omega
                    have hv7 : d.Ok W7 (· < W7.heap.size) := HDO.out.next HB47.out
                    have hx7 := Bx.facts (d := d) (Lift.Box.below HBX.out HB47.out (Lift.Box.lt HBX.out))
                    obtain ⟨-, -, -, x3, -, -, -, -⟩ := hx7
                    have r1 : Sem.run Try.prog (convert 25 9 (.slice d.va d.val.length d.vc)) W7 = .ok (.string (str [q])) W7 := by
                      have := runs (c := d.vc) (hv7.vl.lies (B := W7.heap.size) fun k hk => hk)
                      rw [HDV.out, ← hq] at this
                      rw [HDV.out]
                      exact this
                    have r2 : Sem.run Try.prog (convert 25 9 (.slice (some ⟨W7.heap.size, 0, none⟩) 1 1)) (W7.alloc (.cells #[.int .u8 (q : Int)] 5)) = .ok (.string (str [q])) (W7.alloc (.cells #[.int .u8 (q : Int)] 5)) :=
                      runs (bs := [q]) (c := 1) (lies_block (cs := #[.int .u8 (q : Int)]) (heap_alloc_new W7 _) (Nat.lt_succ_self _))
                    have e1 : (i : Int) % 2 = 0 := by have := HEV.out; omega
                    have e1' : (i : Int).tmod 2 = 0 := (show (i : Int).tmod 2 = ((i % 2 : Nat) : Int) from rfl).trans (by rw [HEV.out]; rfl)
                    have e2 : (i : Int) / 2 = (q : Int) := by omega
                    have e2' : (i : Int).tdiv 2 = (q : Int) := (show (i : Int).tdiv 2 = ((i / 2 : Nat) : Int) from rfl).trans (by rw [hq])
                    have u4 : IntKind.u8.wrap (q : Int) = (q : Int) := by rw [IntKind.wrap_u8]; omega
                    have HB7 := Lib.hid (HB4.out.trans (HB47.out.mono HB4.out.size))
                    have HW7 := Lib.hid hW7
                    clear hb6 hb7 hW7 hv7 hq
                    go_wp2_with fail
                    change Calls _ _ _ (W6.alloc zbox) _
                    rw [← HW7.out]
                    refine (Tb.num_any _ W7).mono ?_
                    rintro e w' ⟨rfl, rfl⟩
                    go_wp2_with fail
                    refine (Tb.num_any _ W7).mono ?_
                    rintro e w' ⟨rfl, rfl⟩
                    go_wp2_with fail
                    go_roundw
                    case rel => exact ⟨i + 1, by omega, by go_num, Lib.hid (HB7.out.trans (by exact (Joins.below_alloc1 W7 _).mono HB7.out.size))⟩
                    case measure => simp [intOf]; omega
                  · rw [if_neg hev] at HG1
                    rw [hwa] at HG1 HBA
                    have HEV := Lib.hid hev
                    clear hlwa hbwa hwa hev
                    go_wp2_with fail
                    refine HG1.out.mono ?_
                    intro e W3 hf3
                    obtain ⟨hb3, hf3⟩ := hf3
                    subst hf3
                    obtain ⟨W4, hW4⟩ : ∃ W4, W4 = W3.alloc zbox := ⟨_, rfl⟩
                    have hbx : Below W3.heap.size W3 W4 := by rw [hW4]; exact below_box W3 dz
                    have HB4 : Hid (Below W2.heap.size W2 W4) := Lib.hid ((HBA.out.trans (hb3.mono HBA.out.size)).trans (hbx.mono (Nat.le_trans HBA.out.size hb3.size)))
                    clear hb3 HG1 hbx
                    have hlk : Lies (W4.alloc (.cells #[.int .u8 (i : Int), .int .u8 7] 5)) (W4.alloc (.cells #[.int .u8 (i : Int), .int .u8 7] 5)).heap.size (some ⟨W4.heap.size, 0, none⟩) ([i, 7].map vb) := by
                      have := lies_block (cs := #[.int .u8 (i : Int), .int .u8 7]) (heap_alloc_new W4 (.cells #[.int .u8 (i : Int), .int .u8 7] 5)) (Nat.lt_succ_self _)
                      rw [World.size_alloc]
                      exact this
                    have hbk := Joins.below_alloc1 W4 (.cells #[.int .u8 (i : Int), .int .u8 7] 5)
                    have HG2 := Lib.hid (HGET.out _ _ i 8 (HB4.out.trans (hbk.mono HB4.out.size)) hlk (by omega) (by omega))
                    rw [ones_late] at HG2
                    have hs4 : W4.heap.size = W3.heap.size + 1 := by rw [hW4, World.size_alloc]
                    have HG2' : Hid (Calls Try.prog 28 #[.slice A2 X.length c2, .slice (some ⟨W3.heap.size + 1, 0, none⟩) 2 2, .int .u64 ((8 : Nat) : Int)] (W4.alloc (.cells #[.int .u8 (i : Int), .int .u8 7] 5)) (Finds (W4.alloc (.cells #[.int .u8 (i : Int), .int .u8 7] 5)) none 0)) := Lib.hid (by rw [← hs4]; exact HG2.out)
                    clear HG2 hs4
                    have HK4 := Lib.hid hbk
                    have HW4 := Lib.hid hW4
                    clear hbk hW4 hlk
                    go_wp2_with fail
                    change Calls _ _ _ ((W3.alloc zbox).alloc _) _
                    rw [← HW4.out]
                    refine HG2'.out.mono ?_
                    intro e W6 hf6
                    obtain ⟨hb6, hf6⟩ := hf6
                    subst hf6
                    have HB46 := Lib.hid (HK4.out.trans (hb6.mono HK4.out.size))
                    obtain ⟨W7, hW7⟩ : ∃ W7, W7 = W6.alloc zbox := ⟨_, rfl⟩
                    have hb7 : Below W6.heap.size W6 W7 := by rw [hW7]; exact below_box W6 dz
                    have HB7 := Lib.hid (HB4.out.trans ((HB46.out.trans (hb7.mono HB46.out.size)).mono HB4.out.size))
                    have e1 : (i : Int) % 2 = 1 := by have := HEV.out; omega
                    have e1' : (i : Int).tmod 2 = 1 := (show (i : Int).tmod 2 = ((i % 2 : Nat) : Int) from rfl).trans (by have := HEV.out; rw [show i % 2 = 1 from by omega]; rfl)
                    have HW7 := Lib.hid hW7
                    clear hb6 hb7 hW7
                    go_wp2_with fail
                    change Calls _ _ _ (W6.alloc zbox) _
                    rw [← HW7.out]
                    refine (Tb.num_any _ W7).mono ?_
                    rintro e w' ⟨rfl, rfl⟩
                    go_wp2_with fail
                    refine (Tb.num_any _ W7).mono ?_
                    rintro e w' ⟨rfl, rfl⟩
                    go_wp2_with fail
                    go_roundw
                    case rel => exact ⟨i + 1, by omega, by go_num, HB7⟩
                    case measure => simp [intOf]; omega
                · have dl3 : decide ((i : Int) < 2 * (j : Int)) = false := decide_eq_false (by omega)
                  obtain ⟨k, hk⟩ : ∃ k, k = (z + 10) / 11 := ⟨_, rfl⟩
                  have hk1 : 1 ≤ k := by omega
                  have hk2 : k ≤ 1000 := by omega
                  have e1 : ((z : Int) + 10) / 11 = (k : Int) := by omega
                  have e1' : ((z : Int) + 10).tdiv 11 = (k : Int) := (show (((z + 10 : Nat) : Int)).tdiv 11 = (((z + 10) / 11 : Nat) : Int) from rfl).trans (by rw [hk])
                  obtain ⟨q, hq⟩ : ∃ q, q = (j + k - 1) / k := ⟨_, rfl⟩
                  have e2 : ((j : Int) + (k : Int) - 1) / (k : Int) = (q : Int) := by rw [show (j : Int) + (k : Int) - 1 = ((j + k - 1 : Nat) : Int) from by omega, hq]; exact (Int.natCast_ediv _ _).symm
                  have e2' : ((j : Int) + (k : Int) - 1).tdiv (k : Int) = (q : Int) := by rw [show (j : Int) + (k : Int) - 1 = ((j + k - 1 : Nat) : Int) from by omega, hq]; rfl
                  have e3 : ((k : Int) == 0) = false := by rw [beq_eq_false_iff_ne]; omega
                  have e3' : ¬ (k : Int) = 0 := by omega
                  have hql : q ≤ 1000 := by rw [hq]; exact Nat.le_trans (Nat.div_le_self _ _) (by omega)
                  have HIX := Lib.hid (oindext_any A2 c2 X wr ((HL2.out.below hbi.out).up hbi.out.size) hc2 HM2.out (Nat.le_trans HLN.out (by decide)) HX8.out HSM.out)
                  rw [HTL.out] at HIX
                  have hcz : clampS (z : Int) = z := by unfold clampS; omega
                  have hxl : (idx (clamp ev) 0 (parts (clampS (z : Int)) [] (ones j))).length = q := by rw [idx_len, hcz, ones_parts hn1 hz1, hq, hk]
                  have HXL := Lib.hid hxl
                  clear hq hk hcz hxl
                  generalize idx (clamp ev) 0 (parts (clampS (z : Int)) [] (ones j)) = Q at *
                  go_wp2_with fail
                  refine HIX.out.mono ?_
                  rintro e W8 ⟨hb8, A8, c8, L8, rfl, hL8, -⟩
                  have hl8 : L8.length = q := by have := congrArg List.length hL8; rw [List.length_map] at this; rw [this]; exact HXL.out
                  rw [hl8]
                  have HBZ := Lib.hid ((HB2.out.trans (hbi.out.mono HB2.out.size)).trans (hb8.mono (Nat.le_trans HB2.out.size hbi.out.size)))
                  clear hb8 hL8 hl8 HIX
                  go_wp2_with fail
                  refine (Tb.num_any _ W8).mono ?_
                  rintro e w' ⟨rfl, rfl⟩
                  go_wp2_with fail
                  go_ret
                  exact ⟨rfl, HBZ.out⟩

set_option maxRecDepth 100000 in
theorem lifted (os : Os) (started : os.Started) (H : Type) (enc : TypeId × Value → H) :
    ReturnsInHanded {} Try.checked os 9 .any (Rows.tableOneSpec.pre6 enc Try.prog Try.f9 Rows.tableOneRow.domain false) (Rows.tableOneSpec.post enc Try.prog Try.f9 false true false false) := by
  refine lift_true (C := Try.checked) own started (by kernel_rfl) Try.func9
    (ChangeSpec.witness6 (enc := enc) (C := Try.checked) false ⟨#[], #[.int .i64 0, .int .i64 0, .int .i64 0, .int .i64 0], []⟩ 8 (by kernel_rfl) (by kernel_rfl) (by kernel_rfl) (by kernel_rfl))
    (by kernel_rfl) (by kernel_rfl) (by kernel_rfl) Try.underlying4 rfl ?_ ?_
  · intro ds hds
    match ds, hds with
    | [d1, d2, d3, d4], _ => exact ⟨rfl, rfl, rfl⟩
  · intro W base args ds p hval0 hA0 hlt _
    have hval : ∀ (j : Nat) t v, Try.f9.params[j]? = some t → args[j]? = some v → Value.okWide Try.prog W .any base t v := hval0
    have hA : DataW.TrodAll enc Try.prog W 0 (fun _ => true) true Try.f9.params.toList args.toList ds p := hA0
    rw [Try.params9] at hA hval
    obtain ⟨v0, vs0, d0, ds0, p0, q0, hargs, rfl, rfl, h0, r0⟩ := trodAll_cons hA
    obtain ⟨v1, vs1, d1, ds1, p1, q1, rfl, rfl, rfl, h1, r1⟩ := trodAll_cons r0
    obtain ⟨v2, vs2, d2, ds2, p2, q2, rfl, rfl, rfl, h2, r2⟩ := trodAll_cons r1
    obtain ⟨v3, vs3, d3, ds3, p3, q3, rfl, rfl, rfl, h3, r3⟩ := trodAll_cons r2
    obtain ⟨rfl, rfl, rfl⟩ := trodAll_nil r3
    obtain rfl : args = #[v0, v1, v2, v3] := by cases args; simp_all
    obtain ⟨a0, rfl, rfl, rfl, w0⟩ := open_int Try.underlying3 (hval 0 _ v0 rfl rfl) h0
    have b0 := i64_of w0
    obtain ⟨a1, rfl, rfl, rfl, w1⟩ := open_int Try.underlying3 (hval 1 _ v1 rfl rfl) h1
    have b1 := i64_of w1
    obtain ⟨a2, rfl, rfl, rfl, w2⟩ := open_int Try.underlying3 (hval 2 _ v2 rfl rfl) h2
    have b2 := i64_of w2
    obtain ⟨a3, rfl, rfl, rfl, w3⟩ := open_int Try.underlying3 (hval 3 _ v3 rfl rfl) h3
    have b3 := i64_of w3
    exact walk a0 a1 a2 a3 W b0 b1

theorem over : Rows.tableOneRow.holds Try.pinned (OpenSpec.ofChange Rows.tableOneSpec) :=
  OpenClaim.holds_of_wide 9 Try.f9 rfl rfl rfl rfl rfl rfl rfl ⟨rfl, rfl, rfl, rfl, rfl⟩ rfl rfl rfl rfl rfl (by kernel_rfl) Try.func9 (by kernel_rfl)
    (of_decide_eq_true (by kernel_rfl)) (by unfold Func.isWrapper; first | (rw [if_pos (by decide +kernel)]; kernel_rfl) | (rw [if_neg (by decide +kernel)]; exact ⟨rfl, rfl⟩))
    (fun os started H enc _ => lifted os started H enc)

theorem proved : Rows.TableOneSaid :=
  over
#print axioms proved
end Go.Proofs.Ytobjiamdljjkjaa.tableOne
