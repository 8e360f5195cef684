/- What the document's own All answers. -/
import Derived.Test.YtkmelhgpngochaaDoorFsame
import Derived.Test.YtkmelhgpngochaaDoorFrpiece
import Derived.Deep.RegionWith
import Derived.Deep.Cut
namespace Go.Proofs.YtkmelhgpngochaaDoor.Fr
set_option linter.unusedVariables false
set_option linter.unusedSimpArgs false
open Go.RowKit Lift Ik Sq
theorem nxt_near {b : List Nat} {a : Nat} (h : ¬ (left a < 7 ∧ a < b.length)) (ha : a ≤ b.length) : nxt b a = frg b a := by
  have hs : skip b a = a := by unfold skip; split <;> omega
  have hc : clean b a := by
    unfold clean padding
    split
    · rw [List.drop_of_length_le (by omega)]; simp
    · simp
  unfold nxt
  rw [if_pos hc, hs]
theorem left_next (a : Nat) : left (a + left a) = 128 := by
  have h : (a + left a) % 128 = 0 := by unfold left; omega
  show 128 - (a + left a) % 128 = 128
  omega
theorem neq_str (x y : List Nat) (hx : ∀ a, a ∈ x → a < 256) (hy : ∀ a, a ∈ y → a < 256) (W : World) : Sem.run Tryd.prog (binOp .neq 9 (.string (str x)) (.string (str y))) W = .ok (.bool (decide (x ≠ y))) W := by
  have h := str_eq hx hy
  go_simp
theorem run_str7 {w : World} {B c : Nat} {A : Option Addr} {bs : List Nat} {k : Nat} (hl : Lies w B A (bs.map vb)) (hk : bs.length = k) : Sem.run Tryd.prog (convert 22 9 (.slice A k c)) w = .ok (.string (str bs)) w := by
  rw [← hk]
  exact run_string_lies (P := Tryd.prog) (c := c) _ _ 5 Tryd.underlying22 Tryd.underlying5 Tryd.underlying9 hl
set_option maxRecDepth 100000 in
set_option maxHeartbeats 12800000 in
theorem rall_any (A : Option Addr) (c : Nat) (b : List Nat) (w : World) (hl : Lies w w.heap.size A (b.map vb)) (hc : b.length ≤ c) (hm : c ≤ maxLen) (hn : b.length ≤ 1000000) (h8 : ∀ x, x ∈ b → x < 256) :
    Calls Tryd.prog 14 #[.slice A b.length c] w (Told w b) := by
  have HL := Lib.hid hl
  have H8 := Lib.hid h8
  clear hl h8
  go_enter Tryd.func14, Tryd.ntmps14
  go_wp2_with fail
  go_loopw [5, 6, 7, 8, 9] (fun out now wi at' done wr => ∃ (L : List E) (n a : Nat) (nw : List Nat) (f : Bool), done = .int .i64 n ∧ at' = .int .i64 a ∧ wi = .bool f ∧ a ≤ b.length ∧ L.length ≤ a ∧ nw.length ≤ a ∧ Hid (wr.ownsRow w.heap.size 5 1 now nw.length (nw.map vb)) ∧ Hid (Acc w.heap.size wr none out now L) ∧
    Hid (∀ x, x ∈ nw → x < 256) ∧ Hid (∀ R, Rd b a f nw n (L.map (·.bs)) R → Rd b 0 false [] 0 [] R) ∧ Hid (Below w.heap.size w wr)) (fun _ _ _ at' _ _ => b.length + 1 - (intOf at').toNat)
  case atStart => exact ⟨[], 0, 0, [], false, rfl, rfl, rfl, by omega, by simp, by simp, Lib.hid (World.ownsRow_nil _ _ _ _), Lib.hid (Acc.nil _ _ _ _), Lib.hid (by simp), Lib.hid (fun R h => h), Lib.hid (Below.refl _ _)⟩
  case round =>
    obtain ⟨L, n, a, nw, f, rfl, rfl, rfl, ha, hLa, hna, HO, HA, HN8, HRd, HB⟩ := hrel
    have hla : left a = 128 - a % 128 := rfl
    have hlp := left_pos a
    by_cases hp : left a < 7 ∧ a < b.length
    case' pos =>
      obtain ⟨hp1, hp2⟩ := hp
      have h1 : 128 - (a : Int) % 128 < 7 := by omega
      have h2 : 0 < (b.length : Int) - (a : Int) := by omega
      obtain ⟨k, hk⟩ : ∃ k, k = min (left a) (b.length - a) := ⟨_, rfl⟩
      obtain ⟨A2, hA2, _, hmid⟩ := cut_mid A b.length c a k (by omega) hc hm
      have hpad : padding b a = (b.drop a).take (left a) := by unfold padding; rw [if_pos hp1]
      have hpk : (padding b a).length = k := by rw [hpad, List.length_take, List.length_drop]; omega
      have hz := zeros_any A2 (c - a) w.heap.size (padding b a) wr ((HL.out.below HB.out).cut (p := a) (fun h0 => hA2 (by omega)) (by rw [hpad]; exact List.take_prefix _ _)) (by omega) (by rw [hpad]; exact fun x hx => H8.out x (List.mem_of_mem_drop (List.mem_of_mem_take hx)))
      rw [hpk] at hz
      have HZ := Lib.hid (show Calls Tryd.prog 23 #[.slice A2 k (c - a)] wr fun e w' => e = .returned (.bool (decide (clean b a))) ∧ wr = w' from hz)
      have hskip : skip b a = a + k := by unfold skip; rw [if_pos hp1]; omega
      have HSK : Hid (clean b a → nxt b a = frg b (a + k)) := Lib.hid (fun h => by unfold nxt; rw [if_pos h, hskip])
      have HNC : Hid (¬ clean b a → nxt b a = .stop 2) := Lib.hid (fun h => by unfold nxt; rw [if_neg h])
      clear hz hpk hpad hA2 hskip
      by_cases hk2 : left a ≤ b.length - a
      case' pos =>
        have hkl : k = left a := by omega
        have h3 : ¬ ((b.length : Int) - (a : Int) < 128 - (a : Int) % 128) := by omega
        have hcut := fun W => hmid W ((a : Int) + (128 - (a : Int) % 128)) (by omega)
        have ek : 128 - (a : Int) % 128 = (k : Int) := by omega
        have HKL := Lib.hid hkl
        have HLF := Lib.hid hla
        have HA1 : Hid (left (a + k) = 128) := Lib.hid (by rw [hkl]; exact left_next a)
        clear hmid hk hkl ek hla hlp hk2 hp1
        go_wp2_with fail
        refine HZ.out.mono ?_; rintro e w' ⟨rfl, rfl⟩
        by_cases hcl : clean b a
        case' pos =>
          have HX := Lib.hid (HSK.out hcl)
          rw [decide_eq_true hcl]
          clear hcl HZ HSK HNC hcut
          go_upto_region 17 with fail
          have hka : (128 : Int) - (a : Int) % 128 = (k : Int) := by have := HKL.out; have := HLF.out; omega
          have hkb : k ≤ b.length - a := by omega
          rw [hka]
          rw [show (a : Int) + (k : Int) = ((a + k : Nat) : Int) by omega, show (b.length : Int) - (a : Int) - (k : Int) = ((b.length - (a + k) : Nat) : Int) by omega, show (Value.int .i64 128) = .int .i64 ((128 : Nat) : Int) from rfl]
          have ha1 : a + k ≤ b.length := by omega
          have hLa1 : L.length ≤ a + k := by omega
          have hna1 : nw.length ≤ a + k := by omega
          have haa : a ≤ a + k := by omega
          clear hka hkb HKL HLF h1 h2 h3 hp2 hLa hna
          obtain ⟨lf, hlf⟩ : ∃ lf : Nat, lf = 128 := ⟨_, rfl⟩
          rw [show (128 : Nat) = lf from hlf.symm] at HA1 ⊢
          have hl128 : lf ≤ 128 := by omega
          clear hlf
          generalize hak : a + k = a1 at *
          clear hak
        case' neg =>
          have E := Lib.hid (HNC.out hcl)
          rw [decide_eq_false hcl]
          clear hcl HZ HSK HNC hcut
          go_wp2_with fail
          go_returns
          obtain ⟨Ar, cr, rfl, hs⟩ := HA.out.seqs
          exact ⟨Ar, cr, L, n, 2, rfl, hs, by simpa using HRd.out _ (Rd.stop E.out), HB.out⟩
      case' neg =>
        have hkl : k = b.length - a := by omega
        have h3 : (b.length : Int) - (a : Int) < 128 - (a : Int) % 128 := by omega
        have hcut := fun W => hmid W (b.length : Int) (by omega)
        have hcut2 := fun W => hmid W ((a : Int) + ((b.length : Int) - (a : Int))) (by omega)
        have HEN : Hid (clean b a → nxt b a = .stop 0) := Lib.hid (fun h => by
          rw [HSK.out h, show a + k = b.length by omega]
          unfold frg
          rw [if_pos (Nat.le_refl _)])
        clear hmid hk hkl hla hlp hk2 hp1 HSK
        go_wp2_with fail
        refine HZ.out.mono ?_; rintro e w' ⟨rfl, rfl⟩
        by_cases hcl : clean b a
        · have E := Lib.hid (HEN.out hcl)
          rw [decide_eq_true hcl]
          clear hcl HZ HNC hcut hcut2 HEN
          cases f
          · go_wp2_with fail
            go_returns
            obtain ⟨Ar, cr, rfl, hs⟩ := HA.out.seqs
            exact ⟨Ar, cr, L, n, 0, rfl, hs, by simpa using HRd.out _ (Rd.stop E.out), HB.out⟩
          · go_wp2_with fail
            go_returns
            obtain ⟨Ar, cr, rfl, hs⟩ := HA.out.seqs
            exact ⟨Ar, cr, L, n, 1, rfl, hs, by simpa using HRd.out _ (Rd.stop E.out), HB.out⟩
        · have E := Lib.hid (HNC.out hcl)
          rw [decide_eq_false hcl]
          clear hcl HZ HNC hcut hcut2 HEN
          go_wp2_with fail
          go_returns
          obtain ⟨Ar, cr, rfl, hs⟩ := HA.out.seqs
          exact ⟨Ar, cr, L, n, 2, rfl, hs, by simpa using HRd.out _ (Rd.stop E.out), HB.out⟩
    case' neg =>
      have HX := Lib.hid (nxt_near hp ha)
      have h1 : 7 ≤ 128 - (a : Int) % 128 ∨ (b.length : Int) - (a : Int) = 0 := by omega
      have ELF : (128 : Int) - (a : Int) % 128 = ((left a : Nat) : Int) := by omega
      have ERL : (b.length : Int) - (a : Int) = ((b.length - a : Nat) : Int) := by omega
      have HELF := Lib.hid ELF
      have HERL := Lib.hid ERL
      have hl128 : left a ≤ 128 := hlp.2
      obtain ⟨lf, hlf⟩ : ∃ lf, lf = left a := ⟨_, rfl⟩
      have HA1 : Hid (left a = lf) := Lib.hid hlf.symm
      clear hp hla ELF ERL hlp
      have haa : a ≤ a := Nat.le_refl _
      rcases h1 with h1 | h1
      case' inl =>
        go_upto_region 17 with fail
        rw [HELF.out, HERL.out, ← hlf]
        rw [← hlf] at hl128
        clear HELF HERL h1
        have ha1 := ha
        have hLa1 := hLa
        have hna1 := hna
        clear hlf
        obtain ⟨a1, hq⟩ : ∃ a1, a1 = a := ⟨_, rfl⟩
        have HX' : Hid (nxt b a = frg b a1) := Lib.hid (by rw [hq]; exact HX.out)
        have HA1' : Hid (left a1 = lf) := Lib.hid (by rw [hq]; exact HA1.out)
        rw [← hq] at ha1 hLa1 hna1
        have haa' : a ≤ a1 := by omega
        rw [show (Value.int .i64 (a : Int)) = .int .i64 (a1 : Int) by rw [hq], show b.length - a = b.length - a1 by rw [hq]]
        clear HX HA1 haa hq hLa hna
        have HX := HX'
        have HA1 := HA1'
        have haa := haa'
        clear HX' HA1' haa'
      case' inr =>
        have E := Lib.hid (show nxt b a = .stop 0 from by rw [HX.out]; unfold frg; rw [if_pos (by omega)])
        cases f
        · go_wp2_with fail
          all_goals
            go_returns
            obtain ⟨Ar, cr, rfl, hs⟩ := HA.out.seqs
            exact ⟨Ar, cr, L, n, 0, rfl, hs, by simpa using HRd.out _ (Rd.stop E.out), HB.out⟩
        · go_wp2_with fail
          all_goals
            go_returns
            obtain ⟨Ar, cr, rfl, hs⟩ := HA.out.seqs
            exact ⟨Ar, cr, L, n, 1, rfl, hs, by simpa using HRd.out _ (Rd.stop E.out), HB.out⟩
    all_goals
      obtain ⟨r, hr⟩ : ∃ r, r = b.drop a1 := ⟨_, rfl⟩
      have hrl : b.length - a1 = r.length := by rw [hr, List.length_drop]
      obtain ⟨F0, F1, F2, F3, F4, F5⟩ := frg_stop hr ha1
      rw [HA1.out] at F2 F3 F4 F5
      rw [← HX.out] at F0 F1 F2 F3 F4 F5
      have G0 := Lib.hid F0
      have G1 := Lib.hid F1
      have G2 := Lib.hid F2
      have G3 := Lib.hid F3
      have G4 := Lib.hid F4
      have G5 := Lib.hid F5
      have HRI := Lib.hid hr
      rw [hrl]
      have hbl : a1 + r.length = b.length := by omega
      have H8r : Hid (∀ x, x ∈ r → x < 256) := Lib.hid (by rw [hr]; exact fun x hx => H8.out x (List.mem_of_mem_drop hx))
      clear F0 F1 F2 F3 F4 F5 hr hrl HX HA1
      by_cases h0 : r.length = 0
      · have E := Lib.hid (G0.out h0)
        cases f
        · go_wp2_with fail
          go_returns
          obtain ⟨Ar, cr, rfl, hs⟩ := HA.out.seqs
          exact ⟨Ar, cr, L, n, 0, rfl, hs, by simpa using HRd.out _ (Rd.stop E.out), HB.out⟩
        · go_wp2_with fail
          go_returns
          obtain ⟨Ar, cr, rfl, hs⟩ := HA.out.seqs
          exact ⟨Ar, cr, L, n, 1, rfl, hs, by simpa using HRd.out _ (Rd.stop E.out), HB.out⟩
      · by_cases h7 : r.length < 7
        · have E := Lib.hid (G1.out (by omega) h7)
          go_wp2_with fail
          go_returns
          obtain ⟨Ar, cr, rfl, hs⟩ := HA.out.seqs
          exact ⟨Ar, cr, L, n, 1, rfl, hs, by simpa using HRd.out _ (Rd.stop E.out), HB.out⟩
        · obtain ⟨ad, hA, _, hcell⟩ := HL.out.place (by rw [List.length_map]; omega)
          subst hA
          have HLb := Lib.hid (HL.out.below HB.out)
          have hg := get_any (some ad) c w.heap.size (a1 + 4) 2 b wr HLb.out hc hm H8.out (by decide) (by omega)
          rw [show ((b.drop (a1 + 4)).take 2) = (r.drop 4).take 2 by rw [HRI.out, List.drop_drop], show ((a1 + 4 : Nat) : Int) = (a1 : Int) + 4 by omega] at hg
          have HG := Lib.hid (show Calls Tryd.prog 24 #[.slice (some ad) b.length c, .int .i64 ((a1 : Int) + 4), .int .i64 2] wr fun e w' => e = .returned (.int .u64 (num2 r : Nat)) ∧ wr = w' from hg)
          have hn2 : num2 r < 65536 := by
            have h1 := num_lt ((r.drop 4).take 2) (byte_front H8r.out fun x hx => List.mem_of_mem_drop (List.mem_of_mem_take hx))
            have h2 : ((r.drop 4).take 2).length = 2 := by rw [List.length_take, List.length_drop]; omega
            rw [h2] at h1
            exact h1
          obtain ⟨kk, hkk⟩ : ∃ kk, r[6]? = some kk := ⟨_, List.getElem?_eq_getElem (by omega)⟩
          have ekk : kindOf r = kk := by unfold kindOf; rw [hkk]; rfl
          have k8 : kk < 256 := H8r.out _ (List.mem_of_getElem? hkk)
          have h6 : wr.cell? (ad.add (a1 + 6)) = some (vb kk) := by
            have hb6 : b[a1 + 6]? = some kk := by rw [← List.getElem?_drop, ← HRI.out]; exact hkk
            obtain ⟨ad', e, _, hcell'⟩ := HLb.out.place (by rw [List.length_map]; omega)
            cases e
            exact hcell' (a1 + 6) (vb kk) (by rw [List.getElem?_map, hb6]; rfl)
          have h6' : wr.cell? ⟨ad.block, ad.off + (a1 + 5 + 1), none⟩ = some (vb kk) := by
            rw [show (⟨ad.block, ad.off + (a1 + 5 + 1), none⟩ : Addr) = ad.add (a1 + 6) by simp [Addr.add]]
            exact h6
          have HSP := Lib.hid (split6 (r := r))
          have HH7 := Lib.hid (head7 (r := r) (by omega) H8r.out)
          have HGD : Hid (good r ↔ num (r.take 4) = sumB (kindOf r) (dataOf r) ∧ 1 ≤ kindOf r ∧ kindOf r ≤ 4) := Lib.hid (by unfold good; exact Iff.rfl)
          have HD8 : Hid (∀ x, x ∈ dataOf r → x < 256) := Lib.hid (byte_front H8r.out fun x hx => List.mem_of_mem_drop (List.mem_of_mem_take hx))
          have HDT : Hid (dataOf r = (r.drop 7).take (num2 r)) := Lib.hid rfl
          rw [ekk] at G5 HSP HH7 HGD
          clear hg hcell ekk hkk
          generalize num2 r = m at *
          generalize dataOf r = d at *
          go_wp2_with fail
          refine HG.out.mono ?_; rintro e w' ⟨rfl, rfl⟩
          by_cases hl7 : lf < 7 + m
          · have E := Lib.hid (G2.out (by omega) hl7)
            have d1 : decide ((lf : Int) < 7 + (m : Int)) = true := by simp; omega
            go_wp2_with fail
            go_returns
            obtain ⟨Ar, cr, rfl, hs⟩ := HA.out.seqs
            exact ⟨Ar, cr, L, n, 2, rfl, hs, by simpa using HRd.out _ (Rd.stop E.out), HB.out⟩
          · have d1 : decide ((lf : Int) < 7 + (m : Int)) = false := by simp; omega
            by_cases hr7 : r.length < 7 + m
            · have E := Lib.hid (G3.out (by omega) (by omega) hr7)
              have d2 : decide ((r.length : Int) < 7 + (m : Int)) = true := by simp; omega
              go_wp2_with fail
              go_returns
              obtain ⟨Ar, cr, rfl, hs⟩ := HA.out.seqs
              exact ⟨Ar, cr, L, n, 1, rfl, hs, by simpa using HRd.out _ (Rd.stop E.out), HB.out⟩
            · have d2 : decide ((r.length : Int) < 7 + (m : Int)) = false := by simp; omega
              obtain ⟨s1, s2, s3⟩ := HSP.out (by omega)
              have HH := Lib.hid (HH7.out s2)
              obtain ⟨A7, hA7, hs7, hx7⟩ := cut_mid (some ad) b.length c (a1 + 7) m (by omega) hc hm
              have hcx := fun W => hx7 W ((a1 : Int) + 7 + (m : Int)) (by omega)
              rw [show ((a1 + 7 : Nat) : Int) = (a1 : Int) + 7 by omega] at hcx
              obtain ⟨Ah, hAh, _, hxh⟩ := cut_mid (some ad) b.length c a1 7 (by omega) hc hm
              have hch := fun W => hxh W ((a1 : Int) + 7) (by omega)
              have HLd : Hid (Lies wr w.heap.size A7 (d.map vb)) := Lib.hid (HLb.out.cut (p := a1 + 7) (fun h0 => hA7 (by omega)) (by rw [HDT.out, HRI.out, List.drop_drop]; exact List.take_prefix _ _))
              have l7 : (r.take 7).length = 7 := by rw [List.length_take]; omega
              have HLh : Hid (Lies wr w.heap.size Ah ((r.take 7).map vb)) := Lib.hid (HLb.out.cut (p := a1) (fun h0 => hAh (by omega)) (by rw [HRI.out]; exact List.take_prefix _ _))
              have H78 : Hid (∀ x, x ∈ r.take 7 → x < 256) := Lib.hid (byte_front H8r.out fun x hx => List.mem_of_mem_take hx)
              have HLD : Hid (d.length = m) := Lib.hid s2
              have hcm7 : c - (a1 + 7) ≤ maxLen := by unfold maxLen at hm ⊢; omega
              have HPC := Lib.hid fun W (hb : Below wr.heap.size wr W) => rpiece_any kk (c - (a1 + 7)) w.heap.size A7 d W (HLd.out.later fun p hp => hb.cell (Nat.lt_of_lt_of_le hp HB.out.size)) (Nat.le_trans HB.out.size hb.size) (by omega) hcm7 (by omega) k8 HD8.out
              rw [HLD.out] at HPC
              have HPL := Lib.hid (piece_length kk d)
              have HP8 := Lib.hid (piece_byte k8 HD8.out)
              have hPt : ((piece kk d).take 7).length = 7 := by rw [List.length_take, HPL.out]; omega
              have HQ := Lib.hid (neq_str (r.take 7) ((piece kk d).take 7) H78.out (fun x hx => HP8.out x (List.mem_of_mem_take hx)))
              have hdm : d.length = m := HLD.out
              have hw7 : IntKind.i64.wrap ((a1 : Int) + 7) = (a1 : Int) + 7 := by rw [IntKind.wrap_i64]; omega
              have HST : Hid (r.take 7 = (piece kk d).take 7 ↔ num (r.take 4) = sumB kk d) := HH
              clear hx7 hxh s1 s2 s3 hA7 hAh HG h6 HSP HH7 HH hdm
              generalize hPP : piece kk d = P at *
              clear hPP
              go_wp2_with fail
              by_cases hs : r.take 7 = P.take 7
              · have HQ7 : ∀ W : World, Sem.run Tryd.prog (binOp .neq 9 (.string (str (r.take 7))) (.string (str (P.take 7)))) W = .ok (.bool false) W := fun W => by rw [HQ.out W, decide_eq_false (fun h => h hs)]
                have HQ8 := Lib.hid (show ((str (r.take 7)).toList == (str (P.take 7)).toList) = true from by rw [str_eq H78.out (fun x hx => HP8.out x (List.mem_of_mem_take hx)), decide_eq_true hs])
                have HSE := Lib.hid (HST.out.1 hs)
                clear hs HQ
                by_cases hk1 : kk < 1
                · have E := Lib.hid (G4.out (by omega) (by omega) (by omega) fun hg => by have := HGD.out.1 hg; omega)
                  have d4 : decide ((kk : Int) < 1) = true := by simp; omega
                  refine wp_region_held_drew (S := fun w' => Hid (Below wr.heap.size wr w')) (by kernel_rfl) (Lib.hid (Below.refl _ _).drew) (fun hS => ?_)
                  refine wpAnyH_take (i := 0) (v := ?_) rfl (by kernel_rfl) (by kernel_rfl) (by kernel_rfl) (fun _ _ _ h => h) (Or.inl ⟨by rfl, ?_⟩) hS ?_
                  rotate_left
                  · intro w hw
                    go_simp
                    try with_reducible rfl
                  try simp only [Act.put, List.getElem_toArray, List.getElem_cons_succ, List.getElem_cons_zero, List.setIfInBounds_toArray, List.set_cons_zero, List.set_cons_succ]
                  refine wpAnyH_take (i := 1) (v := ?_) rfl (by kernel_rfl) (by kernel_rfl) (by kernel_rfl) (fun _ _ _ h => h) (Or.inl ⟨by rfl, ?_⟩) hS ?_
                  rotate_left
                  · intro w hw
                    go_simp
                    try with_reducible rfl
                  try simp only [Act.put, List.getElem_toArray, List.getElem_cons_succ, List.getElem_cons_zero, List.setIfInBounds_toArray, List.set_cons_zero, List.set_cons_succ]
                  refine wpAnyH_take (i := 2) (v := ?_) rfl (by kernel_rfl) (by kernel_rfl) (by kernel_rfl) (fun _ _ _ h => h) (Or.inl ⟨by rfl, ?_⟩) hS ?_
                  rotate_left
                  · intro w hw
                    go_simp
                    try with_reducible rfl
                  try simp only [Act.put, List.getElem_toArray, List.getElem_cons_succ, List.getElem_cons_zero, List.setIfInBounds_toArray, List.set_cons_zero, List.set_cons_succ]
                  refine wpAnyH_take (i := 3) (v := ?_) rfl (by kernel_rfl) (by kernel_rfl) (by kernel_rfl) (fun _ _ _ h => h) (Or.inl ⟨by rfl, ?_⟩) hS ?_
                  rotate_left
                  · intro w hw
                    go_simp
                    try with_reducible rfl
                  try simp only [Act.put, List.getElem_toArray, List.getElem_cons_succ, List.getElem_cons_zero, List.setIfInBounds_toArray, List.set_cons_zero, List.set_cons_succ]
                  refine wpAnyH_take (i := 4) (v := ?_) rfl (by kernel_rfl) (by kernel_rfl) (by kernel_rfl) (fun _ _ _ h => h) (Or.inl ⟨by rfl, ?_⟩) hS ?_
                  rotate_left
                  · intro w hw
                    go_simp
                    try with_reducible rfl
                  try simp only [Act.put, List.getElem_toArray, List.getElem_cons_succ, List.getElem_cons_zero, List.setIfInBounds_toArray, List.set_cons_zero, List.set_cons_succ]
                  refine wpAnyH_take (i := 5) (v := ?_) rfl (by kernel_rfl) (by kernel_rfl) (by kernel_rfl) (fun _ _ _ h => h) (Or.inl ⟨by rfl, ?_⟩) hS ?_
                  rotate_left
                  · intro w hw
                    have hc := run_str7 (c := c - a1) (HLh.out.below (hw.out.mono HB.out.size)) l7
                    go_simp
                    try with_reducible rfl
                  try simp only [Act.put, List.getElem_toArray, List.getElem_cons_succ, List.getElem_cons_zero, List.setIfInBounds_toArray, List.set_cons_zero, List.set_cons_succ]
                  refine wpAnyH_take (i := 6) (v := ?_) rfl (by kernel_rfl) (by kernel_rfl) (by kernel_rfl) (fun _ _ _ h => h) (Or.inl ⟨by rfl, ?_⟩) hS ?_
                  rotate_left
                  · intro w hw
                    go_simp
                    try with_reducible rfl
                  try simp only [Act.put, List.getElem_toArray, List.getElem_cons_succ, List.getElem_cons_zero, List.setIfInBounds_toArray, List.set_cons_zero, List.set_cons_succ]
                  refine wpAnyH_take (i := 7) (v := ?_) rfl (by kernel_rfl) (by kernel_rfl) (by kernel_rfl) (fun _ _ _ h => h) (Or.inl ⟨by rfl, ?_⟩) hS ?_
                  rotate_left
                  · intro w hw
                    go_simp
                    try with_reducible rfl
                  try simp only [Act.put, List.getElem_toArray, List.getElem_cons_succ, List.getElem_cons_zero, List.setIfInBounds_toArray, List.set_cons_zero, List.set_cons_succ]
                  refine wpAnyH_ready (rs := [8]) (by kernel_rfl) (by simp) ?_
                  refine AllReadyH.cons rfl (fun K hK => ?_) AllReadyH.nil
                  go_simp
                  refine (HPC.out _ hS.out).mono ?_
                  rintro e W6 ⟨v6, rfl, ho6, hb6⟩
                  obtain ⟨Ap, cp, rfl, k1, k2, k3⟩ := own_parts ho6
                  have H6 := Lib.hid (hS.out.trans (hb6.mono hS.out.size))
                  have L6 := Lib.hid k3
                  have hcp7 : ∀ W : World, Sem.run Tryd.prog (Instr.slice 22 (.slice Ap P.length cp) none (some (.int .i64 7)) none) W = .ok (.slice Ap 7 cp) W := cut_to Ap P.length cp 7 (by have := HPL.out; omega) k1 k2
                  clear ho6 hb6 k3
                  go_wp2_with fail
                  refine hK.out _ _ H6 (fun _ => ?_)
                  clear hK K hS
                  refine wpAnyH_other (S' := fun w' => Hid (Below W6.heap.size W6 w')) (fun w hw => Lib.hid (H6.out.trans (hw.out.mono H6.out.size))) _ _ _ _ ?_
                  have hS : Hid (Below W6.heap.size W6 W6) := Lib.hid (Below.refl _ _)
                  try simp only [Act.put, List.getElem_toArray, List.getElem_cons_succ, List.getElem_cons_zero, List.setIfInBounds_toArray, List.set_cons_zero, List.set_cons_succ]
                  refine wpAnyH_take (i := 9) (v := ?_) rfl (by kernel_rfl) (by kernel_rfl) (by kernel_rfl) (fun _ _ _ h => h) (Or.inl ⟨by rfl, ?_⟩) hS ?_
                  rotate_left
                  · intro w hw
                    go_simp
                    try with_reducible rfl
                  try simp only [Act.put, List.getElem_toArray, List.getElem_cons_succ, List.getElem_cons_zero, List.setIfInBounds_toArray, List.set_cons_zero, List.set_cons_succ]
                  refine wpAnyH_take (i := 10) (v := ?_) rfl (by kernel_rfl) (by kernel_rfl) (by kernel_rfl) (fun _ _ _ h => h) (Or.inl ⟨by rfl, ?_⟩) hS ?_
                  rotate_left
                  · intro w hw
                    have hc := run_str7 (c := cp) ((L6.out.below hw.out).front (by rw [List.map_take]; exact List.take_prefix _ _)) hPt
                    go_simp
                    try with_reducible rfl
                  try simp only [Act.put, List.getElem_toArray, List.getElem_cons_succ, List.getElem_cons_zero, List.setIfInBounds_toArray, List.set_cons_zero, List.set_cons_succ]
                  refine wpAnyH_take (i := 11) (v := ?_) rfl (by kernel_rfl) (by kernel_rfl) (by kernel_rfl) (fun _ _ _ h => h) (Or.inl ⟨by rfl, ?_⟩) hS ?_
                  rotate_left
                  · intro w hw
                    have hc := HQ8.out
                    go_simp
                    try with_reducible rfl
                  try simp only [Act.put, List.getElem_toArray, List.getElem_cons_succ, List.getElem_cons_zero, List.setIfInBounds_toArray, List.set_cons_zero, List.set_cons_succ]
                  refine wpAnyH_take (i := 12) (v := ?_) rfl (by kernel_rfl) (by kernel_rfl) (by kernel_rfl) (fun _ _ _ h => h) (Or.inl ⟨by rfl, ?_⟩) hS ?_
                  rotate_left
                  · intro w hw
                    go_simp
                    try with_reducible rfl
                  try simp only [Act.put, List.getElem_toArray, List.getElem_cons_succ, List.getElem_cons_zero, List.setIfInBounds_toArray, List.set_cons_zero, List.set_cons_succ]
                  refine wpAnyH_take (i := 13) (v := ?_) rfl (by kernel_rfl) (by kernel_rfl) (by kernel_rfl) (fun _ _ _ h => h) (Or.inl ⟨by rfl, ?_⟩) hS ?_
                  rotate_left
                  · intro w hw
                    go_simp
                    try with_reducible rfl
                  try simp only [Act.put, List.getElem_toArray, List.getElem_cons_succ, List.getElem_cons_zero, List.setIfInBounds_toArray, List.set_cons_zero, List.set_cons_succ]
                  refine wpAnyH_take (i := 14) (v := ?_) rfl (by kernel_rfl) (by kernel_rfl) (by kernel_rfl) (fun _ _ _ h => h) (Or.inl ⟨by rfl, ?_⟩) hS ?_
                  rotate_left
                  · intro w hw
                    go_simp
                    try with_reducible rfl
                  try simp only [Act.put, List.getElem_toArray, List.getElem_cons_succ, List.getElem_cons_zero, List.setIfInBounds_toArray, List.set_cons_zero, List.set_cons_succ]
                  refine wpAnyH_take (i := 15) (v := ?_) rfl (by kernel_rfl) (by kernel_rfl) (by kernel_rfl) (fun _ _ _ h => h) (Or.inl ⟨by rfl, ?_⟩) hS ?_
                  rotate_left
                  · intro w hw
                    go_simp
                    try with_reducible rfl
                  try simp only [Act.put, List.getElem_toArray, List.getElem_cons_succ, List.getElem_cons_zero, List.setIfInBounds_toArray, List.set_cons_zero, List.set_cons_succ]
                  refine wpAnyH_take (i := 16) (v := ?_) rfl (by kernel_rfl) (by kernel_rfl) (by kernel_rfl) (fun _ _ _ h => h) (Or.inl ⟨by rfl, ?_⟩) hS ?_
                  rotate_left
                  · intro w hw
                    go_simp
                    try with_reducible rfl
                  try simp only [Act.put, List.getElem_toArray, List.getElem_cons_succ, List.getElem_cons_zero, List.setIfInBounds_toArray, List.set_cons_zero, List.set_cons_succ]
                  refine wpAnyH_take (i := 17) (v := undef) rfl (by kernel_rfl) (by kernel_rfl) (by kernel_rfl) (fun _ _ _ h => h) (Or.inr ⟨by rfl, rfl⟩) hS ?_
                  try simp only [Act.put, List.getElem_toArray, List.getElem_cons_succ, List.getElem_cons_zero, List.setIfInBounds_toArray, List.set_cons_zero, List.set_cons_succ]
                  refine wpAnyH_take (i := 18) (v := undef) rfl (by kernel_rfl) (by kernel_rfl) (by kernel_rfl) (fun _ _ _ h => h) (Or.inr ⟨by rfl, rfl⟩) hS ?_
                  try simp only [Act.put, List.getElem_toArray, List.getElem_cons_succ, List.getElem_cons_zero, List.setIfInBounds_toArray, List.set_cons_zero, List.set_cons_succ]
                  refine wpAnyH_take (i := 19) (v := ?_) rfl (by kernel_rfl) (by kernel_rfl) (by kernel_rfl) (fun _ _ _ h => h) (Or.inl ⟨by rfl, ?_⟩) hS ?_
                  rotate_left
                  · intro w hw
                    go_simp
                    try with_reducible rfl
                  try simp only [Act.put, List.getElem_toArray, List.getElem_cons_succ, List.getElem_cons_zero, List.setIfInBounds_toArray, List.set_cons_zero, List.set_cons_succ]
                  refine wpAnyH_take (i := 20) (v := ?_) rfl (by kernel_rfl) (by kernel_rfl) (by kernel_rfl) (fun _ _ _ h => h) (Or.inl ⟨by rfl, ?_⟩) hS ?_
                  rotate_left
                  · intro w hw
                    go_simp
                    try with_reducible rfl
                  try simp only [Act.put, List.getElem_toArray, List.getElem_cons_succ, List.getElem_cons_zero, List.setIfInBounds_toArray, List.set_cons_zero, List.set_cons_succ]
                  refine wpAnyH_take (i := 21) (v := undef) rfl (by kernel_rfl) (by kernel_rfl) (by kernel_rfl) (fun _ _ _ h => h) (Or.inr ⟨by rfl, rfl⟩) hS ?_
                  try simp only [Act.put, List.getElem_toArray, List.getElem_cons_succ, List.getElem_cons_zero, List.setIfInBounds_toArray, List.set_cons_zero, List.set_cons_succ]
                  refine wpAnyH_take (i := 22) (v := undef) rfl (by kernel_rfl) (by kernel_rfl) (by kernel_rfl) (fun _ _ _ h => h) (Or.inr ⟨by rfl, rfl⟩) hS ?_
                  try simp only [Act.put, List.getElem_toArray, List.getElem_cons_succ, List.getElem_cons_zero, List.setIfInBounds_toArray, List.set_cons_zero, List.set_cons_succ]
                  refine wpAnyH_take (i := 23) (v := undef) rfl (by kernel_rfl) (by kernel_rfl) (by kernel_rfl) (fun _ _ _ h => h) (Or.inr ⟨by rfl, rfl⟩) hS ?_
                  try simp only [Act.put, List.getElem_toArray, List.getElem_cons_succ, List.getElem_cons_zero, List.setIfInBounds_toArray, List.set_cons_zero, List.set_cons_succ]
                  refine wpAnyH_take (i := 24) (v := undef) rfl (by kernel_rfl) (by kernel_rfl) (by kernel_rfl) (fun _ _ _ h => h) (Or.inr ⟨by rfl, rfl⟩) hS ?_
                  try simp only [Act.put, List.getElem_toArray, List.getElem_cons_succ, List.getElem_cons_zero, List.setIfInBounds_toArray, List.set_cons_zero, List.set_cons_succ]
                  refine wpAnyH_take (i := 25) (v := ?_) rfl (by kernel_rfl) (by kernel_rfl) (by kernel_rfl) (fun _ _ _ h => h) (Or.inl ⟨by rfl, ?_⟩) hS ?_
                  rotate_left
                  · intro w hw
                    go_simp
                    try with_reducible rfl
                  try simp only [Act.put, List.getElem_toArray, List.getElem_cons_succ, List.getElem_cons_zero, List.setIfInBounds_toArray, List.set_cons_zero, List.set_cons_succ]
                  refine wpAnyH_done (by kernel_rfl) ?_ _
                  go_wp2_with fail
                  go_returns
                  obtain ⟨Ar, cr, rfl, hs⟩ := (HA.out.fresh H6.out).seqs
                  exact ⟨Ar, cr, L, n, 2, rfl, hs, by simpa using HRd.out _ (Rd.stop E.out), HB.out.trans (H6.out.mono HB.out.size)⟩
                · have d4 : decide ((kk : Int) < 1) = false := by simp; omega
                  by_cases hk4 : 4 < kk
                  · have E := Lib.hid (G4.out (by omega) (by omega) (by omega) fun hg => by have := HGD.out.1 hg; omega)
                    have d5 : decide (4 < (kk : Int)) = true := by simp; omega
                    refine wp_region_held_drew (S := fun w' => Hid (Below wr.heap.size wr w')) (by kernel_rfl) (Lib.hid (Below.refl _ _).drew) (fun hS => ?_)
                    refine wpAnyH_take (i := 0) (v := ?_) rfl (by kernel_rfl) (by kernel_rfl) (by kernel_rfl) (fun _ _ _ h => h) (Or.inl ⟨by rfl, ?_⟩) hS ?_
                    rotate_left
                    · intro w hw
                      go_simp
                      try with_reducible rfl
                    try simp only [Act.put, List.getElem_toArray, List.getElem_cons_succ, List.getElem_cons_zero, List.setIfInBounds_toArray, List.set_cons_zero, List.set_cons_succ]
                    refine wpAnyH_take (i := 1) (v := ?_) rfl (by kernel_rfl) (by kernel_rfl) (by kernel_rfl) (fun _ _ _ h => h) (Or.inl ⟨by rfl, ?_⟩) hS ?_
                    rotate_left
                    · intro w hw
                      go_simp
                      try with_reducible rfl
                    try simp only [Act.put, List.getElem_toArray, List.getElem_cons_succ, List.getElem_cons_zero, List.setIfInBounds_toArray, List.set_cons_zero, List.set_cons_succ]
                    refine wpAnyH_take (i := 2) (v := ?_) rfl (by kernel_rfl) (by kernel_rfl) (by kernel_rfl) (fun _ _ _ h => h) (Or.inl ⟨by rfl, ?_⟩) hS ?_
                    rotate_left
                    · intro w hw
                      go_simp
                      try with_reducible rfl
                    try simp only [Act.put, List.getElem_toArray, List.getElem_cons_succ, List.getElem_cons_zero, List.setIfInBounds_toArray, List.set_cons_zero, List.set_cons_succ]
                    refine wpAnyH_take (i := 3) (v := ?_) rfl (by kernel_rfl) (by kernel_rfl) (by kernel_rfl) (fun _ _ _ h => h) (Or.inl ⟨by rfl, ?_⟩) hS ?_
                    rotate_left
                    · intro w hw
                      go_simp
                      try with_reducible rfl
                    try simp only [Act.put, List.getElem_toArray, List.getElem_cons_succ, List.getElem_cons_zero, List.setIfInBounds_toArray, List.set_cons_zero, List.set_cons_succ]
                    refine wpAnyH_take (i := 4) (v := ?_) rfl (by kernel_rfl) (by kernel_rfl) (by kernel_rfl) (fun _ _ _ h => h) (Or.inl ⟨by rfl, ?_⟩) hS ?_
                    rotate_left
                    · intro w hw
                      go_simp
                      try with_reducible rfl
                    try simp only [Act.put, List.getElem_toArray, List.getElem_cons_succ, List.getElem_cons_zero, List.setIfInBounds_toArray, List.set_cons_zero, List.set_cons_succ]
                    refine wpAnyH_take (i := 5) (v := ?_) rfl (by kernel_rfl) (by kernel_rfl) (by kernel_rfl) (fun _ _ _ h => h) (Or.inl ⟨by rfl, ?_⟩) hS ?_
                    rotate_left
                    · intro w hw
                      have hc := run_str7 (c := c - a1) (HLh.out.below (hw.out.mono HB.out.size)) l7
                      go_simp
                      try with_reducible rfl
                    try simp only [Act.put, List.getElem_toArray, List.getElem_cons_succ, List.getElem_cons_zero, List.setIfInBounds_toArray, List.set_cons_zero, List.set_cons_succ]
                    refine wpAnyH_take (i := 6) (v := ?_) rfl (by kernel_rfl) (by kernel_rfl) (by kernel_rfl) (fun _ _ _ h => h) (Or.inl ⟨by rfl, ?_⟩) hS ?_
                    rotate_left
                    · intro w hw
                      go_simp
                      try with_reducible rfl
                    try simp only [Act.put, List.getElem_toArray, List.getElem_cons_succ, List.getElem_cons_zero, List.setIfInBounds_toArray, List.set_cons_zero, List.set_cons_succ]
                    refine wpAnyH_take (i := 7) (v := ?_) rfl (by kernel_rfl) (by kernel_rfl) (by kernel_rfl) (fun _ _ _ h => h) (Or.inl ⟨by rfl, ?_⟩) hS ?_
                    rotate_left
                    · intro w hw
                      go_simp
                      try with_reducible rfl
                    try simp only [Act.put, List.getElem_toArray, List.getElem_cons_succ, List.getElem_cons_zero, List.setIfInBounds_toArray, List.set_cons_zero, List.set_cons_succ]
                    refine wpAnyH_ready (rs := [8]) (by kernel_rfl) (by simp) ?_
                    refine AllReadyH.cons rfl (fun K hK => ?_) AllReadyH.nil
                    go_simp
                    refine (HPC.out _ hS.out).mono ?_
                    rintro e W6 ⟨v6, rfl, ho6, hb6⟩
                    obtain ⟨Ap, cp, rfl, k1, k2, k3⟩ := own_parts ho6
                    have H6 := Lib.hid (hS.out.trans (hb6.mono hS.out.size))
                    have L6 := Lib.hid k3
                    have hcp7 : ∀ W : World, Sem.run Tryd.prog (Instr.slice 22 (.slice Ap P.length cp) none (some (.int .i64 7)) none) W = .ok (.slice Ap 7 cp) W := cut_to Ap P.length cp 7 (by have := HPL.out; omega) k1 k2
                    clear ho6 hb6 k3
                    go_wp2_with fail
                    refine hK.out _ _ H6 (fun _ => ?_)
                    clear hK K hS
                    refine wpAnyH_other (S' := fun w' => Hid (Below W6.heap.size W6 w')) (fun w hw => Lib.hid (H6.out.trans (hw.out.mono H6.out.size))) _ _ _ _ ?_
                    have hS : Hid (Below W6.heap.size W6 W6) := Lib.hid (Below.refl _ _)
                    try simp only [Act.put, List.getElem_toArray, List.getElem_cons_succ, List.getElem_cons_zero, List.setIfInBounds_toArray, List.set_cons_zero, List.set_cons_succ]
                    refine wpAnyH_take (i := 9) (v := ?_) rfl (by kernel_rfl) (by kernel_rfl) (by kernel_rfl) (fun _ _ _ h => h) (Or.inl ⟨by rfl, ?_⟩) hS ?_
                    rotate_left
                    · intro w hw
                      go_simp
                      try with_reducible rfl
                    try simp only [Act.put, List.getElem_toArray, List.getElem_cons_succ, List.getElem_cons_zero, List.setIfInBounds_toArray, List.set_cons_zero, List.set_cons_succ]
                    refine wpAnyH_take (i := 10) (v := ?_) rfl (by kernel_rfl) (by kernel_rfl) (by kernel_rfl) (fun _ _ _ h => h) (Or.inl ⟨by rfl, ?_⟩) hS ?_
                    rotate_left
                    · intro w hw
                      have hc := run_str7 (c := cp) ((L6.out.below hw.out).front (by rw [List.map_take]; exact List.take_prefix _ _)) hPt
                      go_simp
                      try with_reducible rfl
                    try simp only [Act.put, List.getElem_toArray, List.getElem_cons_succ, List.getElem_cons_zero, List.setIfInBounds_toArray, List.set_cons_zero, List.set_cons_succ]
                    refine wpAnyH_take (i := 11) (v := ?_) rfl (by kernel_rfl) (by kernel_rfl) (by kernel_rfl) (fun _ _ _ h => h) (Or.inl ⟨by rfl, ?_⟩) hS ?_
                    rotate_left
                    · intro w hw
                      have hc := HQ8.out
                      go_simp
                      try with_reducible rfl
                    try simp only [Act.put, List.getElem_toArray, List.getElem_cons_succ, List.getElem_cons_zero, List.setIfInBounds_toArray, List.set_cons_zero, List.set_cons_succ]
                    refine wpAnyH_take (i := 12) (v := ?_) rfl (by kernel_rfl) (by kernel_rfl) (by kernel_rfl) (fun _ _ _ h => h) (Or.inl ⟨by rfl, ?_⟩) hS ?_
                    rotate_left
                    · intro w hw
                      go_simp
                      try with_reducible rfl
                    try simp only [Act.put, List.getElem_toArray, List.getElem_cons_succ, List.getElem_cons_zero, List.setIfInBounds_toArray, List.set_cons_zero, List.set_cons_succ]
                    refine wpAnyH_take (i := 13) (v := ?_) rfl (by kernel_rfl) (by kernel_rfl) (by kernel_rfl) (fun _ _ _ h => h) (Or.inl ⟨by rfl, ?_⟩) hS ?_
                    rotate_left
                    · intro w hw
                      go_simp
                      try with_reducible rfl
                    try simp only [Act.put, List.getElem_toArray, List.getElem_cons_succ, List.getElem_cons_zero, List.setIfInBounds_toArray, List.set_cons_zero, List.set_cons_succ]
                    refine wpAnyH_take (i := 14) (v := ?_) rfl (by kernel_rfl) (by kernel_rfl) (by kernel_rfl) (fun _ _ _ h => h) (Or.inl ⟨by rfl, ?_⟩) hS ?_
                    rotate_left
                    · intro w hw
                      go_simp
                      try with_reducible rfl
                    try simp only [Act.put, List.getElem_toArray, List.getElem_cons_succ, List.getElem_cons_zero, List.setIfInBounds_toArray, List.set_cons_zero, List.set_cons_succ]
                    refine wpAnyH_take (i := 15) (v := ?_) rfl (by kernel_rfl) (by kernel_rfl) (by kernel_rfl) (fun _ _ _ h => h) (Or.inl ⟨by rfl, ?_⟩) hS ?_
                    rotate_left
                    · intro w hw
                      go_simp
                      try with_reducible rfl
                    try simp only [Act.put, List.getElem_toArray, List.getElem_cons_succ, List.getElem_cons_zero, List.setIfInBounds_toArray, List.set_cons_zero, List.set_cons_succ]
                    refine wpAnyH_take (i := 16) (v := ?_) rfl (by kernel_rfl) (by kernel_rfl) (by kernel_rfl) (fun _ _ _ h => h) (Or.inl ⟨by rfl, ?_⟩) hS ?_
                    rotate_left
                    · intro w hw
                      go_simp
                      try with_reducible rfl
                    try simp only [Act.put, List.getElem_toArray, List.getElem_cons_succ, List.getElem_cons_zero, List.setIfInBounds_toArray, List.set_cons_zero, List.set_cons_succ]
                    refine wpAnyH_take (i := 17) (v := ?_) rfl (by kernel_rfl) (by kernel_rfl) (by kernel_rfl) (fun _ _ _ h => h) (Or.inl ⟨by rfl, ?_⟩) hS ?_
                    rotate_left
                    · intro w hw
                      go_simp
                      try with_reducible rfl
                    try simp only [Act.put, List.getElem_toArray, List.getElem_cons_succ, List.getElem_cons_zero, List.setIfInBounds_toArray, List.set_cons_zero, List.set_cons_succ]
                    refine wpAnyH_take (i := 18) (v := ?_) rfl (by kernel_rfl) (by kernel_rfl) (by kernel_rfl) (fun _ _ _ h => h) (Or.inl ⟨by rfl, ?_⟩) hS ?_
                    rotate_left
                    · intro w hw
                      go_simp
                      try with_reducible rfl
                    try simp only [Act.put, List.getElem_toArray, List.getElem_cons_succ, List.getElem_cons_zero, List.setIfInBounds_toArray, List.set_cons_zero, List.set_cons_succ]
                    refine wpAnyH_take (i := 19) (v := ?_) rfl (by kernel_rfl) (by kernel_rfl) (by kernel_rfl) (fun _ _ _ h => h) (Or.inl ⟨by rfl, ?_⟩) hS ?_
                    rotate_left
                    · intro w hw
                      go_simp
                      try with_reducible rfl
                    try simp only [Act.put, List.getElem_toArray, List.getElem_cons_succ, List.getElem_cons_zero, List.setIfInBounds_toArray, List.set_cons_zero, List.set_cons_succ]
                    refine wpAnyH_take (i := 20) (v := ?_) rfl (by kernel_rfl) (by kernel_rfl) (by kernel_rfl) (fun _ _ _ h => h) (Or.inl ⟨by rfl, ?_⟩) hS ?_
                    rotate_left
                    · intro w hw
                      go_simp
                      try with_reducible rfl
                    try simp only [Act.put, List.getElem_toArray, List.getElem_cons_succ, List.getElem_cons_zero, List.setIfInBounds_toArray, List.set_cons_zero, List.set_cons_succ]
                    refine wpAnyH_take (i := 21) (v := undef) rfl (by kernel_rfl) (by kernel_rfl) (by kernel_rfl) (fun _ _ _ h => h) (Or.inr ⟨by rfl, rfl⟩) hS ?_
                    try simp only [Act.put, List.getElem_toArray, List.getElem_cons_succ, List.getElem_cons_zero, List.setIfInBounds_toArray, List.set_cons_zero, List.set_cons_succ]
                    refine wpAnyH_take (i := 22) (v := undef) rfl (by kernel_rfl) (by kernel_rfl) (by kernel_rfl) (fun _ _ _ h => h) (Or.inr ⟨by rfl, rfl⟩) hS ?_
                    try simp only [Act.put, List.getElem_toArray, List.getElem_cons_succ, List.getElem_cons_zero, List.setIfInBounds_toArray, List.set_cons_zero, List.set_cons_succ]
                    refine wpAnyH_take (i := 23) (v := undef) rfl (by kernel_rfl) (by kernel_rfl) (by kernel_rfl) (fun _ _ _ h => h) (Or.inr ⟨by rfl, rfl⟩) hS ?_
                    try simp only [Act.put, List.getElem_toArray, List.getElem_cons_succ, List.getElem_cons_zero, List.setIfInBounds_toArray, List.set_cons_zero, List.set_cons_succ]
                    refine wpAnyH_take (i := 24) (v := undef) rfl (by kernel_rfl) (by kernel_rfl) (by kernel_rfl) (fun _ _ _ h => h) (Or.inr ⟨by rfl, rfl⟩) hS ?_
                    try simp only [Act.put, List.getElem_toArray, List.getElem_cons_succ, List.getElem_cons_zero, List.setIfInBounds_toArray, List.set_cons_zero, List.set_cons_succ]
                    refine wpAnyH_take (i := 25) (v := ?_) rfl (by kernel_rfl) (by kernel_rfl) (by kernel_rfl) (fun _ _ _ h => h) (Or.inl ⟨by rfl, ?_⟩) hS ?_
                    rotate_left
                    · intro w hw
                      go_simp
                      try with_reducible rfl
                    try simp only [Act.put, List.getElem_toArray, List.getElem_cons_succ, List.getElem_cons_zero, List.setIfInBounds_toArray, List.set_cons_zero, List.set_cons_succ]
                    refine wpAnyH_done (by kernel_rfl) ?_ _
                    go_wp2_with fail
                    go_returns
                    obtain ⟨Ar, cr, rfl, hs⟩ := (HA.out.fresh H6.out).seqs
                    exact ⟨Ar, cr, L, n, 2, rfl, hs, by simpa using HRd.out _ (Rd.stop E.out), HB.out.trans (H6.out.mono HB.out.size)⟩
                  · have E := Lib.hid (G5.out (by omega) (by omega) (by omega) (HGD.out.2 ⟨HSE.out, by omega, by omega⟩))
                    have d5 : decide (4 < (kk : Int)) = false := by simp; omega
                    refine wp_region_held_drew (S := fun w' => Hid (Below wr.heap.size wr w')) (by kernel_rfl) (Lib.hid (Below.refl _ _).drew) (fun hS => ?_)
                    refine wpAnyH_take (i := 0) (v := ?_) rfl (by kernel_rfl) (by kernel_rfl) (by kernel_rfl) (fun _ _ _ h => h) (Or.inl ⟨by rfl, ?_⟩) hS ?_
                    rotate_left
                    · intro w hw
                      go_simp
                      try with_reducible rfl
                    try simp only [Act.put, List.getElem_toArray, List.getElem_cons_succ, List.getElem_cons_zero, List.setIfInBounds_toArray, List.set_cons_zero, List.set_cons_succ]
                    refine wpAnyH_take (i := 1) (v := ?_) rfl (by kernel_rfl) (by kernel_rfl) (by kernel_rfl) (fun _ _ _ h => h) (Or.inl ⟨by rfl, ?_⟩) hS ?_
                    rotate_left
                    · intro w hw
                      go_simp
                      try with_reducible rfl
                    try simp only [Act.put, List.getElem_toArray, List.getElem_cons_succ, List.getElem_cons_zero, List.setIfInBounds_toArray, List.set_cons_zero, List.set_cons_succ]
                    refine wpAnyH_take (i := 2) (v := ?_) rfl (by kernel_rfl) (by kernel_rfl) (by kernel_rfl) (fun _ _ _ h => h) (Or.inl ⟨by rfl, ?_⟩) hS ?_
                    rotate_left
                    · intro w hw
                      go_simp
                      try with_reducible rfl
                    try simp only [Act.put, List.getElem_toArray, List.getElem_cons_succ, List.getElem_cons_zero, List.setIfInBounds_toArray, List.set_cons_zero, List.set_cons_succ]
                    refine wpAnyH_take (i := 3) (v := ?_) rfl (by kernel_rfl) (by kernel_rfl) (by kernel_rfl) (fun _ _ _ h => h) (Or.inl ⟨by rfl, ?_⟩) hS ?_
                    rotate_left
                    · intro w hw
                      go_simp
                      try with_reducible rfl
                    try simp only [Act.put, List.getElem_toArray, List.getElem_cons_succ, List.getElem_cons_zero, List.setIfInBounds_toArray, List.set_cons_zero, List.set_cons_succ]
                    refine wpAnyH_take (i := 4) (v := ?_) rfl (by kernel_rfl) (by kernel_rfl) (by kernel_rfl) (fun _ _ _ h => h) (Or.inl ⟨by rfl, ?_⟩) hS ?_
                    rotate_left
                    · intro w hw
                      go_simp
                      try with_reducible rfl
                    try simp only [Act.put, List.getElem_toArray, List.getElem_cons_succ, List.getElem_cons_zero, List.setIfInBounds_toArray, List.set_cons_zero, List.set_cons_succ]
                    refine wpAnyH_take (i := 5) (v := ?_) rfl (by kernel_rfl) (by kernel_rfl) (by kernel_rfl) (fun _ _ _ h => h) (Or.inl ⟨by rfl, ?_⟩) hS ?_
                    rotate_left
                    · intro w hw
                      have hc := run_str7 (c := c - a1) (HLh.out.below (hw.out.mono HB.out.size)) l7
                      go_simp
                      try with_reducible rfl
                    try simp only [Act.put, List.getElem_toArray, List.getElem_cons_succ, List.getElem_cons_zero, List.setIfInBounds_toArray, List.set_cons_zero, List.set_cons_succ]
                    refine wpAnyH_take (i := 6) (v := ?_) rfl (by kernel_rfl) (by kernel_rfl) (by kernel_rfl) (fun _ _ _ h => h) (Or.inl ⟨by rfl, ?_⟩) hS ?_
                    rotate_left
                    · intro w hw
                      go_simp
                      try with_reducible rfl
                    try simp only [Act.put, List.getElem_toArray, List.getElem_cons_succ, List.getElem_cons_zero, List.setIfInBounds_toArray, List.set_cons_zero, List.set_cons_succ]
                    refine wpAnyH_take (i := 7) (v := ?_) rfl (by kernel_rfl) (by kernel_rfl) (by kernel_rfl) (fun _ _ _ h => h) (Or.inl ⟨by rfl, ?_⟩) hS ?_
                    rotate_left
                    · intro w hw
                      go_simp
                      try with_reducible rfl
                    try simp only [Act.put, List.getElem_toArray, List.getElem_cons_succ, List.getElem_cons_zero, List.setIfInBounds_toArray, List.set_cons_zero, List.set_cons_succ]
                    refine wpAnyH_ready (rs := [8]) (by kernel_rfl) (by simp) ?_
                    refine AllReadyH.cons rfl (fun K hK => ?_) AllReadyH.nil
                    go_simp
                    refine (HPC.out _ hS.out).mono ?_
                    rintro e W6 ⟨v6, rfl, ho6, hb6⟩
                    obtain ⟨Ap, cp, rfl, k1, k2, k3⟩ := own_parts ho6
                    have H6 := Lib.hid (hS.out.trans (hb6.mono hS.out.size))
                    have L6 := Lib.hid k3
                    have hcp7 : ∀ W : World, Sem.run Tryd.prog (Instr.slice 22 (.slice Ap P.length cp) none (some (.int .i64 7)) none) W = .ok (.slice Ap 7 cp) W := cut_to Ap P.length cp 7 (by have := HPL.out; omega) k1 k2
                    clear ho6 hb6 k3
                    go_wp2_with fail
                    refine hK.out _ _ H6 (fun _ => ?_)
                    clear hK K hS
                    refine wpAnyH_other (S' := fun w' => Hid (Below W6.heap.size W6 w')) (fun w hw => Lib.hid (H6.out.trans (hw.out.mono H6.out.size))) _ _ _ _ ?_
                    have hS : Hid (Below W6.heap.size W6 W6) := Lib.hid (Below.refl _ _)
                    try simp only [Act.put, List.getElem_toArray, List.getElem_cons_succ, List.getElem_cons_zero, List.setIfInBounds_toArray, List.set_cons_zero, List.set_cons_succ]
                    refine wpAnyH_take (i := 9) (v := ?_) rfl (by kernel_rfl) (by kernel_rfl) (by kernel_rfl) (fun _ _ _ h => h) (Or.inl ⟨by rfl, ?_⟩) hS ?_
                    rotate_left
                    · intro w hw
                      go_simp
                      try with_reducible rfl
                    try simp only [Act.put, List.getElem_toArray, List.getElem_cons_succ, List.getElem_cons_zero, List.setIfInBounds_toArray, List.set_cons_zero, List.set_cons_succ]
                    refine wpAnyH_take (i := 10) (v := ?_) rfl (by kernel_rfl) (by kernel_rfl) (by kernel_rfl) (fun _ _ _ h => h) (Or.inl ⟨by rfl, ?_⟩) hS ?_
                    rotate_left
                    · intro w hw
                      have hc := run_str7 (c := cp) ((L6.out.below hw.out).front (by rw [List.map_take]; exact List.take_prefix _ _)) hPt
                      go_simp
                      try with_reducible rfl
                    try simp only [Act.put, List.getElem_toArray, List.getElem_cons_succ, List.getElem_cons_zero, List.setIfInBounds_toArray, List.set_cons_zero, List.set_cons_succ]
                    refine wpAnyH_take (i := 11) (v := ?_) rfl (by kernel_rfl) (by kernel_rfl) (by kernel_rfl) (fun _ _ _ h => h) (Or.inl ⟨by rfl, ?_⟩) hS ?_
                    rotate_left
                    · intro w hw
                      have hc := HQ8.out
                      go_simp
                      try with_reducible rfl
                    try simp only [Act.put, List.getElem_toArray, List.getElem_cons_succ, List.getElem_cons_zero, List.setIfInBounds_toArray, List.set_cons_zero, List.set_cons_succ]
                    refine wpAnyH_take (i := 12) (v := ?_) rfl (by kernel_rfl) (by kernel_rfl) (by kernel_rfl) (fun _ _ _ h => h) (Or.inl ⟨by rfl, ?_⟩) hS ?_
                    rotate_left
                    · intro w hw
                      go_simp
                      try with_reducible rfl
                    try simp only [Act.put, List.getElem_toArray, List.getElem_cons_succ, List.getElem_cons_zero, List.setIfInBounds_toArray, List.set_cons_zero, List.set_cons_succ]
                    refine wpAnyH_take (i := 13) (v := ?_) rfl (by kernel_rfl) (by kernel_rfl) (by kernel_rfl) (fun _ _ _ h => h) (Or.inl ⟨by rfl, ?_⟩) hS ?_
                    rotate_left
                    · intro w hw
                      go_simp
                      try with_reducible rfl
                    try simp only [Act.put, List.getElem_toArray, List.getElem_cons_succ, List.getElem_cons_zero, List.setIfInBounds_toArray, List.set_cons_zero, List.set_cons_succ]
                    refine wpAnyH_take (i := 14) (v := ?_) rfl (by kernel_rfl) (by kernel_rfl) (by kernel_rfl) (fun _ _ _ h => h) (Or.inl ⟨by rfl, ?_⟩) hS ?_
                    rotate_left
                    · intro w hw
                      go_simp
                      try with_reducible rfl
                    try simp only [Act.put, List.getElem_toArray, List.getElem_cons_succ, List.getElem_cons_zero, List.setIfInBounds_toArray, List.set_cons_zero, List.set_cons_succ]
                    refine wpAnyH_take (i := 15) (v := ?_) rfl (by kernel_rfl) (by kernel_rfl) (by kernel_rfl) (fun _ _ _ h => h) (Or.inl ⟨by rfl, ?_⟩) hS ?_
                    rotate_left
                    · intro w hw
                      go_simp
                      try with_reducible rfl
                    try simp only [Act.put, List.getElem_toArray, List.getElem_cons_succ, List.getElem_cons_zero, List.setIfInBounds_toArray, List.set_cons_zero, List.set_cons_succ]
                    refine wpAnyH_take (i := 16) (v := ?_) rfl (by kernel_rfl) (by kernel_rfl) (by kernel_rfl) (fun _ _ _ h => h) (Or.inl ⟨by rfl, ?_⟩) hS ?_
                    rotate_left
                    · intro w hw
                      go_simp
                      try with_reducible rfl
                    try simp only [Act.put, List.getElem_toArray, List.getElem_cons_succ, List.getElem_cons_zero, List.setIfInBounds_toArray, List.set_cons_zero, List.set_cons_succ]
                    refine wpAnyH_take (i := 17) (v := ?_) rfl (by kernel_rfl) (by kernel_rfl) (by kernel_rfl) (fun _ _ _ h => h) (Or.inl ⟨by rfl, ?_⟩) hS ?_
                    rotate_left
                    · intro w hw
                      go_simp
                      try with_reducible rfl
                    try simp only [Act.put, List.getElem_toArray, List.getElem_cons_succ, List.getElem_cons_zero, List.setIfInBounds_toArray, List.set_cons_zero, List.set_cons_succ]
                    refine wpAnyH_take (i := 18) (v := ?_) rfl (by kernel_rfl) (by kernel_rfl) (by kernel_rfl) (fun _ _ _ h => h) (Or.inl ⟨by rfl, ?_⟩) hS ?_
                    rotate_left
                    · intro w hw
                      go_simp
                      try with_reducible rfl
                    try simp only [Act.put, List.getElem_toArray, List.getElem_cons_succ, List.getElem_cons_zero, List.setIfInBounds_toArray, List.set_cons_zero, List.set_cons_succ]
                    refine wpAnyH_take (i := 19) (v := ?_) rfl (by kernel_rfl) (by kernel_rfl) (by kernel_rfl) (fun _ _ _ h => h) (Or.inl ⟨by rfl, ?_⟩) hS ?_
                    rotate_left
                    · intro w hw
                      go_simp
                      try with_reducible rfl
                    try simp only [Act.put, List.getElem_toArray, List.getElem_cons_succ, List.getElem_cons_zero, List.setIfInBounds_toArray, List.set_cons_zero, List.set_cons_succ]
                    refine wpAnyH_take (i := 20) (v := ?_) rfl (by kernel_rfl) (by kernel_rfl) (by kernel_rfl) (fun _ _ _ h => h) (Or.inl ⟨by rfl, ?_⟩) hS ?_
                    rotate_left
                    · intro w hw
                      go_simp
                      try with_reducible rfl
                    try simp only [Act.put, List.getElem_toArray, List.getElem_cons_succ, List.getElem_cons_zero, List.setIfInBounds_toArray, List.set_cons_zero, List.set_cons_succ]
                    refine wpAnyH_take (i := 21) (v := ?_) rfl (by kernel_rfl) (by kernel_rfl) (by kernel_rfl) (fun _ _ _ h => h) (Or.inl ⟨by rfl, ?_⟩) hS ?_
                    rotate_left
                    · intro w hw
                      go_simp
                      try with_reducible rfl
                    try simp only [Act.put, List.getElem_toArray, List.getElem_cons_succ, List.getElem_cons_zero, List.setIfInBounds_toArray, List.set_cons_zero, List.set_cons_succ]
                    refine wpAnyH_take (i := 22) (v := ?_) rfl (by kernel_rfl) (by kernel_rfl) (by kernel_rfl) (fun _ _ _ h => h) (Or.inl ⟨by rfl, ?_⟩) hS ?_
                    rotate_left
                    · intro w hw
                      go_simp
                      try with_reducible rfl
                    try simp only [Act.put, List.getElem_toArray, List.getElem_cons_succ, List.getElem_cons_zero, List.setIfInBounds_toArray, List.set_cons_zero, List.set_cons_succ]
                    refine wpAnyH_take (i := 23) (v := ?_) rfl (by kernel_rfl) (by kernel_rfl) (by kernel_rfl) (fun _ _ _ h => h) (Or.inl ⟨by rfl, ?_⟩) hS ?_
                    rotate_left
                    · intro w hw
                      go_simp
                      try with_reducible rfl
                    try simp only [Act.put, List.getElem_toArray, List.getElem_cons_succ, List.getElem_cons_zero, List.setIfInBounds_toArray, List.set_cons_zero, List.set_cons_succ]
                    refine wpAnyH_take (i := 24) (v := ?_) rfl (by kernel_rfl) (by kernel_rfl) (by kernel_rfl) (fun _ _ _ h => h) (Or.inl ⟨by rfl, ?_⟩) hS ?_
                    rotate_left
                    · intro w hw
                      go_simp
                      try with_reducible rfl
                    try simp only [Act.put, List.getElem_toArray, List.getElem_cons_succ, List.getElem_cons_zero, List.setIfInBounds_toArray, List.set_cons_zero, List.set_cons_succ]
                    refine wpAnyH_take (i := 25) (v := ?_) rfl (by kernel_rfl) (by kernel_rfl) (by kernel_rfl) (fun _ _ _ h => h) (Or.inl ⟨by rfl, ?_⟩) hS ?_
                    rotate_left
                    · intro w hw
                      go_simp
                      try with_reducible rfl
                    try simp only [Act.put, List.getElem_toArray, List.getElem_cons_succ, List.getElem_cons_zero, List.setIfInBounds_toArray, List.set_cons_zero, List.set_cons_succ]
                    refine wpAnyH_done (by kernel_rfl) ?_ _
                    have HLd6 := Lib.hid (HLd.out.later fun p hp => H6.out.cell (Nat.lt_of_lt_of_le hp HB.out.size))
                    have hkk4 : kk = 1 ∨ kk = 2 ∨ kk = 3 ∨ kk = 4 := by omega
                    clear hS HPC HQ7 hcp7 L6 HLh HP8 HPL d4 d5 d1 d2
                    rcases hkk4 with rfl | rfl | rfl | rfl <;> cases f
                    · obtain ⟨v8, W8, hr8, ho8, on8⟩ := append_bytes (c := c - (a1 + 7)) (own_later HO.out H6.out) HLd6.out (by have := HLD.out; omega) (Nat.le_trans HB.out.size H6.out.size)
                      rw [HLD.out] at hr8
                      have hb8 := on8.below (own_later HO.out H6.out) (Nat.le_trans HB.out.size H6.out.size)
                      have HR8 := Lib.hid hr8
                      have hnl : (nw ++ d).length ≤ a1 + (7 + m) := by have := HLD.out; rw [List.length_append]; omega
                      have hn8 : ∀ x, x ∈ nw ++ d → x < 256 := fun x hx => (List.mem_append.1 hx).elim (HN8.out x) (HD8.out x)
                      have HRF : Hid (∀ R, Rd b (a1 + (7 + m)) false [] (a1 + (7 + m)) (L.map (·.bs) ++ [nw ++ d]) R → Rd b 0 false [] 0 [] R) := Lib.hid (fun R hR => HRd.out R (.full E.out rfl (by decide) hR))
                      generalize nw ++ d = nd at *
                      obtain ⟨A8, c8, rfl, y1, y2, y3⟩ := own_parts ho8
                      obtain ⟨A9, c9, W9, hr9, ho9, hb9⟩ := fresh_bytes A8 c8 W8.heap.size nd W8 y3 (by omega)
                      obtain ⟨A9', c9', e9, z1, z2, z3⟩ := own_parts ho9
                      injection e9 with e91 e92 e93
                      subst e91 e93
                      have HA9 := (((HA.out.fresh H6.out).grew on8 (own_later HO.out H6.out)).other (vn' := .slice A9 nd.length c9) fun k hk => (ho9.lt k hk).1).fresh hb9
                      have hz8 : w.heap.size ≤ W8.heap.size := Nat.le_trans (Nat.le_trans HB.out.size H6.out.size) on8.keep.size
                      obtain ⟨vo, Wo, hro, HAo, ono⟩ := Acc.more HA9 (own_lower ho9 hz8) (fun j hj => by cases hj) z1 z2 hn8 (Nat.le_trans hz8 hb9.size) (by omega)
                      have hbo := ono.below HA9.own (Nat.le_trans hz8 hb9.size)
                      have HRo := Lib.hid hro
                      have HR9 := Lib.hid hr9
                      have HBo := Lib.hid ((((HB.out.trans (H6.out.mono HB.out.size)).trans hb8).trans (hb9.mono hz8)).trans hbo)
                      have HAO := Lib.hid HAo
                      clear hr8 ho8 on8 hb8 hr9 ho9 hb9 HA9 hro HAo ono hbo y3 z3
                      go_wp2_with (at_builtin; first | refine wpList_append_run rfl _ _ 22 rfl rfl rfl HR8.out ?_ | refine wpList_append_run rfl _ _ 22 rfl rfl rfl HR9.out ?_ | refine wpList_append_run rfl _ _ 26 rfl rfl rfl HRo.out ?_)
                      go_roundw
                      case rel => exact ⟨L ++ [⟨A9, c9, nd⟩], a1 + (7 + m), a1 + (7 + m), [], false, by go_num, by go_num, rfl, by omega, by simp; omega, by simp, Lib.hid (World.ownsRow_nil _ _ _ _), HAO, Lib.hid (by simp), Lib.hid (fun R hR => HRF.out R (by simpa using hR)), HBo⟩
                      case measure => simp [intOf]; omega
                    · go_wp2_with fail
                      go_returns
                      obtain ⟨Ar, cr, rfl, hs⟩ := (HA.out.fresh H6.out).seqs
                      exact ⟨Ar, cr, L, n, 2, rfl, hs, HRd.out _ (Rd.bad E.out rfl), HB.out.trans (H6.out.mono HB.out.size)⟩
                    · obtain ⟨v8, W8, hr8, ho8, on8⟩ := append_bytes (c := c - (a1 + 7)) (own_later HO.out H6.out) HLd6.out (by have := HLD.out; omega) (Nat.le_trans HB.out.size H6.out.size)
                      rw [HLD.out] at hr8
                      have hb8 := on8.below (own_later HO.out H6.out) (Nat.le_trans HB.out.size H6.out.size)
                      have HR8 := Lib.hid hr8
                      have HO8 := Lib.hid ho8
                      have HB8 := Lib.hid ((HB.out.trans (H6.out.mono HB.out.size)).trans hb8)
                      have HA8 := Lib.hid ((HA.out.fresh H6.out).grew on8 (own_later HO.out H6.out))
                      clear hr8 ho8 on8 hb8
                      go_wp2_with (at_builtin; refine wpList_append_run rfl _ _ 22 rfl rfl rfl HR8.out ?_)
                      go_roundw
                      case rel => exact ⟨L, n, a1 + (7 + m), nw ++ d, true, rfl, by go_num, rfl, by omega, by omega, by have := HLD.out; rw [List.length_append]; omega, HO8, HA8, Lib.hid (fun x hx => (List.mem_append.1 hx).elim (HN8.out x) (HD8.out x)), Lib.hid (fun R hR => HRd.out R (.more E.out rfl (by decide) hR)), HB8⟩
                      case measure => simp [intOf]; omega
                    · go_wp2_with fail
                      go_returns
                      obtain ⟨Ar, cr, rfl, hs⟩ := (HA.out.fresh H6.out).seqs
                      exact ⟨Ar, cr, L, n, 2, rfl, hs, HRd.out _ (Rd.bad E.out rfl), HB.out.trans (H6.out.mono HB.out.size)⟩
                    · go_wp2_with fail
                      go_returns
                      obtain ⟨Ar, cr, rfl, hs⟩ := (HA.out.fresh H6.out).seqs
                      exact ⟨Ar, cr, L, n, 2, rfl, hs, HRd.out _ (Rd.bad E.out rfl), HB.out.trans (H6.out.mono HB.out.size)⟩
                    · obtain ⟨v8, W8, hr8, ho8, on8⟩ := append_bytes (c := c - (a1 + 7)) (own_later HO.out H6.out) HLd6.out (by have := HLD.out; omega) (Nat.le_trans HB.out.size H6.out.size)
                      rw [HLD.out] at hr8
                      have hb8 := on8.below (own_later HO.out H6.out) (Nat.le_trans HB.out.size H6.out.size)
                      have HR8 := Lib.hid hr8
                      have HO8 := Lib.hid ho8
                      have HB8 := Lib.hid ((HB.out.trans (H6.out.mono HB.out.size)).trans hb8)
                      have HA8 := Lib.hid ((HA.out.fresh H6.out).grew on8 (own_later HO.out H6.out))
                      clear hr8 ho8 on8 hb8
                      go_wp2_with (at_builtin; refine wpList_append_run rfl _ _ 22 rfl rfl rfl HR8.out ?_)
                      go_roundw
                      case rel => exact ⟨L, n, a1 + (7 + m), nw ++ d, true, rfl, by go_num, rfl, by omega, by omega, by have := HLD.out; rw [List.length_append]; omega, HO8, HA8, Lib.hid (fun x hx => (List.mem_append.1 hx).elim (HN8.out x) (HD8.out x)), Lib.hid (fun R hR => HRd.out R (.more E.out rfl (by decide) hR)), HB8⟩
                      case measure => simp [intOf]; omega
                    · go_wp2_with fail
                      go_returns
                      obtain ⟨Ar, cr, rfl, hs⟩ := (HA.out.fresh H6.out).seqs
                      exact ⟨Ar, cr, L, n, 2, rfl, hs, HRd.out _ (Rd.bad E.out rfl), HB.out.trans (H6.out.mono HB.out.size)⟩
                    · obtain ⟨v8, W8, hr8, ho8, on8⟩ := append_bytes (c := c - (a1 + 7)) (own_later HO.out H6.out) HLd6.out (by have := HLD.out; omega) (Nat.le_trans HB.out.size H6.out.size)
                      rw [HLD.out] at hr8
                      have hb8 := on8.below (own_later HO.out H6.out) (Nat.le_trans HB.out.size H6.out.size)
                      have HR8 := Lib.hid hr8
                      have hnl : (nw ++ d).length ≤ a1 + (7 + m) := by have := HLD.out; rw [List.length_append]; omega
                      have hn8 : ∀ x, x ∈ nw ++ d → x < 256 := fun x hx => (List.mem_append.1 hx).elim (HN8.out x) (HD8.out x)
                      have HRF : Hid (∀ R, Rd b (a1 + (7 + m)) false [] (a1 + (7 + m)) (L.map (·.bs) ++ [nw ++ d]) R → Rd b 0 false [] 0 [] R) := Lib.hid (fun R hR => HRd.out R (.full E.out rfl (by decide) hR))
                      generalize nw ++ d = nd at *
                      obtain ⟨A8, c8, rfl, y1, y2, y3⟩ := own_parts ho8
                      obtain ⟨A9, c9, W9, hr9, ho9, hb9⟩ := fresh_bytes A8 c8 W8.heap.size nd W8 y3 (by omega)
                      obtain ⟨A9', c9', e9, z1, z2, z3⟩ := own_parts ho9
                      injection e9 with e91 e92 e93
                      subst e91 e93
                      have HA9 := (((HA.out.fresh H6.out).grew on8 (own_later HO.out H6.out)).other (vn' := .slice A9 nd.length c9) fun k hk => (ho9.lt k hk).1).fresh hb9
                      have hz8 : w.heap.size ≤ W8.heap.size := Nat.le_trans (Nat.le_trans HB.out.size H6.out.size) on8.keep.size
                      obtain ⟨vo, Wo, hro, HAo, ono⟩ := Acc.more HA9 (own_lower ho9 hz8) (fun j hj => by cases hj) z1 z2 hn8 (Nat.le_trans hz8 hb9.size) (by omega)
                      have hbo := ono.below HA9.own (Nat.le_trans hz8 hb9.size)
                      have HRo := Lib.hid hro
                      have HR9 := Lib.hid hr9
                      have HBo := Lib.hid ((((HB.out.trans (H6.out.mono HB.out.size)).trans hb8).trans (hb9.mono hz8)).trans hbo)
                      have HAO := Lib.hid HAo
                      clear hr8 ho8 on8 hb8 hr9 ho9 hb9 HA9 hro HAo ono hbo y3 z3
                      go_wp2_with (at_builtin; first | refine wpList_append_run rfl _ _ 22 rfl rfl rfl HR8.out ?_ | refine wpList_append_run rfl _ _ 22 rfl rfl rfl HR9.out ?_ | refine wpList_append_run rfl _ _ 26 rfl rfl rfl HRo.out ?_)
                      go_roundw
                      case rel => exact ⟨L ++ [⟨A9, c9, nd⟩], a1 + (7 + m), a1 + (7 + m), [], false, by go_num, by go_num, rfl, by omega, by simp; omega, by simp, Lib.hid (World.ownsRow_nil _ _ _ _), HAO, Lib.hid (by simp), Lib.hid (fun R hR => HRF.out R (by simpa using hR)), HBo⟩
                      case measure => simp [intOf]; omega
              · have HQ7 : ∀ W : World, Sem.run Tryd.prog (binOp .neq 9 (.string (str (r.take 7))) (.string (str (P.take 7)))) W = .ok (.bool true) W := fun W => by rw [HQ.out W, decide_eq_true hs]
                have HQ8 := Lib.hid (show ((str (r.take 7)).toList == (str (P.take 7)).toList) = false from by rw [str_eq H78.out (fun x hx => HP8.out x (List.mem_of_mem_take hx)), decide_eq_false hs])
                have E := Lib.hid (G4.out (by omega) (by omega) (by omega) fun hg => hs (HST.out.2 (HGD.out.1 hg).1))
                clear hs HQ
                refine wp_region_held_drew (S := fun w' => Hid (Below wr.heap.size wr w')) (by kernel_rfl) (Lib.hid (Below.refl _ _).drew) (fun hS => ?_)
                refine wpAnyH_take (i := 0) (v := ?_) rfl (by kernel_rfl) (by kernel_rfl) (by kernel_rfl) (fun _ _ _ h => h) (Or.inl ⟨by rfl, ?_⟩) hS ?_
                rotate_left
                · intro w hw
                  go_simp
                  try with_reducible rfl
                try simp only [Act.put, List.getElem_toArray, List.getElem_cons_succ, List.getElem_cons_zero, List.setIfInBounds_toArray, List.set_cons_zero, List.set_cons_succ]
                refine wpAnyH_take (i := 1) (v := ?_) rfl (by kernel_rfl) (by kernel_rfl) (by kernel_rfl) (fun _ _ _ h => h) (Or.inl ⟨by rfl, ?_⟩) hS ?_
                rotate_left
                · intro w hw
                  go_simp
                  try with_reducible rfl
                try simp only [Act.put, List.getElem_toArray, List.getElem_cons_succ, List.getElem_cons_zero, List.setIfInBounds_toArray, List.set_cons_zero, List.set_cons_succ]
                refine wpAnyH_take (i := 2) (v := ?_) rfl (by kernel_rfl) (by kernel_rfl) (by kernel_rfl) (fun _ _ _ h => h) (Or.inl ⟨by rfl, ?_⟩) hS ?_
                rotate_left
                · intro w hw
                  go_simp
                  try with_reducible rfl
                try simp only [Act.put, List.getElem_toArray, List.getElem_cons_succ, List.getElem_cons_zero, List.setIfInBounds_toArray, List.set_cons_zero, List.set_cons_succ]
                refine wpAnyH_take (i := 3) (v := ?_) rfl (by kernel_rfl) (by kernel_rfl) (by kernel_rfl) (fun _ _ _ h => h) (Or.inl ⟨by rfl, ?_⟩) hS ?_
                rotate_left
                · intro w hw
                  go_simp
                  try with_reducible rfl
                try simp only [Act.put, List.getElem_toArray, List.getElem_cons_succ, List.getElem_cons_zero, List.setIfInBounds_toArray, List.set_cons_zero, List.set_cons_succ]
                refine wpAnyH_take (i := 4) (v := ?_) rfl (by kernel_rfl) (by kernel_rfl) (by kernel_rfl) (fun _ _ _ h => h) (Or.inl ⟨by rfl, ?_⟩) hS ?_
                rotate_left
                · intro w hw
                  go_simp
                  try with_reducible rfl
                try simp only [Act.put, List.getElem_toArray, List.getElem_cons_succ, List.getElem_cons_zero, List.setIfInBounds_toArray, List.set_cons_zero, List.set_cons_succ]
                refine wpAnyH_take (i := 5) (v := ?_) rfl (by kernel_rfl) (by kernel_rfl) (by kernel_rfl) (fun _ _ _ h => h) (Or.inl ⟨by rfl, ?_⟩) hS ?_
                rotate_left
                · intro w hw
                  have hc := run_str7 (c := c - a1) (HLh.out.below (hw.out.mono HB.out.size)) l7
                  go_simp
                  try with_reducible rfl
                try simp only [Act.put, List.getElem_toArray, List.getElem_cons_succ, List.getElem_cons_zero, List.setIfInBounds_toArray, List.set_cons_zero, List.set_cons_succ]
                refine wpAnyH_take (i := 6) (v := ?_) rfl (by kernel_rfl) (by kernel_rfl) (by kernel_rfl) (fun _ _ _ h => h) (Or.inl ⟨by rfl, ?_⟩) hS ?_
                rotate_left
                · intro w hw
                  go_simp
                  try with_reducible rfl
                try simp only [Act.put, List.getElem_toArray, List.getElem_cons_succ, List.getElem_cons_zero, List.setIfInBounds_toArray, List.set_cons_zero, List.set_cons_succ]
                refine wpAnyH_take (i := 7) (v := ?_) rfl (by kernel_rfl) (by kernel_rfl) (by kernel_rfl) (fun _ _ _ h => h) (Or.inl ⟨by rfl, ?_⟩) hS ?_
                rotate_left
                · intro w hw
                  go_simp
                  try with_reducible rfl
                try simp only [Act.put, List.getElem_toArray, List.getElem_cons_succ, List.getElem_cons_zero, List.setIfInBounds_toArray, List.set_cons_zero, List.set_cons_succ]
                refine wpAnyH_ready (rs := [8]) (by kernel_rfl) (by simp) ?_
                refine AllReadyH.cons rfl (fun K hK => ?_) AllReadyH.nil
                go_simp
                refine (HPC.out _ hS.out).mono ?_
                rintro e W6 ⟨v6, rfl, ho6, hb6⟩
                obtain ⟨Ap, cp, rfl, k1, k2, k3⟩ := own_parts ho6
                have H6 := Lib.hid (hS.out.trans (hb6.mono hS.out.size))
                have L6 := Lib.hid k3
                have hcp7 : ∀ W : World, Sem.run Tryd.prog (Instr.slice 22 (.slice Ap P.length cp) none (some (.int .i64 7)) none) W = .ok (.slice Ap 7 cp) W := cut_to Ap P.length cp 7 (by have := HPL.out; omega) k1 k2
                clear ho6 hb6 k3
                go_wp2_with fail
                refine hK.out _ _ H6 (fun _ => ?_)
                clear hK K hS
                refine wpAnyH_other (S' := fun w' => Hid (Below W6.heap.size W6 w')) (fun w hw => Lib.hid (H6.out.trans (hw.out.mono H6.out.size))) _ _ _ _ ?_
                have hS : Hid (Below W6.heap.size W6 W6) := Lib.hid (Below.refl _ _)
                try simp only [Act.put, List.getElem_toArray, List.getElem_cons_succ, List.getElem_cons_zero, List.setIfInBounds_toArray, List.set_cons_zero, List.set_cons_succ]
                refine wpAnyH_take (i := 9) (v := ?_) rfl (by kernel_rfl) (by kernel_rfl) (by kernel_rfl) (fun _ _ _ h => h) (Or.inl ⟨by rfl, ?_⟩) hS ?_
                rotate_left
                · intro w hw
                  go_simp
                  try with_reducible rfl
                try simp only [Act.put, List.getElem_toArray, List.getElem_cons_succ, List.getElem_cons_zero, List.setIfInBounds_toArray, List.set_cons_zero, List.set_cons_succ]
                refine wpAnyH_take (i := 10) (v := ?_) rfl (by kernel_rfl) (by kernel_rfl) (by kernel_rfl) (fun _ _ _ h => h) (Or.inl ⟨by rfl, ?_⟩) hS ?_
                rotate_left
                · intro w hw
                  have hc := run_str7 (c := cp) ((L6.out.below hw.out).front (by rw [List.map_take]; exact List.take_prefix _ _)) hPt
                  go_simp
                  try with_reducible rfl
                try simp only [Act.put, List.getElem_toArray, List.getElem_cons_succ, List.getElem_cons_zero, List.setIfInBounds_toArray, List.set_cons_zero, List.set_cons_succ]
                refine wpAnyH_take (i := 11) (v := ?_) rfl (by kernel_rfl) (by kernel_rfl) (by kernel_rfl) (fun _ _ _ h => h) (Or.inl ⟨by rfl, ?_⟩) hS ?_
                rotate_left
                · intro w hw
                  have hc := HQ8.out
                  go_simp
                  try with_reducible rfl
                try simp only [Act.put, List.getElem_toArray, List.getElem_cons_succ, List.getElem_cons_zero, List.setIfInBounds_toArray, List.set_cons_zero, List.set_cons_succ]
                refine wpAnyH_take (i := 12) (v := ?_) rfl (by kernel_rfl) (by kernel_rfl) (by kernel_rfl) (fun _ _ _ h => h) (Or.inl ⟨by rfl, ?_⟩) hS ?_
                rotate_left
                · intro w hw
                  go_simp
                  try with_reducible rfl
                try simp only [Act.put, List.getElem_toArray, List.getElem_cons_succ, List.getElem_cons_zero, List.setIfInBounds_toArray, List.set_cons_zero, List.set_cons_succ]
                refine wpAnyH_take (i := 13) (v := undef) rfl (by kernel_rfl) (by kernel_rfl) (by kernel_rfl) (fun _ _ _ h => h) (Or.inr ⟨by rfl, rfl⟩) hS ?_
                try simp only [Act.put, List.getElem_toArray, List.getElem_cons_succ, List.getElem_cons_zero, List.setIfInBounds_toArray, List.set_cons_zero, List.set_cons_succ]
                refine wpAnyH_take (i := 14) (v := undef) rfl (by kernel_rfl) (by kernel_rfl) (by kernel_rfl) (fun _ _ _ h => h) (Or.inr ⟨by rfl, rfl⟩) hS ?_
                try simp only [Act.put, List.getElem_toArray, List.getElem_cons_succ, List.getElem_cons_zero, List.setIfInBounds_toArray, List.set_cons_zero, List.set_cons_succ]
                refine wpAnyH_take (i := 15) (v := ?_) rfl (by kernel_rfl) (by kernel_rfl) (by kernel_rfl) (fun _ _ _ h => h) (Or.inl ⟨by rfl, ?_⟩) hS ?_
                rotate_left
                · intro w hw
                  go_simp
                  try with_reducible rfl
                try simp only [Act.put, List.getElem_toArray, List.getElem_cons_succ, List.getElem_cons_zero, List.setIfInBounds_toArray, List.set_cons_zero, List.set_cons_succ]
                refine wpAnyH_take (i := 16) (v := ?_) rfl (by kernel_rfl) (by kernel_rfl) (by kernel_rfl) (fun _ _ _ h => h) (Or.inl ⟨by rfl, ?_⟩) hS ?_
                rotate_left
                · intro w hw
                  go_simp
                  try with_reducible rfl
                try simp only [Act.put, List.getElem_toArray, List.getElem_cons_succ, List.getElem_cons_zero, List.setIfInBounds_toArray, List.set_cons_zero, List.set_cons_succ]
                refine wpAnyH_take (i := 17) (v := undef) rfl (by kernel_rfl) (by kernel_rfl) (by kernel_rfl) (fun _ _ _ h => h) (Or.inr ⟨by rfl, rfl⟩) hS ?_
                try simp only [Act.put, List.getElem_toArray, List.getElem_cons_succ, List.getElem_cons_zero, List.setIfInBounds_toArray, List.set_cons_zero, List.set_cons_succ]
                refine wpAnyH_take (i := 18) (v := undef) rfl (by kernel_rfl) (by kernel_rfl) (by kernel_rfl) (fun _ _ _ h => h) (Or.inr ⟨by rfl, rfl⟩) hS ?_
                try simp only [Act.put, List.getElem_toArray, List.getElem_cons_succ, List.getElem_cons_zero, List.setIfInBounds_toArray, List.set_cons_zero, List.set_cons_succ]
                refine wpAnyH_take (i := 19) (v := ?_) rfl (by kernel_rfl) (by kernel_rfl) (by kernel_rfl) (fun _ _ _ h => h) (Or.inl ⟨by rfl, ?_⟩) hS ?_
                rotate_left
                · intro w hw
                  go_simp
                  try with_reducible rfl
                try simp only [Act.put, List.getElem_toArray, List.getElem_cons_succ, List.getElem_cons_zero, List.setIfInBounds_toArray, List.set_cons_zero, List.set_cons_succ]
                refine wpAnyH_take (i := 20) (v := ?_) rfl (by kernel_rfl) (by kernel_rfl) (by kernel_rfl) (fun _ _ _ h => h) (Or.inl ⟨by rfl, ?_⟩) hS ?_
                rotate_left
                · intro w hw
                  go_simp
                  try with_reducible rfl
                try simp only [Act.put, List.getElem_toArray, List.getElem_cons_succ, List.getElem_cons_zero, List.setIfInBounds_toArray, List.set_cons_zero, List.set_cons_succ]
                refine wpAnyH_take (i := 21) (v := undef) rfl (by kernel_rfl) (by kernel_rfl) (by kernel_rfl) (fun _ _ _ h => h) (Or.inr ⟨by rfl, rfl⟩) hS ?_
                try simp only [Act.put, List.getElem_toArray, List.getElem_cons_succ, List.getElem_cons_zero, List.setIfInBounds_toArray, List.set_cons_zero, List.set_cons_succ]
                refine wpAnyH_take (i := 22) (v := undef) rfl (by kernel_rfl) (by kernel_rfl) (by kernel_rfl) (fun _ _ _ h => h) (Or.inr ⟨by rfl, rfl⟩) hS ?_
                try simp only [Act.put, List.getElem_toArray, List.getElem_cons_succ, List.getElem_cons_zero, List.setIfInBounds_toArray, List.set_cons_zero, List.set_cons_succ]
                refine wpAnyH_take (i := 23) (v := undef) rfl (by kernel_rfl) (by kernel_rfl) (by kernel_rfl) (fun _ _ _ h => h) (Or.inr ⟨by rfl, rfl⟩) hS ?_
                try simp only [Act.put, List.getElem_toArray, List.getElem_cons_succ, List.getElem_cons_zero, List.setIfInBounds_toArray, List.set_cons_zero, List.set_cons_succ]
                refine wpAnyH_take (i := 24) (v := undef) rfl (by kernel_rfl) (by kernel_rfl) (by kernel_rfl) (fun _ _ _ h => h) (Or.inr ⟨by rfl, rfl⟩) hS ?_
                try simp only [Act.put, List.getElem_toArray, List.getElem_cons_succ, List.getElem_cons_zero, List.setIfInBounds_toArray, List.set_cons_zero, List.set_cons_succ]
                refine wpAnyH_take (i := 25) (v := ?_) rfl (by kernel_rfl) (by kernel_rfl) (by kernel_rfl) (fun _ _ _ h => h) (Or.inl ⟨by rfl, ?_⟩) hS ?_
                rotate_left
                · intro w hw
                  go_simp
                  try with_reducible rfl
                try simp only [Act.put, List.getElem_toArray, List.getElem_cons_succ, List.getElem_cons_zero, List.setIfInBounds_toArray, List.set_cons_zero, List.set_cons_succ]
                refine wpAnyH_done (by kernel_rfl) ?_ _
                go_wp2_with fail
                go_returns
                obtain ⟨Ar, cr, rfl, hs⟩ := (HA.out.fresh H6.out).seqs
                exact ⟨Ar, cr, L, n, 2, rfl, hs, by simpa using HRd.out _ (Rd.stop E.out), HB.out.trans (H6.out.mono HB.out.size)⟩
end Go.Proofs.YtkmelhgpngochaaDoor.Fr
