/- What the laws of this seat are proved from, part 4 of 5: texts laid one behind the other. -/
import Derived.Test.YtnbknihaefkllaaGreatDoorM2
import Derived.Deep.RegionWith
import Derived.Deep.Cut
import Derived.Test.YtnbknihaefkllaaGreatDoorM3
import Derived.Lib.MinMax
import Derived.Test.YtnbknihaefkllaaGreatDoorM1
import Derived.Shelf.SlIter.Nil
import Derived.Shelf.SortM.Plain
import Derived.Shelf.SortM.SortNone
import Derived.WideShapes
/- What the document's own All answers. -/
namespace Go.Proofs.YtnbknihaefkllaaGreatDoor.Fr
set_option linter.unusedVariables false
set_option linter.unusedSimpArgs false
open Go.RowKit Lift Ik Sq
theorem nxt_near {b : List Nat} {a : Nat} (h : ¬ (left a < 7 ∧ a < b.length)) (ha : a ≤ b.length) : nxt b a = frg b a := by
  have hs : skip b a = a := by unfold skip; split <;> omega
  have hc : clean b a := by
    unfold clean padding
    split
    · rw [List.drop_of_length_le (by omega)]; simp
    · simp
  unfold nxt
  rw [if_pos hc, hs]
theorem left_next (a : Nat) : left (a + left a) = 128 := by
  have h : (a + left a) % 128 = 0 := by unfold left; omega
  show 128 - (a + left a) % 128 = 128
  omega
theorem neq_str (x y : List Nat) (hx : ∀ a, a ∈ x → a < 256) (hy : ∀ a, a ∈ y → a < 256) (W : World) : Sem.run Tryz.prog (binOp .neq 9 (.string (str x)) (.string (str y))) W = .ok (.bool (decide (x ≠ y))) W := by
  have h := str_eq hx hy
  go_simp
theorem run_str7 {w : World} {B c : Nat} {A : Option Addr} {bs : List Nat} {k : Nat} (hl : Lies w B A (bs.map vb)) (hk : bs.length = k) : Sem.run Tryz.prog (convert 24 9 (.slice A k c)) w = .ok (.string (str bs)) w := by
  rw [← hk]
  exact run_string_lies (P := Tryz.prog) (c := c) _ _ 5 Tryz.underlying24 Tryz.underlying5 Tryz.underlying9 hl
set_option maxRecDepth 100000 in
set_option maxHeartbeats 12800000 in
theorem rall_any (A : Option Addr) (c : Nat) (b : List Nat) (w : World) (hl : Lies w w.heap.size A (b.map vb)) (hc : b.length ≤ c) (hm : c ≤ maxLen) (hn : b.length ≤ 20000000) (h8 : ∀ x, x ∈ b → x < 256) :
    Calls Tryz.prog 43 #[.slice A b.length c] w (Told w b) := by
  have HL := Lib.hid hl
  have H8 := Lib.hid h8
  clear hl h8
  go_enter Tryz.func43, Tryz.ntmps43
  go_wp2_with fail
  go_loopw [5, 6, 7, 8, 9] (fun out now wi at' done wr => ∃ (L : List E) (n a : Nat) (nw : List Nat) (f : Bool), done = .int .i64 n ∧ at' = .int .i64 a ∧ wi = .bool f ∧ a ≤ b.length ∧ L.length ≤ a ∧ nw.length ≤ a ∧ Hid (wr.ownsRow w.heap.size 5 1 now nw.length (nw.map vb)) ∧ Hid (Acc w.heap.size wr none out now L) ∧
    Hid (∀ x, x ∈ nw → x < 256) ∧ Hid (∀ R, Rd b a f nw n (L.map (·.bs)) R → Rd b 0 false [] 0 [] R) ∧ Hid (Below w.heap.size w wr)) (fun _ _ _ at' _ _ => b.length + 1 - (intOf at').toNat)
  case atStart => exact ⟨[], 0, 0, [], false, rfl, rfl, rfl, by omega, by simp, by simp, Lib.hid (World.ownsRow_nil _ _ _ _), Lib.hid (Acc.nil _ _ _ _), Lib.hid (by simp), Lib.hid (fun R h => h), Lib.hid (Below.refl _ _)⟩
  case round =>
    obtain ⟨L, n, a, nw, f, rfl, rfl, rfl, ha, hLa, hna, HO, HA, HN8, HRd, HB⟩ := hrel
    have hla : left a = 128 - a % 128 := rfl
    have hlp := left_pos a
    by_cases hp : left a < 7 ∧ a < b.length
    case' pos =>
      obtain ⟨hp1, hp2⟩ := hp
      have h1 : 128 - (a : Int) % 128 < 7 := by omega
      have h2 : 0 < (b.length : Int) - (a : Int) := by omega
      obtain ⟨k, hk⟩ : ∃ k, k = min (left a) (b.length - a) := ⟨_, rfl⟩
      obtain ⟨A2, hA2, _, hmid⟩ := cut_mid A b.length c a k (by omega) hc hm
      have hpad : padding b a = (b.drop a).take (left a) := by unfold padding; rw [if_pos hp1]
      have hpk : (padding b a).length = k := by rw [hpad, List.length_take, List.length_drop]; omega
      have hz := zeros_any A2 (c - a) w.heap.size (padding b a) wr ((HL.out.below HB.out).cut (p := a) (fun h0 => hA2 (by omega)) (by rw [hpad]; exact List.take_prefix _ _)) (by omega) (by rw [hpad]; exact fun x hx => H8.out x (List.mem_of_mem_drop (List.mem_of_mem_take hx)))
      rw [hpk] at hz
      have HZ := Lib.hid (show Calls Tryz.prog 67 #[.slice A2 k (c - a)] wr fun e w' => e = .returned (.bool (decide (clean b a))) ∧ wr = w' from hz)
      have hskip : skip b a = a + k := by unfold skip; rw [if_pos hp1]; omega
      have HSK : Hid (clean b a → nxt b a = frg b (a + k)) := Lib.hid (fun h => by unfold nxt; rw [if_pos h, hskip])
      have HNC : Hid (¬ clean b a → nxt b a = .stop 2) := Lib.hid (fun h => by unfold nxt; rw [if_neg h])
      clear hz hpk hpad hA2 hskip
      by_cases hk2 : left a ≤ b.length - a
      case' pos =>
        have hkl : k = left a := by omega
        have h3 : ¬ ((b.length : Int) - (a : Int) < 128 - (a : Int) % 128) := by omega
        have hcut := fun W => hmid W ((a : Int) + (128 - (a : Int) % 128)) (by omega)
        have ek : 128 - (a : Int) % 128 = (k : Int) := by omega
        have HKL := Lib.hid hkl
        have HLF := Lib.hid hla
        have HA1 : Hid (left (a + k) = 128) := Lib.hid (by rw [hkl]; exact left_next a)
        clear hmid hk hkl ek hla hlp hk2 hp1
        go_wp2_with fail
        refine HZ.out.mono ?_; rintro e w' ⟨rfl, rfl⟩
        by_cases hcl : clean b a
        case' pos =>
          have HX := Lib.hid (HSK.out hcl)
          rw [decide_eq_true hcl]
          clear hcl HZ HSK HNC hcut
          go_upto_region 17 with fail
          have hka : (128 : Int) - (a : Int) % 128 = (k : Int) := by have := HKL.out; have := HLF.out; omega
          have hkb : k ≤ b.length - a := by omega
          rw [hka]
          rw [show (a : Int) + (k : Int) = ((a + k : Nat) : Int) by omega, show (b.length : Int) - (a : Int) - (k : Int) = ((b.length - (a + k) : Nat) : Int) by omega, show (Value.int .i64 128) = .int .i64 ((128 : Nat) : Int) from rfl]
          have ha1 : a + k ≤ b.length := by omega
          have hLa1 : L.length ≤ a + k := by omega
          have hna1 : nw.length ≤ a + k := by omega
          have haa : a ≤ a + k := by omega
          clear hka hkb HKL HLF h1 h2 h3 hp2 hLa hna
          obtain ⟨lf, hlf⟩ : ∃ lf : Nat, lf = 128 := ⟨_, rfl⟩
          rw [show (128 : Nat) = lf from hlf.symm] at HA1 ⊢
          have hl128 : lf ≤ 128 := by omega
          clear hlf
          generalize hak : a + k = a1 at *
          clear hak
        case' neg =>
          have E := Lib.hid (HNC.out hcl)
          rw [decide_eq_false hcl]
          clear hcl HZ HSK HNC hcut
          go_wp2_with fail
          go_returns
          obtain ⟨Ar, cr, rfl, hs⟩ := HA.out.seqs
          exact ⟨Ar, cr, L, n, 2, rfl, hs, by simpa using HRd.out _ (Rd.stop E.out), HB.out⟩
      case' neg =>
        have hkl : k = b.length - a := by omega
        have h3 : (b.length : Int) - (a : Int) < 128 - (a : Int) % 128 := by omega
        have hcut := fun W => hmid W (b.length : Int) (by omega)
        have hcut2 := fun W => hmid W ((a : Int) + ((b.length : Int) - (a : Int))) (by omega)
        have HEN : Hid (clean b a → nxt b a = .stop 0) := Lib.hid (fun h => by
          rw [HSK.out h, show a + k = b.length by omega]
          unfold frg
          rw [if_pos (Nat.le_refl _)])
        clear hmid hk hkl hla hlp hk2 hp1 HSK
        go_wp2_with fail
        refine HZ.out.mono ?_; rintro e w' ⟨rfl, rfl⟩
        by_cases hcl : clean b a
        · have E := Lib.hid (HEN.out hcl)
          rw [decide_eq_true hcl]
          clear hcl HZ HNC hcut hcut2 HEN
          cases f
          · go_wp2_with fail
            go_returns
            obtain ⟨Ar, cr, rfl, hs⟩ := HA.out.seqs
            exact ⟨Ar, cr, L, n, 0, rfl, hs, by simpa using HRd.out _ (Rd.stop E.out), HB.out⟩
          · go_wp2_with fail
            go_returns
            obtain ⟨Ar, cr, rfl, hs⟩ := HA.out.seqs
            exact ⟨Ar, cr, L, n, 1, rfl, hs, by simpa using HRd.out _ (Rd.stop E.out), HB.out⟩
        · have E := Lib.hid (HNC.out hcl)
          rw [decide_eq_false hcl]
          clear hcl HZ HNC hcut hcut2 HEN
          go_wp2_with fail
          go_returns
          obtain ⟨Ar, cr, rfl, hs⟩ := HA.out.seqs
          exact ⟨Ar, cr, L, n, 2, rfl, hs, by simpa using HRd.out _ (Rd.stop E.out), HB.out⟩
    case' neg =>
      have HX := Lib.hid (nxt_near hp ha)
      have h1 : 7 ≤ 128 - (a : Int) % 128 ∨ (b.length : Int) - (a : Int) = 0 := by omega
      have ELF : (128 : Int) - (a : Int) % 128 = ((left a : Nat) : Int) := by omega
      have ERL : (b.length : Int) - (a : Int) = ((b.length - a : Nat) : Int) := by omega
      have HELF := Lib.hid ELF
      have HERL := Lib.hid ERL
      have hl128 : left a ≤ 128 := hlp.2
      obtain ⟨lf, hlf⟩ : ∃ lf, lf = left a := ⟨_, rfl⟩
      have HA1 : Hid (left a = lf) := Lib.hid hlf.symm
      clear hp hla ELF ERL hlp
      have haa : a ≤ a := Nat.le_refl _
      rcases h1 with h1 | h1
      case' inl =>
        go_upto_region 17 with fail
        rw [HELF.out, HERL.out, ← hlf]
        rw [← hlf] at hl128
        clear HELF HERL h1
        have ha1 := ha
        have hLa1 := hLa
        have hna1 := hna
        clear hlf
        obtain ⟨a1, hq⟩ : ∃ a1, a1 = a := ⟨_, rfl⟩
        have HX' : Hid (nxt b a = frg b a1) := Lib.hid (by rw [hq]; exact HX.out)
        have HA1' : Hid (left a1 = lf) := Lib.hid (by rw [hq]; exact HA1.out)
        rw [← hq] at ha1 hLa1 hna1
        have haa' : a ≤ a1 := by omega
        rw [show (Value.int .i64 (a : Int)) = .int .i64 (a1 : Int) by rw [hq], show b.length - a = b.length - a1 by rw [hq]]
        clear HX HA1 haa hq hLa hna
        have HX := HX'
        have HA1 := HA1'
        have haa := haa'
        clear HX' HA1' haa'
      case' inr =>
        have E := Lib.hid (show nxt b a = .stop 0 from by rw [HX.out]; unfold frg; rw [if_pos (by omega)])
        cases f
        · go_wp2_with fail
          all_goals
            go_returns
            obtain ⟨Ar, cr, rfl, hs⟩ := HA.out.seqs
            exact ⟨Ar, cr, L, n, 0, rfl, hs, by simpa using HRd.out _ (Rd.stop E.out), HB.out⟩
        · go_wp2_with fail
          all_goals
            go_returns
            obtain ⟨Ar, cr, rfl, hs⟩ := HA.out.seqs
            exact ⟨Ar, cr, L, n, 1, rfl, hs, by simpa using HRd.out _ (Rd.stop E.out), HB.out⟩
    all_goals
      obtain ⟨r, hr⟩ : ∃ r, r = b.drop a1 := ⟨_, rfl⟩
      have hrl : b.length - a1 = r.length := by rw [hr, List.length_drop]
      obtain ⟨F0, F1, F2, F3, F4, F5⟩ := frg_stop hr ha1
      rw [HA1.out] at F2 F3 F4 F5
      rw [← HX.out] at F0 F1 F2 F3 F4 F5
      have G0 := Lib.hid F0
      have G1 := Lib.hid F1
      have G2 := Lib.hid F2
      have G3 := Lib.hid F3
      have G4 := Lib.hid F4
      have G5 := Lib.hid F5
      have HRI := Lib.hid hr
      rw [hrl]
      have hbl : a1 + r.length = b.length := by omega
      have H8r : Hid (∀ x, x ∈ r → x < 256) := Lib.hid (by rw [hr]; exact fun x hx => H8.out x (List.mem_of_mem_drop hx))
      clear F0 F1 F2 F3 F4 F5 hr hrl HX HA1
      by_cases h0 : r.length = 0
      · have E := Lib.hid (G0.out h0)
        cases f
        · go_wp2_with fail
          go_returns
          obtain ⟨Ar, cr, rfl, hs⟩ := HA.out.seqs
          exact ⟨Ar, cr, L, n, 0, rfl, hs, by simpa using HRd.out _ (Rd.stop E.out), HB.out⟩
        · go_wp2_with fail
          go_returns
          obtain ⟨Ar, cr, rfl, hs⟩ := HA.out.seqs
          exact ⟨Ar, cr, L, n, 1, rfl, hs, by simpa using HRd.out _ (Rd.stop E.out), HB.out⟩
      · by_cases h7 : r.length < 7
        · have E := Lib.hid (G1.out (by omega) h7)
          go_wp2_with fail
          go_returns
          obtain ⟨Ar, cr, rfl, hs⟩ := HA.out.seqs
          exact ⟨Ar, cr, L, n, 1, rfl, hs, by simpa using HRd.out _ (Rd.stop E.out), HB.out⟩
        · obtain ⟨ad, hA, _, hcell⟩ := HL.out.place (by rw [List.length_map]; omega)
          subst hA
          have HLb := Lib.hid (HL.out.below HB.out)
          have hg := get_any (some ad) c w.heap.size (a1 + 4) 2 b wr HLb.out hc hm H8.out (by decide) (by omega)
          rw [show ((b.drop (a1 + 4)).take 2) = (r.drop 4).take 2 by rw [HRI.out, List.drop_drop], show ((a1 + 4 : Nat) : Int) = (a1 : Int) + 4 by omega] at hg
          have HG := Lib.hid (show Calls Tryz.prog 68 #[.slice (some ad) b.length c, .int .i64 ((a1 : Int) + 4), .int .i64 2] wr fun e w' => e = .returned (.int .u64 (num2 r : Nat)) ∧ wr = w' from hg)
          have hn2 : num2 r < 65536 := by
            have h1 := num_lt ((r.drop 4).take 2) (byte_front H8r.out fun x hx => List.mem_of_mem_drop (List.mem_of_mem_take hx))
            have h2 : ((r.drop 4).take 2).length = 2 := by rw [List.length_take, List.length_drop]; omega
            rw [h2] at h1
            exact h1
          obtain ⟨kk, hkk⟩ : ∃ kk, r[6]? = some kk := ⟨_, List.getElem?_eq_getElem (by omega)⟩
          have ekk : kindOf r = kk := by unfold kindOf; rw [hkk]; rfl
          have k8 : kk < 256 := H8r.out _ (List.mem_of_getElem? hkk)
          have h6 : wr.cell? (ad.add (a1 + 6)) = some (vb kk) := by
            have hb6 : b[a1 + 6]? = some kk := by rw [← List.getElem?_drop, ← HRI.out]; exact hkk
            obtain ⟨ad', e, _, hcell'⟩ := HLb.out.place (by rw [List.length_map]; omega)
            cases e
            exact hcell' (a1 + 6) (vb kk) (by rw [List.getElem?_map, hb6]; rfl)
          have h6' : wr.cell? ⟨ad.block, ad.off + (a1 + 5 + 1), none⟩ = some (vb kk) := by
            rw [show (⟨ad.block, ad.off + (a1 + 5 + 1), none⟩ : Addr) = ad.add (a1 + 6) by simp [Addr.add]]
            exact h6
          have HSP := Lib.hid (split6 (r := r))
          have HH7 := Lib.hid (head7 (r := r) (by omega) H8r.out)
          have HGD : Hid (good r ↔ num (r.take 4) = sumB (kindOf r) (dataOf r) ∧ 1 ≤ kindOf r ∧ kindOf r ≤ 4) := Lib.hid (by unfold good; exact Iff.rfl)
          have HD8 : Hid (∀ x, x ∈ dataOf r → x < 256) := Lib.hid (byte_front H8r.out fun x hx => List.mem_of_mem_drop (List.mem_of_mem_take hx))
          have HDT : Hid (dataOf r = (r.drop 7).take (num2 r)) := Lib.hid rfl
          rw [ekk] at G5 HSP HH7 HGD
          clear hg hcell ekk hkk
          generalize num2 r = m at *
          generalize dataOf r = d at *
          go_wp2_with fail
          refine HG.out.mono ?_; rintro e w' ⟨rfl, rfl⟩
          by_cases hl7 : lf < 7 + m
          · have E := Lib.hid (G2.out (by omega) hl7)
            have d1 : decide ((lf : Int) < 7 + (m : Int)) = true := by simp; omega
            go_wp2_with fail
            go_returns
            obtain ⟨Ar, cr, rfl, hs⟩ := HA.out.seqs
            exact ⟨Ar, cr, L, n, 2, rfl, hs, by simpa using HRd.out _ (Rd.stop E.out), HB.out⟩
          · have d1 : decide ((lf : Int) < 7 + (m : Int)) = false := by simp; omega
            by_cases hr7 : r.length < 7 + m
            · have E := Lib.hid (G3.out (by omega) (by omega) hr7)
              have d2 : decide ((r.length : Int) < 7 + (m : Int)) = true := by simp; omega
              go_wp2_with fail
              go_returns
              obtain ⟨Ar, cr, rfl, hs⟩ := HA.out.seqs
              exact ⟨Ar, cr, L, n, 1, rfl, hs, by simpa using HRd.out _ (Rd.stop E.out), HB.out⟩
            · have d2 : decide ((r.length : Int) < 7 + (m : Int)) = false := by simp; omega
              obtain ⟨s1, s2, s3⟩ := HSP.out (by omega)
              have HH := Lib.hid (HH7.out s2)
              obtain ⟨A7, hA7, hs7, hx7⟩ := cut_mid (some ad) b.length c (a1 + 7) m (by omega) hc hm
              have hcx := fun W => hx7 W ((a1 : Int) + 7 + (m : Int)) (by omega)
              rw [show ((a1 + 7 : Nat) : Int) = (a1 : Int) + 7 by omega] at hcx
              obtain ⟨Ah, hAh, _, hxh⟩ := cut_mid (some ad) b.length c a1 7 (by omega) hc hm
              have hch := fun W => hxh W ((a1 : Int) + 7) (by omega)
              have HLd : Hid (Lies wr w.heap.size A7 (d.map vb)) := Lib.hid (HLb.out.cut (p := a1 + 7) (fun h0 => hA7 (by omega)) (by rw [HDT.out, HRI.out, List.drop_drop]; exact List.take_prefix _ _))
              have l7 : (r.take 7).length = 7 := by rw [List.length_take]; omega
              have HLh : Hid (Lies wr w.heap.size Ah ((r.take 7).map vb)) := Lib.hid (HLb.out.cut (p := a1) (fun h0 => hAh (by omega)) (by rw [HRI.out]; exact List.take_prefix _ _))
              have H78 : Hid (∀ x, x ∈ r.take 7 → x < 256) := Lib.hid (byte_front H8r.out fun x hx => List.mem_of_mem_take hx)
              have HLD : Hid (d.length = m) := Lib.hid s2
              have hcm7 : c - (a1 + 7) ≤ maxLen := by unfold maxLen at hm ⊢; omega
              have HPC := Lib.hid fun W (hb : Below wr.heap.size wr W) => rpiece_any kk (c - (a1 + 7)) w.heap.size A7 d W (HLd.out.later fun p hp => hb.cell (Nat.lt_of_lt_of_le hp HB.out.size)) (Nat.le_trans HB.out.size hb.size) (by omega) hcm7 (by omega) k8 HD8.out
              rw [HLD.out] at HPC
              have HPL := Lib.hid (piece_length kk d)
              have HP8 := Lib.hid (piece_byte k8 HD8.out)
              have hPt : ((piece kk d).take 7).length = 7 := by rw [List.length_take, HPL.out]; omega
              have HQ := Lib.hid (neq_str (r.take 7) ((piece kk d).take 7) H78.out (fun x hx => HP8.out x (List.mem_of_mem_take hx)))
              have hdm : d.length = m := HLD.out
              have hw7 : IntKind.i64.wrap ((a1 : Int) + 7) = (a1 : Int) + 7 := by rw [IntKind.wrap_i64]; omega
              have HST : Hid (r.take 7 = (piece kk d).take 7 ↔ num (r.take 4) = sumB kk d) := HH
              clear hx7 hxh s1 s2 s3 hA7 hAh HG h6 HSP HH7 HH hdm
              generalize hPP : piece kk d = P at *
              clear hPP
              go_wp2_with fail
              by_cases hs : r.take 7 = P.take 7
              · have HQ7 : ∀ W : World, Sem.run Tryz.prog (binOp .neq 9 (.string (str (r.take 7))) (.string (str (P.take 7)))) W = .ok (.bool false) W := fun W => by rw [HQ.out W, decide_eq_false (fun h => h hs)]
                have HQ8 := Lib.hid (show ((str (r.take 7)).toList == (str (P.take 7)).toList) = true from by rw [str_eq H78.out (fun x hx => HP8.out x (List.mem_of_mem_take hx)), decide_eq_true hs])
                have HSE := Lib.hid (HST.out.1 hs)
                clear hs HQ
                by_cases hk1 : kk < 1
                · have E := Lib.hid (G4.out (by omega) (by omega) (by omega) fun hg => by have := HGD.out.1 hg; omega)
                  have d4 : decide ((kk : Int) < 1) = true := by simp; omega
                  refine wp_region_held_drew (S := fun w' => Hid (Below wr.heap.size wr w')) (by kernel_rfl) (Lib.hid (Below.refl _ _).drew) (fun hS => ?_)
                  refine wpAnyH_take (i := 0) (v := ?_) rfl (by kernel_rfl) (by kernel_rfl) (by kernel_rfl) (fun _ _ _ h => h) (Or.inl ⟨by rfl, ?_⟩) hS ?_
                  rotate_left
                  · intro w hw
                    go_simp
                    try with_reducible rfl
                  try simp only [Act.put, List.getElem_toArray, List.getElem_cons_succ, List.getElem_cons_zero, List.setIfInBounds_toArray, List.set_cons_zero, List.set_cons_succ]
                  refine wpAnyH_take (i := 1) (v := ?_) rfl (by kernel_rfl) (by kernel_rfl) (by kernel_rfl) (fun _ _ _ h => h) (Or.inl ⟨by rfl, ?_⟩) hS ?_
                  rotate_left
                  · intro w hw
                    go_simp
                    try with_reducible rfl
                  try simp only [Act.put, List.getElem_toArray, List.getElem_cons_succ, List.getElem_cons_zero, List.setIfInBounds_toArray, List.set_cons_zero, List.set_cons_succ]
                  refine wpAnyH_take (i := 2) (v := ?_) rfl (by kernel_rfl) (by kernel_rfl) (by kernel_rfl) (fun _ _ _ h => h) (Or.inl ⟨by rfl, ?_⟩) hS ?_
                  rotate_left
                  · intro w hw
                    go_simp
                    try with_reducible rfl
                  try simp only [Act.put, List.getElem_toArray, List.getElem_cons_succ, List.getElem_cons_zero, List.setIfInBounds_toArray, List.set_cons_zero, List.set_cons_succ]
                  refine wpAnyH_take (i := 3) (v := ?_) rfl (by kernel_rfl) (by kernel_rfl) (by kernel_rfl) (fun _ _ _ h => h) (Or.inl ⟨by rfl, ?_⟩) hS ?_
                  rotate_left
                  · intro w hw
                    go_simp
                    try with_reducible rfl
                  try simp only [Act.put, List.getElem_toArray, List.getElem_cons_succ, List.getElem_cons_zero, List.setIfInBounds_toArray, List.set_cons_zero, List.set_cons_succ]
                  refine wpAnyH_take (i := 4) (v := ?_) rfl (by kernel_rfl) (by kernel_rfl) (by kernel_rfl) (fun _ _ _ h => h) (Or.inl ⟨by rfl, ?_⟩) hS ?_
                  rotate_left
                  · intro w hw
                    go_simp
                    try with_reducible rfl
                  try simp only [Act.put, List.getElem_toArray, List.getElem_cons_succ, List.getElem_cons_zero, List.setIfInBounds_toArray, List.set_cons_zero, List.set_cons_succ]
                  refine wpAnyH_take (i := 5) (v := ?_) rfl (by kernel_rfl) (by kernel_rfl) (by kernel_rfl) (fun _ _ _ h => h) (Or.inl ⟨by rfl, ?_⟩) hS ?_
                  rotate_left
                  · intro w hw
                    have hc := run_str7 (c := c - a1) (HLh.out.below (hw.out.mono HB.out.size)) l7
                    go_simp
                    try with_reducible rfl
                  try simp only [Act.put, List.getElem_toArray, List.getElem_cons_succ, List.getElem_cons_zero, List.setIfInBounds_toArray, List.set_cons_zero, List.set_cons_succ]
                  refine wpAnyH_take (i := 6) (v := ?_) rfl (by kernel_rfl) (by kernel_rfl) (by kernel_rfl) (fun _ _ _ h => h) (Or.inl ⟨by rfl, ?_⟩) hS ?_
                  rotate_left
                  · intro w hw
                    go_simp
                    try with_reducible rfl
                  try simp only [Act.put, List.getElem_toArray, List.getElem_cons_succ, List.getElem_cons_zero, List.setIfInBounds_toArray, List.set_cons_zero, List.set_cons_succ]
                  refine wpAnyH_take (i := 7) (v := ?_) rfl (by kernel_rfl) (by kernel_rfl) (by kernel_rfl) (fun _ _ _ h => h) (Or.inl ⟨by rfl, ?_⟩) hS ?_
                  rotate_left
                  · intro w hw
                    go_simp
                    try with_reducible rfl
                  try simp only [Act.put, List.getElem_toArray, List.getElem_cons_succ, List.getElem_cons_zero, List.setIfInBounds_toArray, List.set_cons_zero, List.set_cons_succ]
                  refine wpAnyH_ready (rs := [8]) (by kernel_rfl) (by simp) ?_
                  refine AllReadyH.cons rfl (fun K hK => ?_) AllReadyH.nil
                  go_simp
                  refine (HPC.out _ hS.out).mono ?_
                  rintro e W6 ⟨v6, rfl, ho6, hb6⟩
                  obtain ⟨Ap, cp, rfl, k1, k2, k3⟩ := own_parts ho6
                  have H6 := Lib.hid (hS.out.trans (hb6.mono hS.out.size))
                  have L6 := Lib.hid k3
                  have hcp7 : ∀ W : World, Sem.run Tryz.prog (Instr.slice 24 (.slice Ap P.length cp) none (some (.int .i64 7)) none) W = .ok (.slice Ap 7 cp) W := cut_to Ap P.length cp 7 (by have := HPL.out; omega) k1 k2
                  clear ho6 hb6 k3
                  go_wp2_with fail
                  refine hK.out _ _ H6 (fun _ => ?_)
                  clear hK K hS
                  refine wpAnyH_other (S' := fun w' => Hid (Below W6.heap.size W6 w')) (fun w hw => Lib.hid (H6.out.trans (hw.out.mono H6.out.size))) _ _ _ _ ?_
                  have hS : Hid (Below W6.heap.size W6 W6) := Lib.hid (Below.refl _ _)
                  try simp only [Act.put, List.getElem_toArray, List.getElem_cons_succ, List.getElem_cons_zero, List.setIfInBounds_toArray, List.set_cons_zero, List.set_cons_succ]
                  refine wpAnyH_take (i := 9) (v := ?_) rfl (by kernel_rfl) (by kernel_rfl) (by kernel_rfl) (fun _ _ _ h => h) (Or.inl ⟨by rfl, ?_⟩) hS ?_
                  rotate_left
                  · intro w hw
                    go_simp
                    try with_reducible rfl
                  try simp only [Act.put, List.getElem_toArray, List.getElem_cons_succ, List.getElem_cons_zero, List.setIfInBounds_toArray, List.set_cons_zero, List.set_cons_succ]
                  refine wpAnyH_take (i := 10) (v := ?_) rfl (by kernel_rfl) (by kernel_rfl) (by kernel_rfl) (fun _ _ _ h => h) (Or.inl ⟨by rfl, ?_⟩) hS ?_
                  rotate_left
                  · intro w hw
                    have hc := run_str7 (c := cp) ((L6.out.below hw.out).front (by rw [List.map_take]; exact List.take_prefix _ _)) hPt
                    go_simp
                    try with_reducible rfl
                  try simp only [Act.put, List.getElem_toArray, List.getElem_cons_succ, List.getElem_cons_zero, List.setIfInBounds_toArray, List.set_cons_zero, List.set_cons_succ]
                  refine wpAnyH_take (i := 11) (v := ?_) rfl (by kernel_rfl) (by kernel_rfl) (by kernel_rfl) (fun _ _ _ h => h) (Or.inl ⟨by rfl, ?_⟩) hS ?_
                  rotate_left
                  · intro w hw
                    have hc := HQ8.out
                    go_simp
                    try with_reducible rfl
                  try simp only [Act.put, List.getElem_toArray, List.getElem_cons_succ, List.getElem_cons_zero, List.setIfInBounds_toArray, List.set_cons_zero, List.set_cons_succ]
                  refine wpAnyH_take (i := 12) (v := ?_) rfl (by kernel_rfl) (by kernel_rfl) (by kernel_rfl) (fun _ _ _ h => h) (Or.inl ⟨by rfl, ?_⟩) hS ?_
                  rotate_left
                  · intro w hw
                    go_simp
                    try with_reducible rfl
                  try simp only [Act.put, List.getElem_toArray, List.getElem_cons_succ, List.getElem_cons_zero, List.setIfInBounds_toArray, List.set_cons_zero, List.set_cons_succ]
                  refine wpAnyH_take (i := 13) (v := ?_) rfl (by kernel_rfl) (by kernel_rfl) (by kernel_rfl) (fun _ _ _ h => h) (Or.inl ⟨by rfl, ?_⟩) hS ?_
                  rotate_left
                  · intro w hw
                    go_simp
                    try with_reducible rfl
                  try simp only [Act.put, List.getElem_toArray, List.getElem_cons_succ, List.getElem_cons_zero, List.setIfInBounds_toArray, List.set_cons_zero, List.set_cons_succ]
                  refine wpAnyH_take (i := 14) (v := ?_) rfl (by kernel_rfl) (by kernel_rfl) (by kernel_rfl) (fun _ _ _ h => h) (Or.inl ⟨by rfl, ?_⟩) hS ?_
                  rotate_left
                  · intro w hw
                    go_simp
                    try with_reducible rfl
                  try simp only [Act.put, List.getElem_toArray, List.getElem_cons_succ, List.getElem_cons_zero, List.setIfInBounds_toArray, List.set_cons_zero, List.set_cons_succ]
                  refine wpAnyH_take (i := 15) (v := ?_) rfl (by kernel_rfl) (by kernel_rfl) (by kernel_rfl) (fun _ _ _ h => h) (Or.inl ⟨by rfl, ?_⟩) hS ?_
                  rotate_left
                  · intro w hw
                    go_simp
                    try with_reducible rfl
                  try simp only [Act.put, List.getElem_toArray, List.getElem_cons_succ, List.getElem_cons_zero, List.setIfInBounds_toArray, List.set_cons_zero, List.set_cons_succ]
                  refine wpAnyH_take (i := 16) (v := ?_) rfl (by kernel_rfl) (by kernel_rfl) (by kernel_rfl) (fun _ _ _ h => h) (Or.inl ⟨by rfl, ?_⟩) hS ?_
                  rotate_left
                  · intro w hw
                    go_simp
                    try with_reducible rfl
                  try simp only [Act.put, List.getElem_toArray, List.getElem_cons_succ, List.getElem_cons_zero, List.setIfInBounds_toArray, List.set_cons_zero, List.set_cons_succ]
                  refine wpAnyH_take (i := 17) (v := undef) rfl (by kernel_rfl) (by kernel_rfl) (by kernel_rfl) (fun _ _ _ h => h) (Or.inr ⟨by rfl, rfl⟩) hS ?_
                  try simp only [Act.put, List.getElem_toArray, List.getElem_cons_succ, List.getElem_cons_zero, List.setIfInBounds_toArray, List.set_cons_zero, List.set_cons_succ]
                  refine wpAnyH_take (i := 18) (v := undef) rfl (by kernel_rfl) (by kernel_rfl) (by kernel_rfl) (fun _ _ _ h => h) (Or.inr ⟨by rfl, rfl⟩) hS ?_
                  try simp only [Act.put, List.getElem_toArray, List.getElem_cons_succ, List.getElem_cons_zero, List.setIfInBounds_toArray, List.set_cons_zero, List.set_cons_succ]
                  refine wpAnyH_take (i := 19) (v := ?_) rfl (by kernel_rfl) (by kernel_rfl) (by kernel_rfl) (fun _ _ _ h => h) (Or.inl ⟨by rfl, ?_⟩) hS ?_
                  rotate_left
                  · intro w hw
                    go_simp
                    try with_reducible rfl
                  try simp only [Act.put, List.getElem_toArray, List.getElem_cons_succ, List.getElem_cons_zero, List.setIfInBounds_toArray, List.set_cons_zero, List.set_cons_succ]
                  refine wpAnyH_take (i := 20) (v := ?_) rfl (by kernel_rfl) (by kernel_rfl) (by kernel_rfl) (fun _ _ _ h => h) (Or.inl ⟨by rfl, ?_⟩) hS ?_
                  rotate_left
                  · intro w hw
                    go_simp
                    try with_reducible rfl
                  try simp only [Act.put, List.getElem_toArray, List.getElem_cons_succ, List.getElem_cons_zero, List.setIfInBounds_toArray, List.set_cons_zero, List.set_cons_succ]
                  refine wpAnyH_take (i := 21) (v := undef) rfl (by kernel_rfl) (by kernel_rfl) (by kernel_rfl) (fun _ _ _ h => h) (Or.inr ⟨by rfl, rfl⟩) hS ?_
                  try simp only [Act.put, List.getElem_toArray, List.getElem_cons_succ, List.getElem_cons_zero, List.setIfInBounds_toArray, List.set_cons_zero, List.set_cons_succ]
                  refine wpAnyH_take (i := 22) (v := undef) rfl (by kernel_rfl) (by kernel_rfl) (by kernel_rfl) (fun _ _ _ h => h) (Or.inr ⟨by rfl, rfl⟩) hS ?_
                  try simp only [Act.put, List.getElem_toArray, List.getElem_cons_succ, List.getElem_cons_zero, List.setIfInBounds_toArray, List.set_cons_zero, List.set_cons_succ]
                  refine wpAnyH_take (i := 23) (v := undef) rfl (by kernel_rfl) (by kernel_rfl) (by kernel_rfl) (fun _ _ _ h => h) (Or.inr ⟨by rfl, rfl⟩) hS ?_
                  try simp only [Act.put, List.getElem_toArray, List.getElem_cons_succ, List.getElem_cons_zero, List.setIfInBounds_toArray, List.set_cons_zero, List.set_cons_succ]
                  refine wpAnyH_take (i := 24) (v := undef) rfl (by kernel_rfl) (by kernel_rfl) (by kernel_rfl) (fun _ _ _ h => h) (Or.inr ⟨by rfl, rfl⟩) hS ?_
                  try simp only [Act.put, List.getElem_toArray, List.getElem_cons_succ, List.getElem_cons_zero, List.setIfInBounds_toArray, List.set_cons_zero, List.set_cons_succ]
                  refine wpAnyH_take (i := 25) (v := ?_) rfl (by kernel_rfl) (by kernel_rfl) (by kernel_rfl) (fun _ _ _ h => h) (Or.inl ⟨by rfl, ?_⟩) hS ?_
                  rotate_left
                  · intro w hw
                    go_simp
                    try with_reducible rfl
                  try simp only [Act.put, List.getElem_toArray, List.getElem_cons_succ, List.getElem_cons_zero, List.setIfInBounds_toArray, List.set_cons_zero, List.set_cons_succ]
                  refine wpAnyH_done (by kernel_rfl) ?_ _
                  go_wp2_with fail
                  go_returns
                  obtain ⟨Ar, cr, rfl, hs⟩ := (HA.out.fresh H6.out).seqs
                  exact ⟨Ar, cr, L, n, 2, rfl, hs, by simpa using HRd.out _ (Rd.stop E.out), HB.out.trans (H6.out.mono HB.out.size)⟩
                · have d4 : decide ((kk : Int) < 1) = false := by simp; omega
                  by_cases hk4 : 4 < kk
                  · have E := Lib.hid (G4.out (by omega) (by omega) (by omega) fun hg => by have := HGD.out.1 hg; omega)
                    have d5 : decide (4 < (kk : Int)) = true := by simp; omega
                    refine wp_region_held_drew (S := fun w' => Hid (Below wr.heap.size wr w')) (by kernel_rfl) (Lib.hid (Below.refl _ _).drew) (fun hS => ?_)
                    refine wpAnyH_take (i := 0) (v := ?_) rfl (by kernel_rfl) (by kernel_rfl) (by kernel_rfl) (fun _ _ _ h => h) (Or.inl ⟨by rfl, ?_⟩) hS ?_
                    rotate_left
                    · intro w hw
                      go_simp
                      try with_reducible rfl
                    try simp only [Act.put, List.getElem_toArray, List.getElem_cons_succ, List.getElem_cons_zero, List.setIfInBounds_toArray, List.set_cons_zero, List.set_cons_succ]
                    refine wpAnyH_take (i := 1) (v := ?_) rfl (by kernel_rfl) (by kernel_rfl) (by kernel_rfl) (fun _ _ _ h => h) (Or.inl ⟨by rfl, ?_⟩) hS ?_
                    rotate_left
                    · intro w hw
                      go_simp
                      try with_reducible rfl
                    try simp only [Act.put, List.getElem_toArray, List.getElem_cons_succ, List.getElem_cons_zero, List.setIfInBounds_toArray, List.set_cons_zero, List.set_cons_succ]
                    refine wpAnyH_take (i := 2) (v := ?_) rfl (by kernel_rfl) (by kernel_rfl) (by kernel_rfl) (fun _ _ _ h => h) (Or.inl ⟨by rfl, ?_⟩) hS ?_
                    rotate_left
                    · intro w hw
                      go_simp
                      try with_reducible rfl
                    try simp only [Act.put, List.getElem_toArray, List.getElem_cons_succ, List.getElem_cons_zero, List.setIfInBounds_toArray, List.set_cons_zero, List.set_cons_succ]
                    refine wpAnyH_take (i := 3) (v := ?_) rfl (by kernel_rfl) (by kernel_rfl) (by kernel_rfl) (fun _ _ _ h => h) (Or.inl ⟨by rfl, ?_⟩) hS ?_
                    rotate_left
                    · intro w hw
                      go_simp
                      try with_reducible rfl
                    try simp only [Act.put, List.getElem_toArray, List.getElem_cons_succ, List.getElem_cons_zero, List.setIfInBounds_toArray, List.set_cons_zero, List.set_cons_succ]
                    refine wpAnyH_take (i := 4) (v := ?_) rfl (by kernel_rfl) (by kernel_rfl) (by kernel_rfl) (fun _ _ _ h => h) (Or.inl ⟨by rfl, ?_⟩) hS ?_
                    rotate_left
                    · intro w hw
                      go_simp
                      try with_reducible rfl
                    try simp only [Act.put, List.getElem_toArray, List.getElem_cons_succ, List.getElem_cons_zero, List.setIfInBounds_toArray, List.set_cons_zero, List.set_cons_succ]
                    refine wpAnyH_take (i := 5) (v := ?_) rfl (by kernel_rfl) (by kernel_rfl) (by kernel_rfl) (fun _ _ _ h => h) (Or.inl ⟨by rfl, ?_⟩) hS ?_
                    rotate_left
                    · intro w hw
                      have hc := run_str7 (c := c - a1) (HLh.out.below (hw.out.mono HB.out.size)) l7
                      go_simp
                      try with_reducible rfl
                    try simp only [Act.put, List.getElem_toArray, List.getElem_cons_succ, List.getElem_cons_zero, List.setIfInBounds_toArray, List.set_cons_zero, List.set_cons_succ]
                    refine wpAnyH_take (i := 6) (v := ?_) rfl (by kernel_rfl) (by kernel_rfl) (by kernel_rfl) (fun _ _ _ h => h) (Or.inl ⟨by rfl, ?_⟩) hS ?_
                    rotate_left
                    · intro w hw
                      go_simp
                      try with_reducible rfl
                    try simp only [Act.put, List.getElem_toArray, List.getElem_cons_succ, List.getElem_cons_zero, List.setIfInBounds_toArray, List.set_cons_zero, List.set_cons_succ]
                    refine wpAnyH_take (i := 7) (v := ?_) rfl (by kernel_rfl) (by kernel_rfl) (by kernel_rfl) (fun _ _ _ h => h) (Or.inl ⟨by rfl, ?_⟩) hS ?_
                    rotate_left
                    · intro w hw
                      go_simp
                      try with_reducible rfl
                    try simp only [Act.put, List.getElem_toArray, List.getElem_cons_succ, List.getElem_cons_zero, List.setIfInBounds_toArray, List.set_cons_zero, List.set_cons_succ]
                    refine wpAnyH_ready (rs := [8]) (by kernel_rfl) (by simp) ?_
                    refine AllReadyH.cons rfl (fun K hK => ?_) AllReadyH.nil
                    go_simp
                    refine (HPC.out _ hS.out).mono ?_
                    rintro e W6 ⟨v6, rfl, ho6, hb6⟩
                    obtain ⟨Ap, cp, rfl, k1, k2, k3⟩ := own_parts ho6
                    have H6 := Lib.hid (hS.out.trans (hb6.mono hS.out.size))
                    have L6 := Lib.hid k3
                    have hcp7 : ∀ W : World, Sem.run Tryz.prog (Instr.slice 24 (.slice Ap P.length cp) none (some (.int .i64 7)) none) W = .ok (.slice Ap 7 cp) W := cut_to Ap P.length cp 7 (by have := HPL.out; omega) k1 k2
                    clear ho6 hb6 k3
                    go_wp2_with fail
                    refine hK.out _ _ H6 (fun _ => ?_)
                    clear hK K hS
                    refine wpAnyH_other (S' := fun w' => Hid (Below W6.heap.size W6 w')) (fun w hw => Lib.hid (H6.out.trans (hw.out.mono H6.out.size))) _ _ _ _ ?_
                    have hS : Hid (Below W6.heap.size W6 W6) := Lib.hid (Below.refl _ _)
                    try simp only [Act.put, List.getElem_toArray, List.getElem_cons_succ, List.getElem_cons_zero, List.setIfInBounds_toArray, List.set_cons_zero, List.set_cons_succ]
                    refine wpAnyH_take (i := 9) (v := ?_) rfl (by kernel_rfl) (by kernel_rfl) (by kernel_rfl) (fun _ _ _ h => h) (Or.inl ⟨by rfl, ?_⟩) hS ?_
                    rotate_left
                    · intro w hw
                      go_simp
                      try with_reducible rfl
                    try simp only [Act.put, List.getElem_toArray, List.getElem_cons_succ, List.getElem_cons_zero, List.setIfInBounds_toArray, List.set_cons_zero, List.set_cons_succ]
                    refine wpAnyH_take (i := 10) (v := ?_) rfl (by kernel_rfl) (by kernel_rfl) (by kernel_rfl) (fun _ _ _ h => h) (Or.inl ⟨by rfl, ?_⟩) hS ?_
                    rotate_left
                    · intro w hw
                      have hc := run_str7 (c := cp) ((L6.out.below hw.out).front (by rw [List.map_take]; exact List.take_prefix _ _)) hPt
                      go_simp
                      try with_reducible rfl
                    try simp only [Act.put, List.getElem_toArray, List.getElem_cons_succ, List.getElem_cons_zero, List.setIfInBounds_toArray, List.set_cons_zero, List.set_cons_succ]
                    refine wpAnyH_take (i := 11) (v := ?_) rfl (by kernel_rfl) (by kernel_rfl) (by kernel_rfl) (fun _ _ _ h => h) (Or.inl ⟨by rfl, ?_⟩) hS ?_
                    rotate_left
                    · intro w hw
                      have hc := HQ8.out
                      go_simp
                      try with_reducible rfl
                    try simp only [Act.put, List.getElem_toArray, List.getElem_cons_succ, List.getElem_cons_zero, List.setIfInBounds_toArray, List.set_cons_zero, List.set_cons_succ]
                    refine wpAnyH_take (i := 12) (v := ?_) rfl (by kernel_rfl) (by kernel_rfl) (by kernel_rfl) (fun _ _ _ h => h) (Or.inl ⟨by rfl, ?_⟩) hS ?_
                    rotate_left
                    · intro w hw
                      go_simp
                      try with_reducible rfl
                    try simp only [Act.put, List.getElem_toArray, List.getElem_cons_succ, List.getElem_cons_zero, List.setIfInBounds_toArray, List.set_cons_zero, List.set_cons_succ]
                    refine wpAnyH_take (i := 13) (v := ?_) rfl (by kernel_rfl) (by kernel_rfl) (by kernel_rfl) (fun _ _ _ h => h) (Or.inl ⟨by rfl, ?_⟩) hS ?_
                    rotate_left
                    · intro w hw
                      go_simp
                      try with_reducible rfl
                    try simp only [Act.put, List.getElem_toArray, List.getElem_cons_succ, List.getElem_cons_zero, List.setIfInBounds_toArray, List.set_cons_zero, List.set_cons_succ]
                    refine wpAnyH_take (i := 14) (v := ?_) rfl (by kernel_rfl) (by kernel_rfl) (by kernel_rfl) (fun _ _ _ h => h) (Or.inl ⟨by rfl, ?_⟩) hS ?_
                    rotate_left
                    · intro w hw
                      go_simp
                      try with_reducible rfl
                    try simp only [Act.put, List.getElem_toArray, List.getElem_cons_succ, List.getElem_cons_zero, List.setIfInBounds_toArray, List.set_cons_zero, List.set_cons_succ]
                    refine wpAnyH_take (i := 15) (v := ?_) rfl (by kernel_rfl) (by kernel_rfl) (by kernel_rfl) (fun _ _ _ h => h) (Or.inl ⟨by rfl, ?_⟩) hS ?_
                    rotate_left
                    · intro w hw
                      go_simp
                      try with_reducible rfl
                    try simp only [Act.put, List.getElem_toArray, List.getElem_cons_succ, List.getElem_cons_zero, List.setIfInBounds_toArray, List.set_cons_zero, List.set_cons_succ]
                    refine wpAnyH_take (i := 16) (v := ?_) rfl (by kernel_rfl) (by kernel_rfl) (by kernel_rfl) (fun _ _ _ h => h) (Or.inl ⟨by rfl, ?_⟩) hS ?_
                    rotate_left
                    · intro w hw
                      go_simp
                      try with_reducible rfl
                    try simp only [Act.put, List.getElem_toArray, List.getElem_cons_succ, List.getElem_cons_zero, List.setIfInBounds_toArray, List.set_cons_zero, List.set_cons_succ]
                    refine wpAnyH_take (i := 17) (v := ?_) rfl (by kernel_rfl) (by kernel_rfl) (by kernel_rfl) (fun _ _ _ h => h) (Or.inl ⟨by rfl, ?_⟩) hS ?_
                    rotate_left
                    · intro w hw
                      go_simp
                      try with_reducible rfl
                    try simp only [Act.put, List.getElem_toArray, List.getElem_cons_succ, List.getElem_cons_zero, List.setIfInBounds_toArray, List.set_cons_zero, List.set_cons_succ]
                    refine wpAnyH_take (i := 18) (v := ?_) rfl (by kernel_rfl) (by kernel_rfl) (by kernel_rfl) (fun _ _ _ h => h) (Or.inl ⟨by rfl, ?_⟩) hS ?_
                    rotate_left
                    · intro w hw
                      go_simp
                      try with_reducible rfl
                    try simp only [Act.put, List.getElem_toArray, List.getElem_cons_succ, List.getElem_cons_zero, List.setIfInBounds_toArray, List.set_cons_zero, List.set_cons_succ]
                    refine wpAnyH_take (i := 19) (v := ?_) rfl (by kernel_rfl) (by kernel_rfl) (by kernel_rfl) (fun _ _ _ h => h) (Or.inl ⟨by rfl, ?_⟩) hS ?_
                    rotate_left
                    · intro w hw
                      go_simp
                      try with_reducible rfl
                    try simp only [Act.put, List.getElem_toArray, List.getElem_cons_succ, List.getElem_cons_zero, List.setIfInBounds_toArray, List.set_cons_zero, List.set_cons_succ]
                    refine wpAnyH_take (i := 20) (v := ?_) rfl (by kernel_rfl) (by kernel_rfl) (by kernel_rfl) (fun _ _ _ h => h) (Or.inl ⟨by rfl, ?_⟩) hS ?_
                    rotate_left
                    · intro w hw
                      go_simp
                      try with_reducible rfl
                    try simp only [Act.put, List.getElem_toArray, List.getElem_cons_succ, List.getElem_cons_zero, List.setIfInBounds_toArray, List.set_cons_zero, List.set_cons_succ]
                    refine wpAnyH_take (i := 21) (v := undef) rfl (by kernel_rfl) (by kernel_rfl) (by kernel_rfl) (fun _ _ _ h => h) (Or.inr ⟨by rfl, rfl⟩) hS ?_
                    try simp only [Act.put, List.getElem_toArray, List.getElem_cons_succ, List.getElem_cons_zero, List.setIfInBounds_toArray, List.set_cons_zero, List.set_cons_succ]
                    refine wpAnyH_take (i := 22) (v := undef) rfl (by kernel_rfl) (by kernel_rfl) (by kernel_rfl) (fun _ _ _ h => h) (Or.inr ⟨by rfl, rfl⟩) hS ?_
                    try simp only [Act.put, List.getElem_toArray, List.getElem_cons_succ, List.getElem_cons_zero, List.setIfInBounds_toArray, List.set_cons_zero, List.set_cons_succ]
                    refine wpAnyH_take (i := 23) (v := undef) rfl (by kernel_rfl) (by kernel_rfl) (by kernel_rfl) (fun _ _ _ h => h) (Or.inr ⟨by rfl, rfl⟩) hS ?_
                    try simp only [Act.put, List.getElem_toArray, List.getElem_cons_succ, List.getElem_cons_zero, List.setIfInBounds_toArray, List.set_cons_zero, List.set_cons_succ]
                    refine wpAnyH_take (i := 24) (v := undef) rfl (by kernel_rfl) (by kernel_rfl) (by kernel_rfl) (fun _ _ _ h => h) (Or.inr ⟨by rfl, rfl⟩) hS ?_
                    try simp only [Act.put, List.getElem_toArray, List.getElem_cons_succ, List.getElem_cons_zero, List.setIfInBounds_toArray, List.set_cons_zero, List.set_cons_succ]
                    refine wpAnyH_take (i := 25) (v := ?_) rfl (by kernel_rfl) (by kernel_rfl) (by kernel_rfl) (fun _ _ _ h => h) (Or.inl ⟨by rfl, ?_⟩) hS ?_
                    rotate_left
                    · intro w hw
                      go_simp
                      try with_reducible rfl
                    try simp only [Act.put, List.getElem_toArray, List.getElem_cons_succ, List.getElem_cons_zero, List.setIfInBounds_toArray, List.set_cons_zero, List.set_cons_succ]
                    refine wpAnyH_done (by kernel_rfl) ?_ _
                    go_wp2_with fail
                    go_returns
                    obtain ⟨Ar, cr, rfl, hs⟩ := (HA.out.fresh H6.out).seqs
                    exact ⟨Ar, cr, L, n, 2, rfl, hs, by simpa using HRd.out _ (Rd.stop E.out), HB.out.trans (H6.out.mono HB.out.size)⟩
                  · have E := Lib.hid (G5.out (by omega) (by omega) (by omega) (HGD.out.2 ⟨HSE.out, by omega, by omega⟩))
                    have d5 : decide (4 < (kk : Int)) = false := by simp; omega
                    refine wp_region_held_drew (S := fun w' => Hid (Below wr.heap.size wr w')) (by kernel_rfl) (Lib.hid (Below.refl _ _).drew) (fun hS => ?_)
                    refine wpAnyH_take (i := 0) (v := ?_) rfl (by kernel_rfl) (by kernel_rfl) (by kernel_rfl) (fun _ _ _ h => h) (Or.inl ⟨by rfl, ?_⟩) hS ?_
                    rotate_left
                    · intro w hw
                      go_simp
                      try with_reducible rfl
                    try simp only [Act.put, List.getElem_toArray, List.getElem_cons_succ, List.getElem_cons_zero, List.setIfInBounds_toArray, List.set_cons_zero, List.set_cons_succ]
                    refine wpAnyH_take (i := 1) (v := ?_) rfl (by kernel_rfl) (by kernel_rfl) (by kernel_rfl) (fun _ _ _ h => h) (Or.inl ⟨by rfl, ?_⟩) hS ?_
                    rotate_left
                    · intro w hw
                      go_simp
                      try with_reducible rfl
                    try simp only [Act.put, List.getElem_toArray, List.getElem_cons_succ, List.getElem_cons_zero, List.setIfInBounds_toArray, List.set_cons_zero, List.set_cons_succ]
                    refine wpAnyH_take (i := 2) (v := ?_) rfl (by kernel_rfl) (by kernel_rfl) (by kernel_rfl) (fun _ _ _ h => h) (Or.inl ⟨by rfl, ?_⟩) hS ?_
                    rotate_left
                    · intro w hw
                      go_simp
                      try with_reducible rfl
                    try simp only [Act.put, List.getElem_toArray, List.getElem_cons_succ, List.getElem_cons_zero, List.setIfInBounds_toArray, List.set_cons_zero, List.set_cons_succ]
                    refine wpAnyH_take (i := 3) (v := ?_) rfl (by kernel_rfl) (by kernel_rfl) (by kernel_rfl) (fun _ _ _ h => h) (Or.inl ⟨by rfl, ?_⟩) hS ?_
                    rotate_left
                    · intro w hw
                      go_simp
                      try with_reducible rfl
                    try simp only [Act.put, List.getElem_toArray, List.getElem_cons_succ, List.getElem_cons_zero, List.setIfInBounds_toArray, List.set_cons_zero, List.set_cons_succ]
                    refine wpAnyH_take (i := 4) (v := ?_) rfl (by kernel_rfl) (by kernel_rfl) (by kernel_rfl) (fun _ _ _ h => h) (Or.inl ⟨by rfl, ?_⟩) hS ?_
                    rotate_left
                    · intro w hw
                      go_simp
                      try with_reducible rfl
                    try simp only [Act.put, List.getElem_toArray, List.getElem_cons_succ, List.getElem_cons_zero, List.setIfInBounds_toArray, List.set_cons_zero, List.set_cons_succ]
                    refine wpAnyH_take (i := 5) (v := ?_) rfl (by kernel_rfl) (by kernel_rfl) (by kernel_rfl) (fun _ _ _ h => h) (Or.inl ⟨by rfl, ?_⟩) hS ?_
                    rotate_left
                    · intro w hw
                      have hc := run_str7 (c := c - a1) (HLh.out.below (hw.out.mono HB.out.size)) l7
                      go_simp
                      try with_reducible rfl
                    try simp only [Act.put, List.getElem_toArray, List.getElem_cons_succ, List.getElem_cons_zero, List.setIfInBounds_toArray, List.set_cons_zero, List.set_cons_succ]
                    refine wpAnyH_take (i := 6) (v := ?_) rfl (by kernel_rfl) (by kernel_rfl) (by kernel_rfl) (fun _ _ _ h => h) (Or.inl ⟨by rfl, ?_⟩) hS ?_
                    rotate_left
                    · intro w hw
                      go_simp
                      try with_reducible rfl
                    try simp only [Act.put, List.getElem_toArray, List.getElem_cons_succ, List.getElem_cons_zero, List.setIfInBounds_toArray, List.set_cons_zero, List.set_cons_succ]
                    refine wpAnyH_take (i := 7) (v := ?_) rfl (by kernel_rfl) (by kernel_rfl) (by kernel_rfl) (fun _ _ _ h => h) (Or.inl ⟨by rfl, ?_⟩) hS ?_
                    rotate_left
                    · intro w hw
                      go_simp
                      try with_reducible rfl
                    try simp only [Act.put, List.getElem_toArray, List.getElem_cons_succ, List.getElem_cons_zero, List.setIfInBounds_toArray, List.set_cons_zero, List.set_cons_succ]
                    refine wpAnyH_ready (rs := [8]) (by kernel_rfl) (by simp) ?_
                    refine AllReadyH.cons rfl (fun K hK => ?_) AllReadyH.nil
                    go_simp
                    refine (HPC.out _ hS.out).mono ?_
                    rintro e W6 ⟨v6, rfl, ho6, hb6⟩
                    obtain ⟨Ap, cp, rfl, k1, k2, k3⟩ := own_parts ho6
                    have H6 := Lib.hid (hS.out.trans (hb6.mono hS.out.size))
                    have L6 := Lib.hid k3
                    have hcp7 : ∀ W : World, Sem.run Tryz.prog (Instr.slice 24 (.slice Ap P.length cp) none (some (.int .i64 7)) none) W = .ok (.slice Ap 7 cp) W := cut_to Ap P.length cp 7 (by have := HPL.out; omega) k1 k2
                    clear ho6 hb6 k3
                    go_wp2_with fail
                    refine hK.out _ _ H6 (fun _ => ?_)
                    clear hK K hS
                    refine wpAnyH_other (S' := fun w' => Hid (Below W6.heap.size W6 w')) (fun w hw => Lib.hid (H6.out.trans (hw.out.mono H6.out.size))) _ _ _ _ ?_
                    have hS : Hid (Below W6.heap.size W6 W6) := Lib.hid (Below.refl _ _)
                    try simp only [Act.put, List.getElem_toArray, List.getElem_cons_succ, List.getElem_cons_zero, List.setIfInBounds_toArray, List.set_cons_zero, List.set_cons_succ]
                    refine wpAnyH_take (i := 9) (v := ?_) rfl (by kernel_rfl) (by kernel_rfl) (by kernel_rfl) (fun _ _ _ h => h) (Or.inl ⟨by rfl, ?_⟩) hS ?_
                    rotate_left
                    · intro w hw
                      go_simp
                      try with_reducible rfl
                    try simp only [Act.put, List.getElem_toArray, List.getElem_cons_succ, List.getElem_cons_zero, List.setIfInBounds_toArray, List.set_cons_zero, List.set_cons_succ]
                    refine wpAnyH_take (i := 10) (v := ?_) rfl (by kernel_rfl) (by kernel_rfl) (by kernel_rfl) (fun _ _ _ h => h) (Or.inl ⟨by rfl, ?_⟩) hS ?_
                    rotate_left
                    · intro w hw
                      have hc := run_str7 (c := cp) ((L6.out.below hw.out).front (by rw [List.map_take]; exact List.take_prefix _ _)) hPt
                      go_simp
                      try with_reducible rfl
                    try simp only [Act.put, List.getElem_toArray, List.getElem_cons_succ, List.getElem_cons_zero, List.setIfInBounds_toArray, List.set_cons_zero, List.set_cons_succ]
                    refine wpAnyH_take (i := 11) (v := ?_) rfl (by kernel_rfl) (by kernel_rfl) (by kernel_rfl) (fun _ _ _ h => h) (Or.inl ⟨by rfl, ?_⟩) hS ?_
                    rotate_left
                    · intro w hw
                      have hc := HQ8.out
                      go_simp
                      try with_reducible rfl
                    try simp only [Act.put, List.getElem_toArray, List.getElem_cons_succ, List.getElem_cons_zero, List.setIfInBounds_toArray, List.set_cons_zero, List.set_cons_succ]
                    refine wpAnyH_take (i := 12) (v := ?_) rfl (by kernel_rfl) (by kernel_rfl) (by kernel_rfl) (fun _ _ _ h => h) (Or.inl ⟨by rfl, ?_⟩) hS ?_
                    rotate_left
                    · intro w hw
                      go_simp
                      try with_reducible rfl
                    try simp only [Act.put, List.getElem_toArray, List.getElem_cons_succ, List.getElem_cons_zero, List.setIfInBounds_toArray, List.set_cons_zero, List.set_cons_succ]
                    refine wpAnyH_take (i := 13) (v := ?_) rfl (by kernel_rfl) (by kernel_rfl) (by kernel_rfl) (fun _ _ _ h => h) (Or.inl ⟨by rfl, ?_⟩) hS ?_
                    rotate_left
                    · intro w hw
                      go_simp
                      try with_reducible rfl
                    try simp only [Act.put, List.getElem_toArray, List.getElem_cons_succ, List.getElem_cons_zero, List.setIfInBounds_toArray, List.set_cons_zero, List.set_cons_succ]
                    refine wpAnyH_take (i := 14) (v := ?_) rfl (by kernel_rfl) (by kernel_rfl) (by kernel_rfl) (fun _ _ _ h => h) (Or.inl ⟨by rfl, ?_⟩) hS ?_
                    rotate_left
                    · intro w hw
                      go_simp
                      try with_reducible rfl
                    try simp only [Act.put, List.getElem_toArray, List.getElem_cons_succ, List.getElem_cons_zero, List.setIfInBounds_toArray, List.set_cons_zero, List.set_cons_succ]
                    refine wpAnyH_take (i := 15) (v := ?_) rfl (by kernel_rfl) (by kernel_rfl) (by kernel_rfl) (fun _ _ _ h => h) (Or.inl ⟨by rfl, ?_⟩) hS ?_
                    rotate_left
                    · intro w hw
                      go_simp
                      try with_reducible rfl
                    try simp only [Act.put, List.getElem_toArray, List.getElem_cons_succ, List.getElem_cons_zero, List.setIfInBounds_toArray, List.set_cons_zero, List.set_cons_succ]
                    refine wpAnyH_take (i := 16) (v := ?_) rfl (by kernel_rfl) (by kernel_rfl) (by kernel_rfl) (fun _ _ _ h => h) (Or.inl ⟨by rfl, ?_⟩) hS ?_
                    rotate_left
                    · intro w hw
                      go_simp
                      try with_reducible rfl
                    try simp only [Act.put, List.getElem_toArray, List.getElem_cons_succ, List.getElem_cons_zero, List.setIfInBounds_toArray, List.set_cons_zero, List.set_cons_succ]
                    refine wpAnyH_take (i := 17) (v := ?_) rfl (by kernel_rfl) (by kernel_rfl) (by kernel_rfl) (fun _ _ _ h => h) (Or.inl ⟨by rfl, ?_⟩) hS ?_
                    rotate_left
                    · intro w hw
                      go_simp
                      try with_reducible rfl
                    try simp only [Act.put, List.getElem_toArray, List.getElem_cons_succ, List.getElem_cons_zero, List.setIfInBounds_toArray, List.set_cons_zero, List.set_cons_succ]
                    refine wpAnyH_take (i := 18) (v := ?_) rfl (by kernel_rfl) (by kernel_rfl) (by kernel_rfl) (fun _ _ _ h => h) (Or.inl ⟨by rfl, ?_⟩) hS ?_
                    rotate_left
                    · intro w hw
                      go_simp
                      try with_reducible rfl
                    try simp only [Act.put, List.getElem_toArray, List.getElem_cons_succ, List.getElem_cons_zero, List.setIfInBounds_toArray, List.set_cons_zero, List.set_cons_succ]
                    refine wpAnyH_take (i := 19) (v := ?_) rfl (by kernel_rfl) (by kernel_rfl) (by kernel_rfl) (fun _ _ _ h => h) (Or.inl ⟨by rfl, ?_⟩) hS ?_
                    rotate_left
                    · intro w hw
                      go_simp
                      try with_reducible rfl
                    try simp only [Act.put, List.getElem_toArray, List.getElem_cons_succ, List.getElem_cons_zero, List.setIfInBounds_toArray, List.set_cons_zero, List.set_cons_succ]
                    refine wpAnyH_take (i := 20) (v := ?_) rfl (by kernel_rfl) (by kernel_rfl) (by kernel_rfl) (fun _ _ _ h => h) (Or.inl ⟨by rfl, ?_⟩) hS ?_
                    rotate_left
                    · intro w hw
                      go_simp
                      try with_reducible rfl
                    try simp only [Act.put, List.getElem_toArray, List.getElem_cons_succ, List.getElem_cons_zero, List.setIfInBounds_toArray, List.set_cons_zero, List.set_cons_succ]
                    refine wpAnyH_take (i := 21) (v := ?_) rfl (by kernel_rfl) (by kernel_rfl) (by kernel_rfl) (fun _ _ _ h => h) (Or.inl ⟨by rfl, ?_⟩) hS ?_
                    rotate_left
                    · intro w hw
                      go_simp
                      try with_reducible rfl
                    try simp only [Act.put, List.getElem_toArray, List.getElem_cons_succ, List.getElem_cons_zero, List.setIfInBounds_toArray, List.set_cons_zero, List.set_cons_succ]
                    refine wpAnyH_take (i := 22) (v := ?_) rfl (by kernel_rfl) (by kernel_rfl) (by kernel_rfl) (fun _ _ _ h => h) (Or.inl ⟨by rfl, ?_⟩) hS ?_
                    rotate_left
                    · intro w hw
                      go_simp
                      try with_reducible rfl
                    try simp only [Act.put, List.getElem_toArray, List.getElem_cons_succ, List.getElem_cons_zero, List.setIfInBounds_toArray, List.set_cons_zero, List.set_cons_succ]
                    refine wpAnyH_take (i := 23) (v := ?_) rfl (by kernel_rfl) (by kernel_rfl) (by kernel_rfl) (fun _ _ _ h => h) (Or.inl ⟨by rfl, ?_⟩) hS ?_
                    rotate_left
                    · intro w hw
                      go_simp
                      try with_reducible rfl
                    try simp only [Act.put, List.getElem_toArray, List.getElem_cons_succ, List.getElem_cons_zero, List.setIfInBounds_toArray, List.set_cons_zero, List.set_cons_succ]
                    refine wpAnyH_take (i := 24) (v := ?_) rfl (by kernel_rfl) (by kernel_rfl) (by kernel_rfl) (fun _ _ _ h => h) (Or.inl ⟨by rfl, ?_⟩) hS ?_
                    rotate_left
                    · intro w hw
                      go_simp
                      try with_reducible rfl
                    try simp only [Act.put, List.getElem_toArray, List.getElem_cons_succ, List.getElem_cons_zero, List.setIfInBounds_toArray, List.set_cons_zero, List.set_cons_succ]
                    refine wpAnyH_take (i := 25) (v := ?_) rfl (by kernel_rfl) (by kernel_rfl) (by kernel_rfl) (fun _ _ _ h => h) (Or.inl ⟨by rfl, ?_⟩) hS ?_
                    rotate_left
                    · intro w hw
                      go_simp
                      try with_reducible rfl
                    try simp only [Act.put, List.getElem_toArray, List.getElem_cons_succ, List.getElem_cons_zero, List.setIfInBounds_toArray, List.set_cons_zero, List.set_cons_succ]
                    refine wpAnyH_done (by kernel_rfl) ?_ _
                    have HLd6 := Lib.hid (HLd.out.later fun p hp => H6.out.cell (Nat.lt_of_lt_of_le hp HB.out.size))
                    have hkk4 : kk = 1 ∨ kk = 2 ∨ kk = 3 ∨ kk = 4 := by omega
                    clear hS HPC HQ7 hcp7 L6 HLh HP8 HPL d4 d5 d1 d2
                    rcases hkk4 with rfl | rfl | rfl | rfl <;> cases f
                    · obtain ⟨v8, W8, hr8, ho8, on8⟩ := append_bytes (c := c - (a1 + 7)) (own_later HO.out H6.out) HLd6.out (by have := HLD.out; omega) (Nat.le_trans HB.out.size H6.out.size)
                      rw [HLD.out] at hr8
                      have hb8 := on8.below (own_later HO.out H6.out) (Nat.le_trans HB.out.size H6.out.size)
                      have HR8 := Lib.hid hr8
                      have hnl : (nw ++ d).length ≤ a1 + (7 + m) := by have := HLD.out; rw [List.length_append]; omega
                      have hn8 : ∀ x, x ∈ nw ++ d → x < 256 := fun x hx => (List.mem_append.1 hx).elim (HN8.out x) (HD8.out x)
                      have HRF : Hid (∀ R, Rd b (a1 + (7 + m)) false [] (a1 + (7 + m)) (L.map (·.bs) ++ [nw ++ d]) R → Rd b 0 false [] 0 [] R) := Lib.hid (fun R hR => HRd.out R (.full E.out rfl (by decide) hR))
                      generalize nw ++ d = nd at *
                      obtain ⟨A8, c8, rfl, y1, y2, y3⟩ := own_parts ho8
                      obtain ⟨A9, c9, W9, hr9, ho9, hb9⟩ := fresh_bytes A8 c8 W8.heap.size nd W8 y3 (by omega)
                      obtain ⟨A9', c9', e9, z1, z2, z3⟩ := own_parts ho9
                      injection e9 with e91 e92 e93
                      subst e91 e93
                      have HA9 := (((HA.out.fresh H6.out).grew on8 (own_later HO.out H6.out)).other (vn' := .slice A9 nd.length c9) fun k hk => (ho9.lt k hk).1).fresh hb9
                      have hz8 : w.heap.size ≤ W8.heap.size := Nat.le_trans (Nat.le_trans HB.out.size H6.out.size) on8.keep.size
                      obtain ⟨vo, Wo, hro, HAo, ono⟩ := Acc.more HA9 (own_lower ho9 hz8) (fun j hj => by cases hj) z1 z2 hn8 (Nat.le_trans hz8 hb9.size) (by omega)
                      have hbo := ono.below HA9.own (Nat.le_trans hz8 hb9.size)
                      have HRo := Lib.hid hro
                      have HR9 := Lib.hid hr9
                      have HBo := Lib.hid ((((HB.out.trans (H6.out.mono HB.out.size)).trans hb8).trans (hb9.mono hz8)).trans hbo)
                      have HAO := Lib.hid HAo
                      clear hr8 ho8 on8 hb8 hr9 ho9 hb9 HA9 hro HAo ono hbo y3 z3
                      go_wp2_with (at_builtin; first | refine wpList_append_run rfl _ _ 24 rfl rfl rfl HR8.out ?_ | refine wpList_append_run rfl _ _ 24 rfl rfl rfl HR9.out ?_ | refine wpList_append_run rfl _ _ 82 rfl rfl rfl HRo.out ?_)
                      go_roundw
                      case rel => exact ⟨L ++ [⟨A9, c9, nd⟩], a1 + (7 + m), a1 + (7 + m), [], false, by go_num, by go_num, rfl, by omega, by simp; omega, by simp, Lib.hid (World.ownsRow_nil _ _ _ _), HAO, Lib.hid (by simp), Lib.hid (fun R hR => HRF.out R (by simpa using hR)), HBo⟩
                      case measure => simp [intOf]; omega
                    · go_wp2_with fail
                      go_returns
                      obtain ⟨Ar, cr, rfl, hs⟩ := (HA.out.fresh H6.out).seqs
                      exact ⟨Ar, cr, L, n, 2, rfl, hs, HRd.out _ (Rd.bad E.out rfl), HB.out.trans (H6.out.mono HB.out.size)⟩
                    · obtain ⟨v8, W8, hr8, ho8, on8⟩ := append_bytes (c := c - (a1 + 7)) (own_later HO.out H6.out) HLd6.out (by have := HLD.out; omega) (Nat.le_trans HB.out.size H6.out.size)
                      rw [HLD.out] at hr8
                      have hb8 := on8.below (own_later HO.out H6.out) (Nat.le_trans HB.out.size H6.out.size)
                      have HR8 := Lib.hid hr8
                      have HO8 := Lib.hid ho8
                      have HB8 := Lib.hid ((HB.out.trans (H6.out.mono HB.out.size)).trans hb8)
                      have HA8 := Lib.hid ((HA.out.fresh H6.out).grew on8 (own_later HO.out H6.out))
                      clear hr8 ho8 on8 hb8
                      go_wp2_with (at_builtin; refine wpList_append_run rfl _ _ 24 rfl rfl rfl HR8.out ?_)
                      go_roundw
                      case rel => exact ⟨L, n, a1 + (7 + m), nw ++ d, true, rfl, by go_num, rfl, by omega, by omega, by have := HLD.out; rw [List.length_append]; omega, HO8, HA8, Lib.hid (fun x hx => (List.mem_append.1 hx).elim (HN8.out x) (HD8.out x)), Lib.hid (fun R hR => HRd.out R (.more E.out rfl (by decide) hR)), HB8⟩
                      case measure => simp [intOf]; omega
                    · go_wp2_with fail
                      go_returns
                      obtain ⟨Ar, cr, rfl, hs⟩ := (HA.out.fresh H6.out).seqs
                      exact ⟨Ar, cr, L, n, 2, rfl, hs, HRd.out _ (Rd.bad E.out rfl), HB.out.trans (H6.out.mono HB.out.size)⟩
                    · go_wp2_with fail
                      go_returns
                      obtain ⟨Ar, cr, rfl, hs⟩ := (HA.out.fresh H6.out).seqs
                      exact ⟨Ar, cr, L, n, 2, rfl, hs, HRd.out _ (Rd.bad E.out rfl), HB.out.trans (H6.out.mono HB.out.size)⟩
                    · obtain ⟨v8, W8, hr8, ho8, on8⟩ := append_bytes (c := c - (a1 + 7)) (own_later HO.out H6.out) HLd6.out (by have := HLD.out; omega) (Nat.le_trans HB.out.size H6.out.size)
                      rw [HLD.out] at hr8
                      have hb8 := on8.below (own_later HO.out H6.out) (Nat.le_trans HB.out.size H6.out.size)
                      have HR8 := Lib.hid hr8
                      have HO8 := Lib.hid ho8
                      have HB8 := Lib.hid ((HB.out.trans (H6.out.mono HB.out.size)).trans hb8)
                      have HA8 := Lib.hid ((HA.out.fresh H6.out).grew on8 (own_later HO.out H6.out))
                      clear hr8 ho8 on8 hb8
                      go_wp2_with (at_builtin; refine wpList_append_run rfl _ _ 24 rfl rfl rfl HR8.out ?_)
                      go_roundw
                      case rel => exact ⟨L, n, a1 + (7 + m), nw ++ d, true, rfl, by go_num, rfl, by omega, by omega, by have := HLD.out; rw [List.length_append]; omega, HO8, HA8, Lib.hid (fun x hx => (List.mem_append.1 hx).elim (HN8.out x) (HD8.out x)), Lib.hid (fun R hR => HRd.out R (.more E.out rfl (by decide) hR)), HB8⟩
                      case measure => simp [intOf]; omega
                    · go_wp2_with fail
                      go_returns
                      obtain ⟨Ar, cr, rfl, hs⟩ := (HA.out.fresh H6.out).seqs
                      exact ⟨Ar, cr, L, n, 2, rfl, hs, HRd.out _ (Rd.bad E.out rfl), HB.out.trans (H6.out.mono HB.out.size)⟩
                    · obtain ⟨v8, W8, hr8, ho8, on8⟩ := append_bytes (c := c - (a1 + 7)) (own_later HO.out H6.out) HLd6.out (by have := HLD.out; omega) (Nat.le_trans HB.out.size H6.out.size)
                      rw [HLD.out] at hr8
                      have hb8 := on8.below (own_later HO.out H6.out) (Nat.le_trans HB.out.size H6.out.size)
                      have HR8 := Lib.hid hr8
                      have hnl : (nw ++ d).length ≤ a1 + (7 + m) := by have := HLD.out; rw [List.length_append]; omega
                      have hn8 : ∀ x, x ∈ nw ++ d → x < 256 := fun x hx => (List.mem_append.1 hx).elim (HN8.out x) (HD8.out x)
                      have HRF : Hid (∀ R, Rd b (a1 + (7 + m)) false [] (a1 + (7 + m)) (L.map (·.bs) ++ [nw ++ d]) R → Rd b 0 false [] 0 [] R) := Lib.hid (fun R hR => HRd.out R (.full E.out rfl (by decide) hR))
                      generalize nw ++ d = nd at *
                      obtain ⟨A8, c8, rfl, y1, y2, y3⟩ := own_parts ho8
                      obtain ⟨A9, c9, W9, hr9, ho9, hb9⟩ := fresh_bytes A8 c8 W8.heap.size nd W8 y3 (by omega)
                      obtain ⟨A9', c9', e9, z1, z2, z3⟩ := own_parts ho9
                      injection e9 with e91 e92 e93
                      subst e91 e93
                      have HA9 := (((HA.out.fresh H6.out).grew on8 (own_later HO.out H6.out)).other (vn' := .slice A9 nd.length c9) fun k hk => (ho9.lt k hk).1).fresh hb9
                      have hz8 : w.heap.size ≤ W8.heap.size := Nat.le_trans (Nat.le_trans HB.out.size H6.out.size) on8.keep.size
                      obtain ⟨vo, Wo, hro, HAo, ono⟩ := Acc.more HA9 (own_lower ho9 hz8) (fun j hj => by cases hj) z1 z2 hn8 (Nat.le_trans hz8 hb9.size) (by omega)
                      have hbo := ono.below HA9.own (Nat.le_trans hz8 hb9.size)
                      have HRo := Lib.hid hro
                      have HR9 := Lib.hid hr9
                      have HBo := Lib.hid ((((HB.out.trans (H6.out.mono HB.out.size)).trans hb8).trans (hb9.mono hz8)).trans hbo)
                      have HAO := Lib.hid HAo
                      clear hr8 ho8 on8 hb8 hr9 ho9 hb9 HA9 hro HAo ono hbo y3 z3
                      go_wp2_with (at_builtin; first | refine wpList_append_run rfl _ _ 24 rfl rfl rfl HR8.out ?_ | refine wpList_append_run rfl _ _ 24 rfl rfl rfl HR9.out ?_ | refine wpList_append_run rfl _ _ 82 rfl rfl rfl HRo.out ?_)
                      go_roundw
                      case rel => exact ⟨L ++ [⟨A9, c9, nd⟩], a1 + (7 + m), a1 + (7 + m), [], false, by go_num, by go_num, rfl, by omega, by simp; omega, by simp, Lib.hid (World.ownsRow_nil _ _ _ _), HAO, Lib.hid (by simp), Lib.hid (fun R hR => HRF.out R (by simpa using hR)), HBo⟩
                      case measure => simp [intOf]; omega
              · have HQ7 : ∀ W : World, Sem.run Tryz.prog (binOp .neq 9 (.string (str (r.take 7))) (.string (str (P.take 7)))) W = .ok (.bool true) W := fun W => by rw [HQ.out W, decide_eq_true hs]
                have HQ8 := Lib.hid (show ((str (r.take 7)).toList == (str (P.take 7)).toList) = false from by rw [str_eq H78.out (fun x hx => HP8.out x (List.mem_of_mem_take hx)), decide_eq_false hs])
                have E := Lib.hid (G4.out (by omega) (by omega) (by omega) fun hg => hs (HST.out.2 (HGD.out.1 hg).1))
                clear hs HQ
                refine wp_region_held_drew (S := fun w' => Hid (Below wr.heap.size wr w')) (by kernel_rfl) (Lib.hid (Below.refl _ _).drew) (fun hS => ?_)
                refine wpAnyH_take (i := 0) (v := ?_) rfl (by kernel_rfl) (by kernel_rfl) (by kernel_rfl) (fun _ _ _ h => h) (Or.inl ⟨by rfl, ?_⟩) hS ?_
                rotate_left
                · intro w hw
                  go_simp
                  try with_reducible rfl
                try simp only [Act.put, List.getElem_toArray, List.getElem_cons_succ, List.getElem_cons_zero, List.setIfInBounds_toArray, List.set_cons_zero, List.set_cons_succ]
                refine wpAnyH_take (i := 1) (v := ?_) rfl (by kernel_rfl) (by kernel_rfl) (by kernel_rfl) (fun _ _ _ h => h) (Or.inl ⟨by rfl, ?_⟩) hS ?_
                rotate_left
                · intro w hw
                  go_simp
                  try with_reducible rfl
                try simp only [Act.put, List.getElem_toArray, List.getElem_cons_succ, List.getElem_cons_zero, List.setIfInBounds_toArray, List.set_cons_zero, List.set_cons_succ]
                refine wpAnyH_take (i := 2) (v := ?_) rfl (by kernel_rfl) (by kernel_rfl) (by kernel_rfl) (fun _ _ _ h => h) (Or.inl ⟨by rfl, ?_⟩) hS ?_
                rotate_left
                · intro w hw
                  go_simp
                  try with_reducible rfl
                try simp only [Act.put, List.getElem_toArray, List.getElem_cons_succ, List.getElem_cons_zero, List.setIfInBounds_toArray, List.set_cons_zero, List.set_cons_succ]
                refine wpAnyH_take (i := 3) (v := ?_) rfl (by kernel_rfl) (by kernel_rfl) (by kernel_rfl) (fun _ _ _ h => h) (Or.inl ⟨by rfl, ?_⟩) hS ?_
                rotate_left
                · intro w hw
                  go_simp
                  try with_reducible rfl
                try simp only [Act.put, List.getElem_toArray, List.getElem_cons_succ, List.getElem_cons_zero, List.setIfInBounds_toArray, List.set_cons_zero, List.set_cons_succ]
                refine wpAnyH_take (i := 4) (v := ?_) rfl (by kernel_rfl) (by kernel_rfl) (by kernel_rfl) (fun _ _ _ h => h) (Or.inl ⟨by rfl, ?_⟩) hS ?_
                rotate_left
                · intro w hw
                  go_simp
                  try with_reducible rfl
                try simp only [Act.put, List.getElem_toArray, List.getElem_cons_succ, List.getElem_cons_zero, List.setIfInBounds_toArray, List.set_cons_zero, List.set_cons_succ]
                refine wpAnyH_take (i := 5) (v := ?_) rfl (by kernel_rfl) (by kernel_rfl) (by kernel_rfl) (fun _ _ _ h => h) (Or.inl ⟨by rfl, ?_⟩) hS ?_
                rotate_left
                · intro w hw
                  have hc := run_str7 (c := c - a1) (HLh.out.below (hw.out.mono HB.out.size)) l7
                  go_simp
                  try with_reducible rfl
                try simp only [Act.put, List.getElem_toArray, List.getElem_cons_succ, List.getElem_cons_zero, List.setIfInBounds_toArray, List.set_cons_zero, List.set_cons_succ]
                refine wpAnyH_take (i := 6) (v := ?_) rfl (by kernel_rfl) (by kernel_rfl) (by kernel_rfl) (fun _ _ _ h => h) (Or.inl ⟨by rfl, ?_⟩) hS ?_
                rotate_left
                · intro w hw
                  go_simp
                  try with_reducible rfl
                try simp only [Act.put, List.getElem_toArray, List.getElem_cons_succ, List.getElem_cons_zero, List.setIfInBounds_toArray, List.set_cons_zero, List.set_cons_succ]
                refine wpAnyH_take (i := 7) (v := ?_) rfl (by kernel_rfl) (by kernel_rfl) (by kernel_rfl) (fun _ _ _ h => h) (Or.inl ⟨by rfl, ?_⟩) hS ?_
                rotate_left
                · intro w hw
                  go_simp
                  try with_reducible rfl
                try simp only [Act.put, List.getElem_toArray, List.getElem_cons_succ, List.getElem_cons_zero, List.setIfInBounds_toArray, List.set_cons_zero, List.set_cons_succ]
                refine wpAnyH_ready (rs := [8]) (by kernel_rfl) (by simp) ?_
                refine AllReadyH.cons rfl (fun K hK => ?_) AllReadyH.nil
                go_simp
                refine (HPC.out _ hS.out).mono ?_
                rintro e W6 ⟨v6, rfl, ho6, hb6⟩
                obtain ⟨Ap, cp, rfl, k1, k2, k3⟩ := own_parts ho6
                have H6 := Lib.hid (hS.out.trans (hb6.mono hS.out.size))
                have L6 := Lib.hid k3
                have hcp7 : ∀ W : World, Sem.run Tryz.prog (Instr.slice 24 (.slice Ap P.length cp) none (some (.int .i64 7)) none) W = .ok (.slice Ap 7 cp) W := cut_to Ap P.length cp 7 (by have := HPL.out; omega) k1 k2
                clear ho6 hb6 k3
                go_wp2_with fail
                refine hK.out _ _ H6 (fun _ => ?_)
                clear hK K hS
                refine wpAnyH_other (S' := fun w' => Hid (Below W6.heap.size W6 w')) (fun w hw => Lib.hid (H6.out.trans (hw.out.mono H6.out.size))) _ _ _ _ ?_
                have hS : Hid (Below W6.heap.size W6 W6) := Lib.hid (Below.refl _ _)
                try simp only [Act.put, List.getElem_toArray, List.getElem_cons_succ, List.getElem_cons_zero, List.setIfInBounds_toArray, List.set_cons_zero, List.set_cons_succ]
                refine wpAnyH_take (i := 9) (v := ?_) rfl (by kernel_rfl) (by kernel_rfl) (by kernel_rfl) (fun _ _ _ h => h) (Or.inl ⟨by rfl, ?_⟩) hS ?_
                rotate_left
                · intro w hw
                  go_simp
                  try with_reducible rfl
                try simp only [Act.put, List.getElem_toArray, List.getElem_cons_succ, List.getElem_cons_zero, List.setIfInBounds_toArray, List.set_cons_zero, List.set_cons_succ]
                refine wpAnyH_take (i := 10) (v := ?_) rfl (by kernel_rfl) (by kernel_rfl) (by kernel_rfl) (fun _ _ _ h => h) (Or.inl ⟨by rfl, ?_⟩) hS ?_
                rotate_left
                · intro w hw
                  have hc := run_str7 (c := cp) ((L6.out.below hw.out).front (by rw [List.map_take]; exact List.take_prefix _ _)) hPt
                  go_simp
                  try with_reducible rfl
                try simp only [Act.put, List.getElem_toArray, List.getElem_cons_succ, List.getElem_cons_zero, List.setIfInBounds_toArray, List.set_cons_zero, List.set_cons_succ]
                refine wpAnyH_take (i := 11) (v := ?_) rfl (by kernel_rfl) (by kernel_rfl) (by kernel_rfl) (fun _ _ _ h => h) (Or.inl ⟨by rfl, ?_⟩) hS ?_
                rotate_left
                · intro w hw
                  have hc := HQ8.out
                  go_simp
                  try with_reducible rfl
                try simp only [Act.put, List.getElem_toArray, List.getElem_cons_succ, List.getElem_cons_zero, List.setIfInBounds_toArray, List.set_cons_zero, List.set_cons_succ]
                refine wpAnyH_take (i := 12) (v := ?_) rfl (by kernel_rfl) (by kernel_rfl) (by kernel_rfl) (fun _ _ _ h => h) (Or.inl ⟨by rfl, ?_⟩) hS ?_
                rotate_left
                · intro w hw
                  go_simp
                  try with_reducible rfl
                try simp only [Act.put, List.getElem_toArray, List.getElem_cons_succ, List.getElem_cons_zero, List.setIfInBounds_toArray, List.set_cons_zero, List.set_cons_succ]
                refine wpAnyH_take (i := 13) (v := undef) rfl (by kernel_rfl) (by kernel_rfl) (by kernel_rfl) (fun _ _ _ h => h) (Or.inr ⟨by rfl, rfl⟩) hS ?_
                try simp only [Act.put, List.getElem_toArray, List.getElem_cons_succ, List.getElem_cons_zero, List.setIfInBounds_toArray, List.set_cons_zero, List.set_cons_succ]
                refine wpAnyH_take (i := 14) (v := undef) rfl (by kernel_rfl) (by kernel_rfl) (by kernel_rfl) (fun _ _ _ h => h) (Or.inr ⟨by rfl, rfl⟩) hS ?_
                try simp only [Act.put, List.getElem_toArray, List.getElem_cons_succ, List.getElem_cons_zero, List.setIfInBounds_toArray, List.set_cons_zero, List.set_cons_succ]
                refine wpAnyH_take (i := 15) (v := ?_) rfl (by kernel_rfl) (by kernel_rfl) (by kernel_rfl) (fun _ _ _ h => h) (Or.inl ⟨by rfl, ?_⟩) hS ?_
                rotate_left
                · intro w hw
                  go_simp
                  try with_reducible rfl
                try simp only [Act.put, List.getElem_toArray, List.getElem_cons_succ, List.getElem_cons_zero, List.setIfInBounds_toArray, List.set_cons_zero, List.set_cons_succ]
                refine wpAnyH_take (i := 16) (v := ?_) rfl (by kernel_rfl) (by kernel_rfl) (by kernel_rfl) (fun _ _ _ h => h) (Or.inl ⟨by rfl, ?_⟩) hS ?_
                rotate_left
                · intro w hw
                  go_simp
                  try with_reducible rfl
                try simp only [Act.put, List.getElem_toArray, List.getElem_cons_succ, List.getElem_cons_zero, List.setIfInBounds_toArray, List.set_cons_zero, List.set_cons_succ]
                refine wpAnyH_take (i := 17) (v := undef) rfl (by kernel_rfl) (by kernel_rfl) (by kernel_rfl) (fun _ _ _ h => h) (Or.inr ⟨by rfl, rfl⟩) hS ?_
                try simp only [Act.put, List.getElem_toArray, List.getElem_cons_succ, List.getElem_cons_zero, List.setIfInBounds_toArray, List.set_cons_zero, List.set_cons_succ]
                refine wpAnyH_take (i := 18) (v := undef) rfl (by kernel_rfl) (by kernel_rfl) (by kernel_rfl) (fun _ _ _ h => h) (Or.inr ⟨by rfl, rfl⟩) hS ?_
                try simp only [Act.put, List.getElem_toArray, List.getElem_cons_succ, List.getElem_cons_zero, List.setIfInBounds_toArray, List.set_cons_zero, List.set_cons_succ]
                refine wpAnyH_take (i := 19) (v := ?_) rfl (by kernel_rfl) (by kernel_rfl) (by kernel_rfl) (fun _ _ _ h => h) (Or.inl ⟨by rfl, ?_⟩) hS ?_
                rotate_left
                · intro w hw
                  go_simp
                  try with_reducible rfl
                try simp only [Act.put, List.getElem_toArray, List.getElem_cons_succ, List.getElem_cons_zero, List.setIfInBounds_toArray, List.set_cons_zero, List.set_cons_succ]
                refine wpAnyH_take (i := 20) (v := ?_) rfl (by kernel_rfl) (by kernel_rfl) (by kernel_rfl) (fun _ _ _ h => h) (Or.inl ⟨by rfl, ?_⟩) hS ?_
                rotate_left
                · intro w hw
                  go_simp
                  try with_reducible rfl
                try simp only [Act.put, List.getElem_toArray, List.getElem_cons_succ, List.getElem_cons_zero, List.setIfInBounds_toArray, List.set_cons_zero, List.set_cons_succ]
                refine wpAnyH_take (i := 21) (v := undef) rfl (by kernel_rfl) (by kernel_rfl) (by kernel_rfl) (fun _ _ _ h => h) (Or.inr ⟨by rfl, rfl⟩) hS ?_
                try simp only [Act.put, List.getElem_toArray, List.getElem_cons_succ, List.getElem_cons_zero, List.setIfInBounds_toArray, List.set_cons_zero, List.set_cons_succ]
                refine wpAnyH_take (i := 22) (v := undef) rfl (by kernel_rfl) (by kernel_rfl) (by kernel_rfl) (fun _ _ _ h => h) (Or.inr ⟨by rfl, rfl⟩) hS ?_
                try simp only [Act.put, List.getElem_toArray, List.getElem_cons_succ, List.getElem_cons_zero, List.setIfInBounds_toArray, List.set_cons_zero, List.set_cons_succ]
                refine wpAnyH_take (i := 23) (v := undef) rfl (by kernel_rfl) (by kernel_rfl) (by kernel_rfl) (fun _ _ _ h => h) (Or.inr ⟨by rfl, rfl⟩) hS ?_
                try simp only [Act.put, List.getElem_toArray, List.getElem_cons_succ, List.getElem_cons_zero, List.setIfInBounds_toArray, List.set_cons_zero, List.set_cons_succ]
                refine wpAnyH_take (i := 24) (v := undef) rfl (by kernel_rfl) (by kernel_rfl) (by kernel_rfl) (fun _ _ _ h => h) (Or.inr ⟨by rfl, rfl⟩) hS ?_
                try simp only [Act.put, List.getElem_toArray, List.getElem_cons_succ, List.getElem_cons_zero, List.setIfInBounds_toArray, List.set_cons_zero, List.set_cons_succ]
                refine wpAnyH_take (i := 25) (v := ?_) rfl (by kernel_rfl) (by kernel_rfl) (by kernel_rfl) (fun _ _ _ h => h) (Or.inl ⟨by rfl, ?_⟩) hS ?_
                rotate_left
                · intro w hw
                  go_simp
                  try with_reducible rfl
                try simp only [Act.put, List.getElem_toArray, List.getElem_cons_succ, List.getElem_cons_zero, List.setIfInBounds_toArray, List.set_cons_zero, List.set_cons_succ]
                refine wpAnyH_done (by kernel_rfl) ?_ _
                go_wp2_with fail
                go_returns
                obtain ⟨Ar, cr, rfl, hs⟩ := (HA.out.fresh H6.out).seqs
                exact ⟨Ar, cr, L, n, 2, rfl, hs, by simpa using HRd.out _ (Rd.stop E.out), HB.out.trans (H6.out.mono HB.out.size)⟩
end Go.Proofs.YtnbknihaefkllaaGreatDoor.Fr
/- Files of a disk go and are renamed: what becomes of it. -/
namespace Go.Proofs.YtnbknihaefkllaaGreatDoor.Dk
set_option linter.unusedVariables false
set_option linter.unusedSimpArgs false
open Go.RowKit Go.Maps Lift Ik

def delM (l : List FM) (nm : ByteArray) : List FM := l.filter fun f => !decide (f.nm = nm)
def delF (l : List Fi) (nm : ByteArray) : List Fi := l.filter fun f => !decide (f.nm = nm)
theorem delF_told (l : List Fi) (nm : ByteArray) : (delF l nm).map Fi.m = delM (l.map Fi.m) nm := by
  unfold delF delM
  rw [List.filter_map]
  rfl
theorem delF_mem {l : List Fi} {nm : ByteArray} {x : Fi} : x ∈ delF l nm ↔ x ∈ l ∧ x.nm ≠ nm := by
  unfold delF
  rw [List.mem_filter]
  simp
theorem delF_pair {l : List Fi} {nm : ByteArray} (h : l.Pairwise sep) : (delF l nm).Pairwise sep := h.filter _
theorem delF_le (l : List Fi) (nm : ByteArray) : (delF l nm).length ≤ l.length := List.length_filter_le _ _
theorem delM_id {l : List FM} {nm : ByteArray} (h : ∀ x, x ∈ l → x.nm ≠ nm) : delM l nm = l := by
  unfold delM
  rw [List.filter_eq_self]
  intro x hx
  rw [decide_eq_false (h x hx)]
  rfl
def szO : Option FM → Nat
  | some f => f.bs.length
  | none => 0
theorem used_del {l : List FM} {nm : ByteArray} (hp : l.Pairwise fun a b => a.nm ≠ b.nm) : used (delM l nm) + szO (Dk.get l nm) = used l := by
  induction l with
  | nil => rfl
  | cons a l ih =>
    obtain ⟨h1, h2⟩ := List.pairwise_cons.1 hp
    have e : ∀ (b : FM) (r : List FM), used (b :: r) = b.bs.length + used r := fun b r => by simp [used]
    have ih := ih h2
    by_cases ha : a.nm = nm
    · have h3 : delM (a :: l) nm = delM l nm := by unfold delM; rw [List.filter_cons, decide_eq_true ha]; rfl
      have h4 : Dk.get (a :: l) nm = some a := by unfold Dk.get; rw [List.find?_cons, decide_eq_true ha]
      rw [h3, h4, delM_id (fun x hx e1 => h1 x hx (by rw [ha, e1])), e]
      show used l + a.bs.length = _
      omega
    · have h3 : delM (a :: l) nm = a :: delM l nm := by unfold delM; rw [List.filter_cons, decide_eq_false ha]; rfl
      have h4 : Dk.get (a :: l) nm = Dk.get l nm := by unfold Dk.get; rw [List.find?_cons, decide_eq_false ha]
      rw [h3, h4, e, e]
      omega
theorem del_ent (fs : List Fi) (nm : ByteArray) : (DataW.map (fs.map ent)).del (kl nm) = .map ((delF fs nm).map ent) := by
  unfold DataW.del delF
  simp only [List.filter_map]
  congr 1
  congr 1
  refine List.filter_congr fun x _ => ?_
  show (!(kl x.nm).sameKey (kl nm)) = _
  rw [kl_same]
theorem put_ent' (fs : List Fi) (nm : ByteArray) (d : DataW Unit) : (DataW.map (fs.map ent)).put (kl nm) d = .map (DataW.insert (kl nm, d) ((delF fs nm).map ent)) := by
  unfold DataW.put delF
  simp only [List.filter_map]
  congr 2
  congr 1
  refine List.filter_congr fun x _ => ?_
  show (!(kl x.nm).sameKey (kl nm)) = _
  rw [kl_same]
theorem look_own {w : World} {b n : Nat} {fs : List Fi} (hm : w.ownsMap Tryz.prog 9 ptrR b n (.map (fs.map ent))) (nm : ByteArray) (hl : nm.size ≤ 40) :
    Sem.run Tryz.prog (Instr.lookup 52 (.map (some b)) (.string nm) false) w = .ok (ptrV (look fs nm)) w := by
  have hkey : keyOf Tryz.prog 9 (.string nm) = some (kl nm) := WideMaps.keyOf_string_mk Tryz.underlying9 (by unfold maxLen; omega)
  obtain ⟨v, ps, hrun, hv⟩ := hm.lookup law Tryz.underlying52 (zeroE w) (zd := .nil) (zp := []) rfl hkey
  rw [at_ent] at hv
  have e : v = ptrV (look fs nm) := by
    cases hlk : look fs nm with
    | none => rw [hlk] at hv; exact ptrR_nil hv
    | some f => rw [hlk] at hv; exact ptrR_some hv
  rw [hrun, e]
/-- 'd.files[nm] = f', whether there was a file of that name or not. -/
theorem store_run' {w : World} {b n blk : Nat} {fs : List Fi} {nm : ByteArray} (h : w.ownsMap Tryz.prog 9 ptrR b n (.map (fs.map ent))) (hn : n ≤ 1000) (hl : nm.size ≤ 40) (v : Value) (bs : List Nat) (syn : Nat) :
    ∃ w', Sem.run Tryz.prog (Instr.mapUpdate 52 (.map (some b)) (.string nm) (.pointer (some ⟨blk, 0, none⟩))) w = .ok () w' ∧
      w'.ownsMap Tryz.prog 9 ptrR b (insF ⟨nm, blk, v, bs, syn⟩ (delF fs nm)).length (.map ((insF ⟨nm, blk, v, bs, syn⟩ (delF fs nm)).map ent)) ∧ Keep (· = b) w w' := by
  have hkey : keyOf Tryz.prog 9 (.string nm) = some (kl nm) := WideMaps.keyOf_string_mk Tryz.underlying9 (by unfold maxLen; omega)
  obtain ⟨w', hrun, ho, ht⟩ := h.store law Tryz.underlying52 (by unfold maxLen; omega) hkey (show ptrR (.pointer (some ⟨blk, 0, none⟩)) = some (dat blk, []) from rfl)
  rw [put_ent'] at ho
  have e : (insF ⟨nm, blk, v, bs, syn⟩ (delF fs nm)).map ent = DataW.insert (kl nm, dat blk) ((delF fs nm).map ent) := insF_ent _ _
  rw [← e] at ho
  have ht2 := tight ho
  have hz : Maps.size (DataW.map ((insF ⟨nm, blk, v, bs, syn⟩ (delF fs nm)).map ent)) = (insF ⟨nm, blk, v, bs, syn⟩ (delF fs nm)).length := by simp [Maps.size]
  rw [hz] at ht2
  exact ⟨w', hrun, ht2, map_turned ht⟩
/-- 'delete(d.files, nm)'. -/
theorem drop_run {w : World} {b n : Nat} {fs : List Fi} {nm : ByteArray} (h : w.ownsMap Tryz.prog 9 ptrR b n (.map (fs.map ent))) (hl : nm.size ≤ 40) (ty : TypeId) :
    ∃ w', Sem.run Tryz.prog (Builtin.delete_ #[52, 9] ty #[.map (some b), .string nm]) w = .ok (.tuple #[]) w' ∧ w'.ownsMap Tryz.prog 9 ptrR b (delF fs nm).length (.map ((delF fs nm).map ent)) ∧ Keep (· = b) w w' := by
  have hkey : keyOf Tryz.prog 9 (.string nm) = some (kl nm) := WideMaps.keyOf_string_mk Tryz.underlying9 (by unfold maxLen; omega)
  obtain ⟨w', hrun, ho, ht⟩ := h.drop law Tryz.underlying52 hkey ty
  rw [del_ent] at ho
  have ht2 := tight ho
  have hz : Maps.size (DataW.map ((delF fs nm).map ent)) = (delF fs nm).length := by simp [Maps.size]
  rw [hz] at ht2
  exact ⟨w', hrun, ht2, map_turned ht⟩

section
variable {w w' : World} {g : Nat} {S S' T : Nat → Prop} {m : MS} {fs : List Fi} {M : Option Nat} {A : Option Addr} {c : Nat}
/-- Only the struct and the map are written: files go, or take other names. -/
theorem Lay.head {b : Nat} {fs' : List Fi} (h : Lay w g S m fs (some b) A c) (hk : Keep (Hd g (some b)) w w') (hf : ∀ x, x ∈ fs' → ∃ y, y ∈ fs ∧ x.blk = y.blk ∧ x.v = y.v ∧ x.bs = y.bs ∧ x.syn = y.syn ∧ x.nm.size ≤ 40)
    (hs : fs'.Pairwise sep) (hm : w'.ownsMap Tryz.prog 9 ptrR b fs'.length (.map (fs'.map ent))) (hn : fs'.length ≤ 1000)
    (hb : Box w' g Ty.disk [.int .i64 (m.room : Int), .int .i64 (used (fs'.map Fi.m) : Int), .map (some b), .slice A m.armed.length c, .int .i64 (m.failed : Int)]) (hu : used (fs'.map Fi.m) ≤ m.room) :
    Lay w' g S { m with fs := fs'.map Fi.m } fs' (some b) A c := by
  have hsb : S b := by
    rcases h.files.map with ⟨h0, _⟩ | ⟨b', hb', hs, _⟩
    · cases h0
    · cases hb'; exact hs
  refine ⟨hb, h.sg, ⟨.inr ⟨b, rfl, hsb, hm⟩, fun x hx => ?_, hs⟩, rfl, h.armed.keep hk (fun k ht _ => h.head_not_ints k ht) fun _ => id, h.cap, h.capm, h.wf, fun k hk1 => Nat.lt_of_lt_of_le (h.lt k hk1) hk.size, h.room, hu, by show (fs'.map Fi.m).length ≤ 1000; rw [List.length_map]; exact hn⟩
  obtain ⟨y, hy, e1, e2, e3, e4, e5⟩ := hf x hx
  obtain ⟨n1, n2⟩ := h.files.head_apart h.box y hy
  have o := (h.files.ok y hy).keep0 hk n1 n2 (fun _ => id)
  exact ⟨by rw [e1, e2, e4]; exact o.box, by rw [e2, e3]; exact o.own, by rw [e1]; exact o.sb, by rw [e2]; exact o.sv, by rw [e3, e4]; exact o.syn, by rw [e3]; exact o.len, by rw [e3]; exact o.byte, e5⟩
theorem find2 (n1 n2 : ByteArray) (h : Lay w g S m fs M A c) (hf : m.failed ≤ 1000000) :
    Calls Tryz.prog (53) #[.pointer (some ⟨g, 0, none⟩), .slice (some ⟨w.heap.size, 0, none⟩) 2 2] (w.alloc (.cells #[.string n1, .string n2] 9)) fun e w' => ∃ A' c', Keep (· = g) w w' ∧ Lay w' g S (hit m).2 fs M A' c' ∧
      ((∃ f, look fs n1 = some f ∧ bad m [n1, n2] = 0 ∧ e = .returned (.tuple #[.pointer (some ⟨f.blk, 0, none⟩), .int .i64 0])) ∨
        (gone m [n1, n2] (look fs n1) ≠ 0 ∧ e = .returned (.tuple #[.pointer none, .int .i64 (gone m [n1, n2] (look fs n1) : Nat)]))) := by
  have hk0 : Keep (fun _ => False) w (w.alloc (.cells #[.string n1, .string n2] 9)) := below_keep (Joins.below_alloc1 w _)
  have hg := h.lt g h.sg
  have hl : LiesP (w.alloc (.cells #[.string n1, .string n2] 9)) (fun k => ¬ k = g ∧ k < (w.alloc (.cells #[.string n1, .string n2] 9)).heap.size) (some ⟨w.heap.size, 0, none⟩) ([n1, n2].map Value.string) :=
    .inr ⟨_, rfl, ⟨by simp only; omega, by simp⟩, fun j u hj => by
      have hn := heap_alloc_new w (.cells #[.string n1, .string n2] 9)
      have := cell_of_row (w.alloc (.cells #[.string n1, .string n2] 9)) w.heap.size j _ _ _ hn
      have e : (⟨w.heap.size, 0, none⟩ : Addr).add j = ⟨w.heap.size, j, none⟩ := by unfold Addr.add; split <;> simp_all
      rw [e, this]
      rw [← hj]
      simp⟩
  refine (find_any g S m fs M A (some ⟨w.heap.size, 0, none⟩) c 2 n1 [n2] _ (h.keep hk0 fun _ _ => id) hf hl (by simp) (by decide)).mono ?_
  rintro e w' ⟨A', c', hk, hL, hc⟩
  exact ⟨A', c', (below_keep (S := (· = g)) (Joins.below_alloc1 w _)).trans hk fun _ _ h => h, hL, hc⟩
end
end Go.Proofs.YtnbknihaefkllaaGreatDoor.Dk
/- What Rename of package disk answers. -/
namespace Go.Proofs.YtnbknihaefkllaaGreatDoor.Dk
set_option linter.unusedVariables false
set_option linter.unusedSimpArgs false
open Go.RowKit Go.Maps Lift Ik

def moved (l : List FM) (fr to : ByteArray) (f : FM) : List FM := insM ⟨to, f.bs, f.syn⟩ (delM (delM l fr) to)
def renameM (m : MS) (fr to : ByteArray) : Nat × MS := onFile m [fr, to] fr (fun e => (e, (hit m).2)) fun f => (0, { (hit m).2 with fs := moved m.fs fr to f })
def movedF (l : List Fi) (fr to : ByteArray) (f : Fi) : List Fi := insF ⟨to, f.blk, f.v, f.bs, f.syn⟩ (delF (delF l fr) to)
theorem moved_told (l : List Fi) (fr to : ByteArray) (f : Fi) : (movedF l fr to f).map Fi.m = moved (l.map Fi.m) fr to f.m := by
  unfold movedF moved
  rw [insF_told, delF_told, delF_told]
  rfl
theorem insF_le (f : Fi) (l : List Fi) (n : Nat) (h : l.length + 1 ≤ n) : (insF f l).length ≤ n := by rw [insF_length]; exact h
section
variable {w w' : World} {g : Nat} {S S' T : Nat → Prop} {m : MS} {fs : List Fi} {M : Option Nat} {A : Option Addr} {c : Nat}
theorem Lay.took {b : Nat} {f : Fi} {fr to : ByteArray} (h : Lay w g S m fs (some b) A c) (hf : f ∈ fs) (hn : f.nm = fr) (hl : to.size ≤ 40) (hk : Keep (Hd g (some b)) w w')
    (hm : w'.ownsMap Tryz.prog 9 ptrR b (movedF fs fr to f).length (.map ((movedF fs fr to f).map ent)))
    (hb : Box w' g Ty.disk [.int .i64 (m.room : Int), .int .i64 (used (moved m.fs fr to f.m) : Int), .map (some b), .slice A m.armed.length c, .int .i64 (m.failed : Int)]) (hu : used (moved m.fs fr to f.m) ≤ m.room) :
    Lay w' g S { m with fs := moved m.fs fr to f.m } (movedF fs fr to f) (some b) A c := by
  have e : moved m.fs fr to f.m = (movedF fs fr to f).map Fi.m := by rw [moved_told, ← h.told]
  rw [e] at hb hu ⊢
  have hlt : (delF fs fr).length + 1 ≤ fs.length := by
    have : (delF fs fr).length < fs.length := by
      unfold delF
      exact List.length_filter_lt_length_iff_exists.2 ⟨f, hf, by simp [hn]⟩
    omega
  refine h.head hk (fun x hx => ?_) ?_ hm ?_ hb hu
  · rcases (insF_mem _ _ _).1 hx with rfl | hx
    · exact ⟨f, hf, rfl, rfl, rfl, rfl, hl⟩
    · have := (delF_mem.1 (delF_mem.1 hx).1).1
      exact ⟨x, this, rfl, rfl, rfl, rfl, (h.files.ok x this).nm⟩
  · refine insF_pair (delF_pair (delF_pair h.files.sep)) fun x hx => ?_
    obtain ⟨h1, h2⟩ := delF_mem.1 hx
    obtain ⟨h3, h4⟩ := delF_mem.1 h1
    obtain ⟨s1, _, s3⟩ := sep_of h.files.sep hf h3 (by rw [hn]; exact fun e => h4 e.symm)
    exact ⟨s1, fun e => h2 e.symm, s3⟩
  · have h1 := delF_le (delF fs fr) to
    have h2 := h.many
    rw [h.told, List.length_map] at h2
    exact insF_le _ _ _ (by omega)
theorem used_moved {l : List FM} {fr to : ByteArray} {f : FM} (hp : l.Pairwise fun a b => a.nm ≠ b.nm) (hf : Dk.get l fr = some f) : used (moved l fr to f) + szO (Dk.get (delM l fr) to) = used l := by
  have h1 := used_del (nm := fr) hp
  have h2 := used_del (l := delM l fr) (nm := to) (hp.filter _)
  rw [hf] at h1
  unfold moved
  rw [used_insM]
  have e : (⟨to, f.bs, f.syn⟩ : FM).bs.length = f.bs.length := rfl
  have h1' : used (delM l fr) + f.bs.length = used l := h1
  rw [e]
  omega

end
end Go.Proofs.YtnbknihaefkllaaGreatDoor.Dk
/- What the document's own Named answers. -/
namespace Go.Proofs.YtnbknihaefkllaaGreatDoor.Dk
set_option linter.unusedVariables false
set_option linter.unusedSimpArgs false
open Go.RowKit Go.Maps Lift Ik

theorem index_at {s : ByteArray} {j : Nat} {b : UInt8} (h : s.data.toList[j]? = some b) (W : World) : Sem.run Tryz.prog (Instr.index 9 (.string s) (.int .i64 (j : Int))) W = .ok (.int .u8 (b.toNat : Int)) W := by
  have hlt : j < s.size := by
    have := (List.getElem?_eq_some_iff.1 h).1
    rwa [str_len] at this
  rw [run_index_string (w := W) 9 s .i64 (j : Int) Tryz.underlying9, dif_pos (by constructor <;> omega)]
  have e : ∀ (k : Nat) (hk : k < s.size), k = j → s[k]'hk = b := by
    intro k hk e
    subst e
    have := (List.getElem?_eq_some_iff.1 h).2
    rw [← this]
    rfl
  rw [e _ _ (Int.toNat_natCast j)]

set_option maxRecDepth 100000 in
set_option maxHeartbeats 4000000 in
theorem named_any (s : ByteArray) (w : World) (hs : s.size ≤ 1000) : Calls Tryz.prog 27 #[.string s] w fun e w' => e = .returned (.bool (nmB s)) ∧ w = w' := by
  have hn := str_len s
  go_enter Tryz.func27, Tryz.ntmps27
  go_wp2_with fail
  go_loop [3] (fun i => ∃ j : Nat, j ≤ s.size ∧ i = .int .i64 j ∧ Hid ((s.data.toList.all fun b => inN b.toNat) = (s.data.toList.drop j).all fun b => inN b.toNat)) (fun i => s.size + 1 - (intOf i).toNat)
  case atStart => exact ⟨0, by omega, rfl, Lib.hid rfl⟩
  case round =>
    obtain ⟨j, hj, rfl, hb⟩ := hrel
    by_cases hlt : j < s.size
    · obtain ⟨b, hd⟩ : ∃ b, s.data.toList[j]? = some b := ⟨_, List.getElem?_eq_getElem (by omega)⟩
      have hix := index_at hd
      have hb8 : b.toNat < 256 := b.toNat_lt
      have HD := Lib.hid (Ik.drop_cons hd)
      clear hd
      obtain ⟨c, hc⟩ : ∃ c, c = b.toNat := ⟨_, rfl⟩
      rw [← hc] at hix hb8
      have HX := Lib.hid hc
      clear hc
      rcases (show (0 ≤ c ∧ c ≤ 44) ∨ c = 45 ∨ c = 46 ∨ c = 47 ∨ (48 ≤ c ∧ c ≤ 57) ∨ (58 ≤ c ∧ c ≤ 64) ∨ (65 ≤ c ∧ c ≤ 90) ∨ (91 ≤ c ∧ c ≤ 96) ∨ (97 ≤ c ∧ c ≤ 122) ∨ (123 ≤ c ∧ c ≤ 255) by omega) with ⟨k1, k2⟩ | rfl | rfl | rfl | ⟨k1, k2⟩ | ⟨k1, k2⟩ | ⟨k1, k2⟩ | ⟨k1, k2⟩ | ⟨k1, k2⟩ | ⟨k1, k2⟩
      · have hr : inN c = false := by simp [inN]; omega
        have da : decide ((c : Int) < 97) = true := by simp; omega
        have db : decide ((122 : Int) < (c : Int)) = false := by simp; omega
        have dd : decide ((c : Int) < 65) = true := by simp; omega
        have de : decide ((90 : Int) < (c : Int)) = false := by simp; omega
        have df : decide ((c : Int) < 48) = true := by simp; omega
        have dg : decide ((57 : Int) < (c : Int)) = false := by simp; omega
        have e1 : ((c : Int) != 46) = true := by rw [bne_iff_ne]; omega
        have e2 : ((c : Int) != 45) = true := by rw [bne_iff_ne]; omega
        clear k1 k2
        have e : Hid (nmB s = false) := Lib.hid (by unfold nmB; rw [hb.out, HD.out, List.all_cons, ← HX.out, hr]; simp)
        clear hr
        go_wp2_with fail
        go_ret
        exact ⟨by rw [e.out]; rfl, rfl⟩
      · have hr : inN 45 = true := by decide
        have e : Hid ((s.data.toList.all fun b => inN b.toNat) = (s.data.toList.drop (j + 1)).all fun b => inN b.toNat) := Lib.hid (by rw [hb.out, HD.out, List.all_cons, ← HX.out, hr]; rfl)
        clear hr
        go_wp2_with fail
        go_round
        case rel => exact ⟨j + 1, by omega, by go_num, e⟩
        case measure => simp [intOf]; omega
      · have hr : inN 46 = true := by decide
        have e : Hid ((s.data.toList.all fun b => inN b.toNat) = (s.data.toList.drop (j + 1)).all fun b => inN b.toNat) := Lib.hid (by rw [hb.out, HD.out, List.all_cons, ← HX.out, hr]; rfl)
        clear hr
        go_wp2_with fail
        go_round
        case rel => exact ⟨j + 1, by omega, by go_num, e⟩
        case measure => simp [intOf]; omega
      · have hr : inN 47 = false := by decide
        have e : Hid (nmB s = false) := Lib.hid (by unfold nmB; rw [hb.out, HD.out, List.all_cons, ← HX.out, hr]; simp)
        clear hr
        go_wp2_with fail
        go_ret
        exact ⟨by rw [e.out]; rfl, rfl⟩
      · have hr : inN c = true := by simp [inN]; omega
        have da : decide ((c : Int) < 97) = true := by simp; omega
        have db : decide ((122 : Int) < (c : Int)) = false := by simp; omega
        have dd : decide ((c : Int) < 65) = true := by simp; omega
        have de : decide ((90 : Int) < (c : Int)) = false := by simp; omega
        have df : decide ((c : Int) < 48) = false := by simp; omega
        have dg : decide ((57 : Int) < (c : Int)) = false := by simp; omega
        have e1 : ((c : Int) != 46) = true := by rw [bne_iff_ne]; omega
        have e2 : ((c : Int) != 45) = true := by rw [bne_iff_ne]; omega
        clear k1 k2
        have e : Hid ((s.data.toList.all fun b => inN b.toNat) = (s.data.toList.drop (j + 1)).all fun b => inN b.toNat) := Lib.hid (by rw [hb.out, HD.out, List.all_cons, ← HX.out, hr]; rfl)
        clear hr
        go_wp2_with fail
        go_round
        case rel => exact ⟨j + 1, by omega, by go_num, e⟩
        case measure => simp [intOf]; omega
      · have hr : inN c = false := by simp [inN]; omega
        have da : decide ((c : Int) < 97) = true := by simp; omega
        have db : decide ((122 : Int) < (c : Int)) = false := by simp; omega
        have dd : decide ((c : Int) < 65) = true := by simp; omega
        have de : decide ((90 : Int) < (c : Int)) = false := by simp; omega
        have df : decide ((c : Int) < 48) = false := by simp; omega
        have dg : decide ((57 : Int) < (c : Int)) = true := by simp; omega
        have e1 : ((c : Int) != 46) = true := by rw [bne_iff_ne]; omega
        have e2 : ((c : Int) != 45) = true := by rw [bne_iff_ne]; omega
        clear k1 k2
        have e : Hid (nmB s = false) := Lib.hid (by unfold nmB; rw [hb.out, HD.out, List.all_cons, ← HX.out, hr]; simp)
        clear hr
        go_wp2_with fail
        go_ret
        exact ⟨by rw [e.out]; rfl, rfl⟩
      · have hr : inN c = true := by simp [inN]; omega
        have da : decide ((c : Int) < 97) = true := by simp; omega
        have db : decide ((122 : Int) < (c : Int)) = false := by simp; omega
        have dd : decide ((c : Int) < 65) = false := by simp; omega
        have de : decide ((90 : Int) < (c : Int)) = false := by simp; omega
        have df : decide ((c : Int) < 48) = false := by simp; omega
        have dg : decide ((57 : Int) < (c : Int)) = true := by simp; omega
        have e1 : ((c : Int) != 46) = true := by rw [bne_iff_ne]; omega
        have e2 : ((c : Int) != 45) = true := by rw [bne_iff_ne]; omega
        clear k1 k2
        have e : Hid ((s.data.toList.all fun b => inN b.toNat) = (s.data.toList.drop (j + 1)).all fun b => inN b.toNat) := Lib.hid (by rw [hb.out, HD.out, List.all_cons, ← HX.out, hr]; rfl)
        clear hr
        go_wp2_with fail
        go_round
        case rel => exact ⟨j + 1, by omega, by go_num, e⟩
        case measure => simp [intOf]; omega
      · have hr : inN c = false := by simp [inN]; omega
        have da : decide ((c : Int) < 97) = true := by simp; omega
        have db : decide ((122 : Int) < (c : Int)) = false := by simp; omega
        have dd : decide ((c : Int) < 65) = false := by simp; omega
        have de : decide ((90 : Int) < (c : Int)) = true := by simp; omega
        have df : decide ((c : Int) < 48) = false := by simp; omega
        have dg : decide ((57 : Int) < (c : Int)) = true := by simp; omega
        have e1 : ((c : Int) != 46) = true := by rw [bne_iff_ne]; omega
        have e2 : ((c : Int) != 45) = true := by rw [bne_iff_ne]; omega
        clear k1 k2
        have e : Hid (nmB s = false) := Lib.hid (by unfold nmB; rw [hb.out, HD.out, List.all_cons, ← HX.out, hr]; simp)
        clear hr
        go_wp2_with fail
        go_ret
        exact ⟨by rw [e.out]; rfl, rfl⟩
      · have hr : inN c = true := by simp [inN]; omega
        have da : decide ((c : Int) < 97) = false := by simp; omega
        have db : decide ((122 : Int) < (c : Int)) = false := by simp; omega
        have dd : decide ((c : Int) < 65) = false := by simp; omega
        have de : decide ((90 : Int) < (c : Int)) = true := by simp; omega
        have df : decide ((c : Int) < 48) = false := by simp; omega
        have dg : decide ((57 : Int) < (c : Int)) = true := by simp; omega
        have e1 : ((c : Int) != 46) = true := by rw [bne_iff_ne]; omega
        have e2 : ((c : Int) != 45) = true := by rw [bne_iff_ne]; omega
        clear k1 k2
        have e : Hid ((s.data.toList.all fun b => inN b.toNat) = (s.data.toList.drop (j + 1)).all fun b => inN b.toNat) := Lib.hid (by rw [hb.out, HD.out, List.all_cons, ← HX.out, hr]; rfl)
        clear hr
        go_wp2_with fail
        go_round
        case rel => exact ⟨j + 1, by omega, by go_num, e⟩
        case measure => simp [intOf]; omega
      · have hr : inN c = false := by simp [inN]; omega
        have da : decide ((c : Int) < 97) = false := by simp; omega
        have db : decide ((122 : Int) < (c : Int)) = true := by simp; omega
        have dd : decide ((c : Int) < 65) = false := by simp; omega
        have de : decide ((90 : Int) < (c : Int)) = true := by simp; omega
        have df : decide ((c : Int) < 48) = false := by simp; omega
        have dg : decide ((57 : Int) < (c : Int)) = true := by simp; omega
        have e1 : ((c : Int) != 46) = true := by rw [bne_iff_ne]; omega
        have e2 : ((c : Int) != 45) = true := by rw [bne_iff_ne]; omega
        clear k1 k2
        have e : Hid (nmB s = false) := Lib.hid (by unfold nmB; rw [hb.out, HD.out, List.all_cons, ← HX.out, hr]; simp)
        clear hr
        go_wp2_with fail
        go_ret
        exact ⟨by rw [e.out]; rfl, rfl⟩
    · obtain rfl : j = s.size := by omega
      have hall : (s.data.toList.all fun b => inN b.toNat) = true := by rw [hb.out, List.drop_of_length_le (by omega)]; rfl
      by_cases k1 : 1 ≤ s.size
      · have d1 : decide ((1 : Int) ≤ (s.size : Int)) = true := by simp; omega
        by_cases k2 : s.size ≤ 40
        · have d2 : decide ((s.size : Int) ≤ 40) = true := by simp; omega
          have e : Hid (nmB s = true) := Lib.hid (by unfold nmB; rw [hall, decide_eq_true k1, decide_eq_true k2]; rfl)
          clear k1 k2 hall
          go_wp2_with fail
          go_ret
          exact ⟨by rw [e.out]; rfl, rfl⟩
        · have d2 : decide ((s.size : Int) ≤ 40) = false := by simp; omega
          have e : Hid (nmB s = false) := Lib.hid (by unfold nmB; rw [decide_eq_false k2]; simp)
          clear k1 k2 hall
          go_wp2_with fail
          go_ret
          exact ⟨by rw [e.out]; rfl, rfl⟩
      · have d1 : decide ((1 : Int) ≤ (s.size : Int)) = false := by simp; omega
        have e : Hid (nmB s = false) := Lib.hid (by unfold nmB; rw [decide_eq_false k1]; simp)
        clear k1 hall
        go_wp2_with fail
        go_ret
        exact ⟨by rw [e.out]; rfl, rfl⟩
end Go.Proofs.YtnbknihaefkllaaGreatDoor.Dk
/- The document's own disk, as it lies in memory. -/
namespace Go.Proofs.YtnbknihaefkllaaGreatDoor.Rk
set_option linter.unusedVariables false
set_option linter.unusedSimpArgs false
open Go.RowKit Go.Maps Lift Ik Dk

/-- A file of the document's disk, as it lies. -/
structure D where
  nm : ByteArray
  a : Option Addr
  c : Nat
  bs : List Nat
  syn : Nat
def D.m (d : D) : FM := ⟨d.nm, d.bs, d.syn⟩
def D.cells (d : D) : List Value := [.string d.nm, .slice d.a d.bs.length d.c, .int .i64 (d.syn : Int)]
def cellsL (L : List D) : List Value := L.flatMap D.cells
theorem cellsL_length (L : List D) : (cellsL L).length = L.length * 3 := by
  induction L with
  | nil => rfl
  | cons d L ih => simp only [cellsL, List.flatMap_cons, List.length_append, List.length_cons] at ih ⊢; rw [ih]; simp [D.cells]; omega
theorem cellsL_append (L M : List D) : cellsL (L ++ M) = cellsL L ++ cellsL M := by simp [cellsL]
theorem cellsL_at {L : List D} {i : Nat} {d : D} (h : L[i]? = some d) (j : Nat) (hj : j < 3) : (cellsL L)[i * 3 + j]? = d.cells[j]? := by
  induction L generalizing i with
  | nil => simp at h
  | cons e L ih =>
    have hc : cellsL (e :: L) = e.cells ++ cellsL L := rfl
    rw [hc]
    cases i with
    | zero =>
      simp at h; subst h
      rw [List.getElem?_append_left (by simp [D.cells]; omega)]; simp
    | succ i =>
      simp at h
      rw [List.getElem?_append_right (by simp [D.cells]; omega), ← ih h]
      congr 1
      simp [D.cells]; omega
theorem cellsL_one {L : List D} : ∀ u, u ∈ cellsL L → u.oneCell' = true := by
  intro u hu
  obtain ⟨d, _, h⟩ := List.mem_flatMap.1 hu
  simp [D.cells] at h
  rcases h with rfl | rfl | rfl <;> rfl
abbrev Ty.disk : TypeId := 57
abbrev Ty.file : TypeId := 67
/-- A file's bytes, in blocks S of bytes. -/
structure D.Ok (w : World) (S : Nat → Prop) (d : D) : Prop where
  lies : LiesP w (fun k => S k ∧ ∃ cs fr, w.heap[k]? = some (.cells cs 5 fr)) d.a (d.bs.map vb)
  cap : d.bs.length ≤ d.c
  max : d.c ≤ maxLen
  byte : ∀ x, x ∈ d.bs → x < 256
  len : d.bs.length ≤ 16777216
  syn : d.syn ≤ d.bs.length
  nm : d.nm.size ≤ 40
abbrev before (a b : FM) : Prop := (kl a.nm).before (kl b.nm) = true
/-- The document's disk in memory: its struct in block g, all of it in the blocks S. -/
structure Lay (w : World) (g : Nat) (S : Nat → Prop) (rm : Int) (m : MS) (L : List D) (A F : Option Addr) (c cf : Nat) : Prop where
  box : Box w g Ty.disk [.int .i64 rm, .slice A L.length c, .slice F m.armed.length cf, .int .i64 (m.failed : Int)]
  sg : S g
  own : w.ownsRow 0 Ty.file 3 (.slice A L.length c) L.length (cellsL L)
  so : ∀ k, (Value.slice A L.length c).ownBlock = some k → S k
  ok : ∀ d, d ∈ L → d.Ok w S
  told : m.fs = L.map D.m
  armed : Armed w S F m.armed
  capf : m.armed.length ≤ cf
  capm : cf ≤ maxLen
  wf : ∀ x, x ∈ m.armed → (Lit.int .i64 x).wf = true
  lt : ∀ k, S k → k < w.heap.size
  room : m.room = rm.toNat
  rwf : (Lit.int .i64 rm).wf = true
  many : L.length ≤ 1000
  sorted : m.fs.Pairwise before
def At (w : World) (g : Nat) (S : Nat → Prop) (rm : Int) (m : MS) : Prop := ∃ L A F c cf, Lay w g S rm m L A F c cf
section
variable {w w' : World} {g : Nat} {S S' T : Nat → Prop} {rm : Int} {m : MS} {L : List D} {A F : Option Addr} {c cf : Nat}
theorem D.Ok.keep {d : D} (h : d.Ok w S) (hk : Keep T w w') (hT : ∀ k, T k → S k → ¬ ∃ cs fr, w.heap[k]? = some (.cells cs 5 fr)) (hS : ∀ k, S k → S' k) : d.Ok w' S' := by
  have hb : ∀ k, (S k ∧ ∃ cs fr, w.heap[k]? = some (.cells cs 5 fr)) → w'.heap[k]? = w.heap[k]? := by
    rintro k ⟨hs, cs, fr, hh⟩
    exact hk.block k (Array.getElem?_eq_some_iff.1 hh).1 fun ht => hT k ht hs ⟨cs, fr, hh⟩
  exact ⟨h.lies.later hb fun k hk1 => ⟨hS k hk1.1, hk1.2.elim fun cs h1 => h1.elim fun fr h2 => ⟨cs, fr, (hb k hk1).trans h2⟩⟩, h.cap, h.max, h.byte, h.len, h.syn, h.nm⟩
theorem Lay.keep (h : Lay w g S rm m L A F c cf) (hk : Keep T w w') (hT : ∀ k, S k → ¬ T k) : Lay w' g S rm m L A F c cf :=
  ⟨h.box.keep hk (hT g h.sg), h.sg, own_keep h.own hk fun k hk1 => hT k (h.so k hk1), h.so, fun d hd => (h.ok d hd).keep hk (fun k ht hs => absurd ht (hT k hs)) fun _ => id, h.told,
    h.armed.keep hk (fun k ht hs => absurd ht (hT k hs)) fun _ => id, h.capf, h.capm, h.wf, fun k hs => Nat.lt_of_lt_of_le (h.lt k hs) hk.size, h.room, h.rwf, h.many, h.sorted⟩
theorem At.keep (h : At w g S rm m) (hk : Keep T w w') (hT : ∀ k, S k → ¬ T k) : At w' g S rm m := by
  obtain ⟨L, A, F, c, cf, h⟩ := h
  exact ⟨L, A, F, c, cf, h.keep hk hT⟩
theorem At.below (h : At w g S rm m) (hk : Below w.heap.size w w') : At w' g S rm m := h.keep (T := fun _ => False) (below_keep hk) fun _ _ => id
theorem At.lt (h : At w g S rm m) (k : Nat) (hk : S k) : k < w.heap.size := by
  obtain ⟨L, A, F, c, cf, h⟩ := h
  exact h.lt k hk
theorem Lay.toAt (h : Lay w g S rm m L A F c cf) : At w g S rm m := ⟨_, _, _, _, _, h⟩
theorem Lay.facts (h : Lay w g S rm m L A F c cf) : w.cell? ⟨g, 0, none⟩ = some (.int .i64 rm) ∧ w.cell? ⟨g, 1, none⟩ = some (.slice A L.length c) ∧ w.cell? ⟨g, 2, none⟩ = some (.slice F m.armed.length cf) ∧ w.cell? ⟨g, 3, none⟩ = some (.int .i64 (m.failed : Int)) ∧
    w.frozen? ⟨g, 1, none⟩ = false ∧ w.frozen? ⟨g, 2, none⟩ = false ∧ w.frozen? ⟨g, 3, none⟩ = false :=
  ⟨h.box.cell 0, h.box.cell 1, h.box.cell 2, h.box.cell 3, h.box.free 1, h.box.free 2, h.box.free 3⟩
/-- The struct's last two cells are written. -/
theorem Lay.turn (h : Lay w g S rm m L A F c cf) (hk : Keep (· = g) w w') (l : List Int) (n cf' : Nat) (F' : Option Addr)
    (hb : Box w' g Ty.disk [.int .i64 rm, .slice A L.length c, .slice F' l.length cf', .int .i64 (n : Int)]) (ha : Armed w' S F' l) (hc : l.length ≤ cf') (hm : cf' ≤ maxLen) (hw : ∀ x, x ∈ l → (Lit.int .i64 x).wf = true) :
    Lay w' g S rm { m with armed := l, failed := n } L A F' c cf' :=
  ⟨hb, h.sg, own_keep h.own hk fun k hk1 e => own_apart h.own h.box (by decide) (by rw [← e]; exact hk1), h.so, fun d hd => (h.ok d hd).keep hk (fun k ht _ hh => by
      obtain ⟨cs, fr, hh⟩ := hh
      rw [ht] at hh
      exact typed h.box hh (by decide)) fun _ => id, h.told, ha, hc, hm, hw, fun k hs => Nat.lt_of_lt_of_le (h.lt k hs) hk.size, h.room, h.rwf, h.many, h.sorted⟩
theorem Lay.drew (h : Lay w g S rm m L A F c cf) (n : Nat) : Lay (w.drewN n) g S rm m L A F c cf := h.keep (T := fun _ => False) (below_keep (Joins.below_draws w.heap.size w n)) fun _ _ => id
/-- The cells of one file, as a walk spells them. -/
theorem Lay.place (h : Lay w g S rm m L A F c cf) {i : Nat} {d : D} (hd : L[i]? = some d) :
    ∃ gl, A = some ⟨gl, 0, none⟩ ∧ w.cell? ⟨gl, i * 3, none⟩ = some (.string d.nm) ∧ w.cell? ⟨gl, i * 3 + 1, none⟩ = some (.slice d.a d.bs.length d.c) ∧ w.cell? ⟨gl, i * 3 + 2, none⟩ = some (.int .i64 (d.syn : Int)) ∧
      w.frozen? ⟨gl, i * 3 + 1, none⟩ = false ∧ w.frozen? ⟨gl, i * 3 + 2, none⟩ = false := by
  have hl := (List.getElem?_eq_some_iff.1 hd).1
  rcases h.own.2 with ⟨_, h0⟩ | ⟨gl, cap, cur, hv, _, hh, _⟩
  · omega
  · injection hv with hA
    subst hA
    have hc := h.own.cells (g := gl) rfl
    have e : ∀ j, (⟨gl, 0, none⟩ : Addr).add j = ⟨gl, j, none⟩ := fun j => by unfold Addr.add; split <;> simp_all
    refine ⟨gl, rfl, ?_, ?_, ?_, frozen_of_row w gl _ _ _ hh, frozen_of_row w gl _ _ _ hh⟩
    · have := hc (i * 3) (.string d.nm) (by have := cellsL_at hd 0 (by omega); simpa [D.cells] using this)
      rw [e] at this; exact this
    · have := hc (i * 3 + 1) (.slice d.a d.bs.length d.c) (by have := cellsL_at hd 1 (by omega); simpa [D.cells] using this)
      rw [e] at this; exact this
    · have := hc (i * 3 + 2) (.int .i64 (d.syn : Int)) (by have := cellsL_at hd 2 (by omega); simpa [D.cells] using this)
      rw [e] at this; exact this
end
end Go.Proofs.YtnbknihaefkllaaGreatDoor.Rk
/- The document's own disk: armed failures, and where a file is. -/
namespace Go.Proofs.YtnbknihaefkllaaGreatDoor.Rk
set_option linter.unusedVariables false
set_option linter.unusedSimpArgs false
open Go.RowKit Go.Maps Lift Ik Dk

section
variable {w w' : World} {g : Nat} {S S' T : Nat → Prop} {rm : Int} {m : MS} {L : List D} {A F : Option Addr} {c cf : Nat}
set_option maxRecDepth 100000 in
set_option maxHeartbeats 400000 in
theorem down_any (h : Lay w g S rm m L A F c cf) (hf : m.failed ≤ 1000000) :
    Calls Tryz.prog (26) #[.pointer (some ⟨g, 0, none⟩)] w fun e w' => ∃ F' cf', e = .returned (.bool (hit m).1) ∧ Keep (· = g) w w' ∧ Lay w' g S rm (hit m).2 L A F' c cf' := by
  obtain ⟨c0, c1, c2, c3, f1, f2, f3⟩ := h.facts
  have hcap := h.capf
  have hcm := h.capm
  unfold maxLen at hcm
  have H := Lib.hid h
  rcases hr : m.armed with _ | ⟨x, r⟩
  · rw [hr] at c2
    have E := Lib.hid (hit_nil hr)
    clear h hr hcap
    rw [List.length_nil] at c2
    go_enter Tryz.func26, Tryz.ntmps26
    go_wp2_with fail
    go_ret
    rw [E.out]
    exact ⟨F, cf, rfl, Keep.refl _ _, H.out⟩
  · obtain ⟨ad, rfl, hin, hcell⟩ : ∃ ad, F = some ad ∧ (S ad.block ∧ ∃ cs fr, w.heap[ad.block]? = some (.cells cs 3 fr)) ∧ ∀ j u, ((x :: r).map (Value.int .i64))[j]? = some u → w.cell? (ad.add j) = some u := by
      have ha := h.armed
      rw [hr] at ha
      rcases ha with h0 | h0
      · simp at h0
      · exact h0
    rw [hr] at c2 hcap
    rw [List.length_cons] at c2 hcap
    obtain ⟨F', hF', hs⟩ := tail_at (some ad) (r.length + 1) cf (by omega) hcap h.capm
    rw [show r.length + 1 - 1 = r.length from rfl] at hs
    have x0 : w.cell? ad = some (.int .i64 x) := hcell 0 _ rfl
    have harm : ∀ w', Keep (· = g) w w' → Armed w' S F' r := by
      intro w' hk
      obtain ⟨hS, cs, fr, hh⟩ := hin
      have hne : ad.block ≠ g := fun e => by
        rw [e] at hh
        exact typed h.box hh (by decide)
      have hblk : w'.heap[ad.block]? = w.heap[ad.block]? := hk.block _ (Array.getElem?_eq_some_iff.1 hh).1 hne
      by_cases h1 : r = []
      · subst h1; exact .inl rfl
      · have hl : 1 < r.length + 1 := by have := List.length_pos_iff.2 h1; omega
        refine .inr ⟨ad.add 1, by rw [hF' hl]; rfl, ⟨by rw [add_block]; exact hS, cs, fr, by rw [add_block]; exact hblk.trans hh⟩, fun j u hj => ?_⟩
        rw [add_add]
        exact (World.cell?_of_block (w := w) (by rw [add_block]; exact hblk)).trans (hcell (1 + j) u (by rw [Nat.add_comm]; exact hj))
    have hwf : ∀ y, y ∈ r → (Lit.int .i64 y).wf = true := fun y hy => h.wf y (by rw [hr]; simp [hy])
    have HM := Lib.hid harm
    have HW := Lib.hid hwf
    by_cases hx : x = 0
    · subst hx
      have E := Lib.hid (hit_zero hr)
      clear h hr harm hwf hin hF'
      go_enter Tryz.func26, Tryz.ntmps26
      go_wp2_with fail
      go_ret
      rw [E.out]
      have hk := (Keep.refl (· = g) w).setCell (p := ⟨g, 2, none⟩) (.inr rfl) (.slice F' r.length (cf - 1))
      exact ⟨F', cf - 1, rfl, hk, H.out.turn hk r m.failed (cf - 1) F' (H.out.box.set 2 _) (HM.out _ hk) (by omega) (by unfold maxLen; omega) HW.out⟩
    · have E := Lib.hid (hit_more hr hx)
      have d1 : (x != 0) = true := by rw [bne_iff_ne]; exact hx
      clear h hr harm hwf hin hF' hx
      go_enter Tryz.func26, Tryz.ntmps26
      go_wp2_with fail
      go_ret
      rw [E.out]
      have hk := ((Keep.refl (· = g) w).setCell (p := ⟨g, 2, none⟩) (.inr rfl) (.slice F' r.length (cf - 1))).setCell (p := ⟨g, 3, none⟩) (.inr rfl) (.int .i64 ((m.failed : Int) + 1))
      exact ⟨F', cf - 1, rfl, hk, H.out.turn hk r (m.failed + 1) (cf - 1) F' ((H.out.box.set 2 _).set 3 _) (HM.out _ hk) (by omega) (by unfold maxLen; omega) HW.out⟩

theorem less_before : ∀ x y : List UInt8, Op.bytesLess x y = bytesBefore x y
  | [], [] => rfl
  | [], _ :: _ => rfl
  | _ :: _, [] => rfl
  | a :: x, b :: y => by
    rw [Op.bytesLess, bytesBefore, less_before x y]
theorem less_kl (a b : ByteArray) : Op.bytesLess a.toList b.toList = (kl a).before (kl b) := by
  rw [Lib.toList_data, Lib.toList_data, less_before]
  rfl
theorem eq_kl (a b : ByteArray) : (a.toList == b.toList) = decide (a = b) := by
  rw [Lib.toList_data, Lib.toList_data]
  exact kl_same a b
/-- How many names come ahead of nm. -/
def idx : List FM → ByteArray → Nat
  | [], _ => 0
  | f :: r, nm => if (kl f.nm).before (kl nm) then idx r nm + 1 else 0
/-- Is the name at its place? -/
def isAt (l : List FM) (nm : ByteArray) : Bool := match l[idx l nm]? with | some f => decide (f.nm = nm) | none => false
theorem idx_step {l : List FM} {nm : ByteArray} {j : Nat} {f : FM} (h : l[j]? = some f) : idx (l.drop j) nm = if (kl f.nm).before (kl nm) then idx (l.drop (j + 1)) nm + 1 else 0 := by
  rw [Ik.drop_cons h]; rfl
set_option maxRecDepth 100000 in
set_option maxHeartbeats 1000000 in
theorem at_any (nm : ByteArray) (h : Lay w g S rm m L A F c cf) :
    Calls Tryz.prog (28) #[.pointer (some ⟨g, 0, none⟩), .string nm] w fun e w' => e = .returned (.tuple #[.int .i64 (idx m.fs nm : Nat), .bool (isAt m.fs nm)]) ∧ Below w.heap.size w w' := by
  obtain ⟨c0, c1, c2, c3, f1, f2, f3⟩ := h.facts
  have hmany := h.many
  have hcap : L.length ≤ c := by
    rcases h.own.2 with ⟨h0, _⟩ | ⟨_, _, _, hv, _, _, hc, _⟩
    · injection h0 with _ h1 h2; omega
    · injection hv with _ _ h2; omega
  have hcm : c ≤ maxLen := by
    rcases h.own.2 with ⟨h0, _⟩ | ⟨_, _, _, hv, _, _, _, hc, _⟩
    · injection h0 with _ h1 h2; rw [h2]; decide
    · injection hv with _ _ h2; rw [h2]; exact hc
  unfold maxLen at hcm
  have H := Lib.hid h
  have HT := Lib.hid h.told
  clear h c0 c2 c3 f1 f2 f3
  have hlen : Hid (m.fs.length = L.length) := Lib.hid (by rw [HT.out, List.length_map])
  go_enter Tryz.func28, Tryz.ntmps28
  go_wp2_with fail
  go_loop [6] (fun i => ∃ j : Nat, j ≤ L.length ∧ i = .int .i64 j ∧ Hid (idx m.fs nm = j + idx (m.fs.drop j) nm)) (fun i => L.length + 1 - (intOf i).toNat)
  case atStart => exact ⟨0, by omega, rfl, Lib.hid (by simp)⟩
  case round =>
    obtain ⟨j, hj, rfl, hi⟩ := hrel
    by_cases hlt : j < L.length
    · obtain ⟨d, hd⟩ : ∃ d, L[j]? = some d := ⟨_, List.getElem?_eq_getElem hlt⟩
      obtain ⟨gl, hA, p0, _, _, _, _⟩ := H.out.place hd
      subst hA
      have hfd : m.fs[j]? = some d.m := by rw [HT.out, List.getElem?_map, hd]; rfl
      have hst := idx_step (nm := nm) hfd
      have dl : decide (j < L.length) = true := decide_eq_true hlt
      have hls := less_kl d.nm nm
      have HFD := Lib.hid hfd
      clear hd hfd
      cases hb : (kl d.nm).before (kl nm)
      · rw [show (kl d.m.nm).before (kl nm) = false from hb] at hst
        have hidx : Hid (idx m.fs nm = j) := Lib.hid (by rw [hi.out, hst]; rfl)
        have hat : Hid (isAt m.fs nm = decide (d.nm = nm)) := Lib.hid (by unfold isAt; rw [hidx.out, HFD.out]; rfl)
        rw [hb] at hls
        have heq := eq_kl d.nm nm
        clear hst hb
        cases he : decide (d.nm = nm)
        · rw [he] at heq hat
          clear he
          go_wp2_with fail
          go_quiet (fail)
          go_wp2_with fail
          go_returns
          exact ⟨by rw [hidx.out, hat.out]; rfl, Joins.below_draws _ _ _⟩
        · rw [he] at heq hat
          clear he
          go_wp2_with fail
          go_quiet (fail)
          go_wp2_with fail
          go_returns
          exact ⟨by rw [hidx.out, hat.out]; rfl, Joins.below_draws _ _ _⟩
      · rw [show (kl d.m.nm).before (kl nm) = true from hb] at hst
        have hn : Hid (idx m.fs nm = (j + 1) + idx (m.fs.drop (j + 1)) nm) := Lib.hid (by rw [hi.out, hst, if_pos rfl]; omega)
        rw [hb] at hls
        clear hst hb
        go_wp2_with fail
        go_round
        case rel => exact ⟨j + 1, by omega, by go_num, hn⟩
        case measure => simp [intOf]; omega
    · have hjl : j = L.length := by omega
      have dl : decide (j < L.length) = false := decide_eq_false hlt
      have hd0 : m.fs.drop j = [] := List.drop_of_length_le (by have := hlen.out; omega)
      have hidx : Hid (idx m.fs nm = j) := Lib.hid (by rw [hi.out, hd0]; rfl)
      have hat : Hid (isAt m.fs nm = false) := Lib.hid (by unfold isAt; rw [hidx.out, List.getElem?_eq_none (by have := hlen.out; omega)])
      clear hd0 hjl
      go_wp2_with fail
      go_quiet (fail)
      go_wp2_with fail
      go_returns
      exact ⟨by rw [hidx.out, hat.out]; rfl, Joins.below_draws _ _ _⟩
end
end Go.Proofs.YtnbknihaefkllaaGreatDoor.Rk
/- The document's own disk: Used, Failed, found, Size. -/
namespace Go.Proofs.YtnbknihaefkllaaGreatDoor.Rk
set_option linter.unusedVariables false
set_option linter.unusedSimpArgs false
open Go.RowKit Go.Maps Lift Ik Dk

theorem before_ne {a b : FM} (h : before a b) : a.nm ≠ b.nm := fun e => by
  unfold before at h
  rw [e] at h
  have := WideAt.bytes_irrefl b.nm.data.toList
  exact absurd (show bytesBefore b.nm.data.toList b.nm.data.toList = true from h) (by rw [this]; simp)
theorem idx_get : ∀ {l : List FM} {nm : ByteArray}, l.Pairwise before → (isAt l nm = true → ∃ f, l[idx l nm]? = some f ∧ Dk.get l nm = some f) ∧ (isAt l nm = false → Dk.get l nm = none)
  | [], nm, _ => ⟨fun h => by simp [isAt, idx] at h, fun _ => rfl⟩
  | a :: l, nm, hp => by
    obtain ⟨h1, h2⟩ := List.pairwise_cons.1 hp
    have ih := idx_get (nm := nm) h2
    by_cases hb : (kl a.nm).before (kl nm) = true
    · have hne : a.nm ≠ nm := fun e => by
        rw [e] at hb
        have := WideAt.bytes_irrefl nm.data.toList
        exact absurd (show bytesBefore nm.data.toList nm.data.toList = true from hb) (by rw [this]; simp)
      have e1 : idx (a :: l) nm = idx l nm + 1 := by show (if (kl a.nm).before (kl nm) then idx l nm + 1 else 0) = _; rw [if_pos hb]
      have e2 : isAt (a :: l) nm = isAt l nm := by unfold isAt; rw [e1, List.getElem?_cons_succ]
      have e3 : Dk.get (a :: l) nm = Dk.get l nm := by unfold Dk.get; rw [List.find?_cons, decide_eq_false hne]
      rw [e1, e2, e3, List.getElem?_cons_succ]
      exact ih
    · have e1 : idx (a :: l) nm = 0 := by show (if (kl a.nm).before (kl nm) then idx l nm + 1 else 0) = _; rw [if_neg hb]
      have e2 : isAt (a :: l) nm = decide (a.nm = nm) := by unfold isAt; rw [e1]; rfl
      rw [e1, e2]
      constructor
      · intro h
        have h := of_decide_eq_true h
        exact ⟨a, rfl, by unfold Dk.get; rw [List.find?_cons, decide_eq_true h]⟩
      · intro h
        have h := of_decide_eq_false h
        refine get_none.2 fun x hx e => ?_
        rcases List.mem_cons.1 hx with rfl | hx
        · exact h e
        · have h3 := h1 x hx
          unfold before at h3
          rw [e] at h3
          exact hb h3
section
variable {w w' : World} {g : Nat} {S S' T : Nat → Prop} {rm : Int} {m : MS} {L : List D} {A F : Option Addr} {c cf : Nat}
theorem Lay.cap (h : Lay w g S rm m L A F c cf) : L.length ≤ c ∧ c ≤ 9223372036854775807 := by
  rcases h.own.2 with ⟨h0, h3⟩ | ⟨_, _, _, hv, _, _, hc, hm, _⟩
  · injection h0 with _ h1 h2
    omega
  · injection hv with _ _ h2
    unfold maxLen at hm
    omega
theorem Lay.used_le (h : Lay w g S rm m L A F c cf) : used m.fs ≤ 16777216000 := by
  have h1 := Dk.used_le (l := m.fs) fun f hf => by
    rw [h.told] at hf
    obtain ⟨x, hx, rfl⟩ := List.mem_map.1 hf
    exact (h.ok x hx).len
  have h2 := h.many
  have e : m.fs.length = L.length := by rw [h.told, List.length_map]
  omega
theorem rfailed_any (h : At w g S rm m) : Calls Tryz.prog (18) #[.pointer (some ⟨g, 0, none⟩)] w fun e w' => e = .returned (.int .i64 (m.failed : Int)) ∧ w = w' := by
  obtain ⟨L, A, F, c, cf, h⟩ := h
  obtain ⟨c0, c1, c2, c3, f1, f2, f3⟩ := h.facts
  clear h
  go_enter Tryz.func18, Tryz.ntmps18
  go_wp2_with fail
  go_ret
  exact ⟨rfl, rfl⟩
theorem used_take {L : List D} {j : Nat} {d : D} (h : L[j]? = some d) : used ((L.take (j + 1)).map D.m) = used ((L.take j).map D.m) + d.bs.length := by
  rw [List.take_add_one, h]
  simp [used, D.m]
theorem used_app (a b : List FM) : used (a ++ b) = used a + used b := by simp [used]
theorem used_sub (L : List D) (j : Nat) : used ((L.take j).map D.m) ≤ used (L.map D.m) := by
  have e : used ((L.take j).map D.m) + used ((L.drop j).map D.m) = used (L.map D.m) := by rw [← used_app, ← List.map_append, List.take_append_drop]
  omega
set_option maxRecDepth 100000 in
set_option maxHeartbeats 400000 in
theorem rused_any (h : Lay w g S rm m L A F c cf) : Calls Tryz.prog (16) #[.pointer (some ⟨g, 0, none⟩)] w fun e w' => e = .returned (.int .i64 (used m.fs : Nat)) ∧ w = w' := by
  obtain ⟨c0, c1, c2, c3, f1, f2, f3⟩ := h.facts
  obtain ⟨hcap, hcm⟩ := h.cap
  have hmany := h.many
  have hu := h.used_le
  have H := Lib.hid h
  have HT := Lib.hid h.told
  clear h c0 c2 c3 f1 f2 f3
  go_enter Tryz.func16, Tryz.ntmps16
  go_wp2_with fail
  go_loop [3, 4] (fun n i => ∃ j nn : Nat, j ≤ L.length ∧ i = .int .i64 j ∧ n = .int .i64 nn ∧ nn ≤ 16777216000 ∧ Hid (nn = used ((L.take j).map D.m))) (fun _ i => L.length + 1 - (intOf i).toNat)
  case atStart => exact ⟨0, 0, by omega, rfl, rfl, by omega, Lib.hid rfl⟩
  case round =>
    obtain ⟨j, nn, hj, rfl, rfl, hnn, hn⟩ := hrel
    by_cases hlt : j < L.length
    · obtain ⟨d, hd⟩ : ∃ d, L[j]? = some d := ⟨_, List.getElem?_eq_getElem hlt⟩
      obtain ⟨gl, hA, _, p1, _, _, _⟩ := H.out.place hd
      subst hA
      have hut := used_take hd
      have hle : nn + d.bs.length ≤ 16777216000 := by
        have h1 := used_sub L (j + 1)
        rw [← HT.out] at h1
        have h2 := hn.out
        omega
      have HN : Hid (nn + d.bs.length = used ((L.take (j + 1)).map D.m)) := Lib.hid (by rw [hut, ← hn.out])
      have dl : decide (j < L.length) = true := decide_eq_true hlt
      clear hd hut
      go_wp2_with fail
      go_round
      case rel => exact ⟨j + 1, nn + d.bs.length, by omega, by go_num, by go_num, hle, HN⟩
      case measure => simp [intOf]; omega
    · have dl : decide (j < L.length) = false := decide_eq_false hlt
      have E : Hid (nn = used m.fs) := Lib.hid (by rw [hn.out, HT.out, List.take_of_length_le (by omega)])
      go_wp2_with fail
      go_ret
      exact ⟨by rw [← E.out]; rfl, rfl⟩

/-- Where the file is, or why the call ends. -/
def Found (w : World) (g : Nat) (S : Nat → Prop) (rm : Int) (m : MS) (L : List D) (A : Option Addr) (c : Nat) (nm : ByteArray) (e : Ending) (w' : World) : Prop :=
  ∃ F' cf', Keep (· = g) w w' ∧ Lay w' g S rm (hit m).2 L A F' c cf' ∧
    ((∃ d, L[idx m.fs nm]? = some d ∧ d.nm = nm ∧ (∀ {α : Type} (no : Nat → α) (k : FM → α), onFile m [nm] nm no k = k d.m) ∧ e = .returned (.tuple #[.int .i64 (idx m.fs nm : Nat), .int .i64 0])) ∨
      ∃ er : Nat, er ≠ 0 ∧ (∀ {α : Type} (no : Nat → α) (k : FM → α), onFile m [nm] nm no k = no er) ∧ e = .returned (.tuple #[.int .i64 0, .int .i64 (er : Int)]))
set_option maxRecDepth 100000 in
set_option maxHeartbeats 400000 in
theorem found_any (nm : ByteArray) (hn : nm.size ≤ 1000) (h : Lay w g S rm m L A F c cf) (hf : m.failed ≤ 1000000) :
    Calls Tryz.prog (61) #[.pointer (some ⟨g, 0, none⟩), .string nm] w (Found w g S rm m L A c nm) := by
  have HD := Lib.hid (down_any h hf)
  have HT := Lib.hid h.told
  have HSO := Lib.hid h.sorted
  clear h
  go_enter Tryz.func61, Tryz.ntmps61
  go_wp2_with fail
  refine HD.out.mono ?_
  rintro e W1 ⟨F1, cf1, rfl, hk1, hL1⟩
  have HK := Lib.hid hk1
  have HL := Lib.hid hL1
  clear hk1 hL1 HD
  cases hh : (hit m).1
  · cases hnm : nmB nm
    · have E : Hid (bad m [nm] = 6) := Lib.hid (by unfold bad; rw [hh]; simp [hnm])
      clear hh
      go_wp2_with (go_at_call 27; refine (named_any nm _ hn).mono ?_; rintro e w' ⟨rfl, rfl⟩)
      go_returns
      exact ⟨F1, cf1, HK.out, HL.out, .inr ⟨6, by decide, fun no k => by unfold onFile; rw [E.out, if_pos (by decide)], rfl⟩⟩
    · have E : Hid (bad m [nm] = 0) := Lib.hid (by unfold bad; rw [hh]; simp [hnm])
      have hat := at_any nm HL.out
      have hfs : (hit m).2.fs = m.fs := (hit_fs m).1
      rw [hfs] at hat
      have HAT := Lib.hid hat
      clear hh hat hfs
      cases hia : isAt m.fs nm
      · have hg := (idx_get (nm := nm) HSO.out).2 hia
        rw [hia] at HAT
        have E2 : ∀ {α : Type} (no : Nat → α) (k : FM → α), onFile m [nm] nm no k = no 8 := fun no k => by unfold onFile; rw [E.out, if_neg (by decide), hg]
        clear hia hg
        go_wp2_with (first
          | (go_at_call 27; refine (named_any nm _ hn).mono ?_; rintro e w' ⟨rfl, rfl⟩)
          | (go_at_call 28; refine HAT.out.mono ?_; rintro e w2 ⟨rfl, hb2⟩; have HB2 := Lib.hid hb2; clear hb2))
        go_returns
        exact ⟨F1, cf1, HK.out.trans (T := fun _ => False) (below_keep HB2.out) fun _ _ h => h.elim, HL.out.keep (T := fun _ => False) (below_keep HB2.out) fun _ _ => id, .inr ⟨8, by decide, E2, rfl⟩⟩
      · obtain ⟨f, hf1, hg⟩ := (idx_get (nm := nm) HSO.out).1 hia
        rw [hia] at HAT
        have hd : ∃ d, L[idx m.fs nm]? = some d ∧ d.m = f := by
          rw [HT.out, List.getElem?_map] at hf1
          obtain ⟨d, h1, h2⟩ := Option.map_eq_some_iff.1 hf1
          exact ⟨d, by rw [HT.out]; exact h1, h2⟩
        obtain ⟨d, hd1, hd2⟩ := hd
        subst hd2
        have hdn : d.nm = nm := (by simpa using List.find?_some hg : d.m.nm = nm)
        have HDD := Lib.hid hd1
        have E2 : ∀ {α : Type} (no : Nat → α) (k : FM → α), onFile m [nm] nm no k = k d.m := fun no k => by unfold onFile; rw [E.out, if_neg (by decide), hg]
        have HDN := Lib.hid hdn
        clear hia hg hf1 hd1 hdn
        go_wp2_with (first
          | (go_at_call 27; refine (named_any nm _ hn).mono ?_; rintro e w' ⟨rfl, rfl⟩)
          | (go_at_call 28; refine HAT.out.mono ?_; rintro e w2 ⟨rfl, hb2⟩; have HB2 := Lib.hid hb2; clear hb2))
        go_returns
        exact ⟨F1, cf1, HK.out.trans (T := fun _ => False) (below_keep HB2.out) fun _ _ h => h.elim, HL.out.keep (T := fun _ => False) (below_keep HB2.out) fun _ _ => id, .inl ⟨d, HDD.out, HDN.out, E2, rfl⟩⟩
  · have E : Hid (bad m [nm] = 11) := Lib.hid (by unfold bad; rw [hh]; rfl)
    clear hh
    go_wp2_with fail
    go_returns
    exact ⟨F1, cf1, HK.out, HL.out, .inr ⟨11, by decide, fun no k => by unfold onFile; rw [E.out, if_pos (by decide)], rfl⟩⟩
end
end Go.Proofs.YtnbknihaefkllaaGreatDoor.Rk
/- The document's own disk: one file is written; Sync, Size, Read. -/
namespace Go.Proofs.YtnbknihaefkllaaGreatDoor.Rk
set_option linter.unusedVariables false
set_option linter.unusedSimpArgs false
open Go.RowKit Go.Maps Lift Ik Dk

theorem own_set {w : World} {gb n c j e size : Nat} {xs : List Value} {u : Value} (h : w.ownsRow 0 e size (.slice (some ⟨gb, 0, none⟩) n c) n xs) (hj : j < xs.length) : (w.setCell ⟨gb, j, none⟩ u).ownsRow 0 e size (.slice (some ⟨gb, 0, none⟩) n c) n (xs.set j u) := by
  refine ⟨by rw [List.length_set]; exact h.1, ?_⟩
  rcases h.2 with ⟨h0, _⟩ | ⟨g, cap, cur, hv, hB, hh, h1, h2, h3, h4⟩
  · cases h0
  · injection hv with e1 e2 e3
    injection e1 with e1
    injection e1 with e1
    subst e1 e3
    refine .inr ⟨gb, c, (cur.toList.set j u).toArray, rfl, hB, ?_, h1, h2, by simpa using h3, ?_⟩
    · rw [heap_setCell_same w gb j _ _ _ hh]
      have e : cur.setIfInBounds j u = (cur.toList.set j u).toArray := Array.toList_inj.1 (by simp)
      rw [e]
    · have hlt : j < n * size := by rw [h.1] at hj; exact hj
      rw [← h4, List.take_set]
theorem set_same {α : Type} {l : List α} {i : Nat} {x : α} (h : l[i]? = some x) : l.set i x = l := by
  have hl := (List.getElem?_eq_some_iff.1 h).1
  apply List.ext_getElem?
  intro j
  by_cases e : i = j
  · subst e; rw [List.getElem?_set_self hl, h]
  · rw [List.getElem?_set_ne e]
theorem cellsL_set (L : List D) : ∀ (i : Nat) (d d' : D), L[i]? = some d → d'.nm = d.nm →
    cellsL (L.set i d') = ((cellsL L).set (i * 3 + 1) (.slice d'.a d'.bs.length d'.c)).set (i * 3 + 2) (.int .i64 (d'.syn : Int)) := by
  induction L with
  | nil => intro i d d' h; simp at h
  | cons x L ih =>
    intro i d d' h hn
    have hc : ∀ (y : D) (M : List D), cellsL (y :: M) = y.cells ++ cellsL M := fun _ _ => rfl
    cases i with
    | zero =>
      simp at h
      subst h
      rw [List.set_cons_zero, hc, hc]
      simp [D.cells, hn]
    | succ i =>
      simp at h
      rw [List.set_cons_succ, hc, hc, ih i d d' h hn]
      have hl : x.cells.length = 3 := rfl
      rw [List.set_append_right _ _ (by rw [hl]; omega), List.set_append_right _ _ (by rw [hl]; omega), hl]
      rw [show (i + 1) * 3 + 1 - 3 = i * 3 + 1 by omega, show (i + 1) * 3 + 2 - 3 = i * 3 + 2 by omega]
theorem set_told {L : List D} {i : Nat} {d d' : D} (hp : (L.map D.m).Pairwise fun a b => a.nm ≠ b.nm) (h : L[i]? = some d) (hn : d'.nm = d.nm) : (L.set i d').map D.m = put1 (L.map D.m) d'.m := by
  induction L generalizing i with
  | nil => simp at h
  | cons x L ih =>
    rw [List.map_cons] at hp
    obtain ⟨h1, h2⟩ := List.pairwise_cons.1 hp
    cases i with
    | zero =>
      simp at h
      subst h
      rw [List.set_cons_zero, List.map_cons, List.map_cons, put_head (show x.m.nm = d'.m.nm from hn.symm)]
      congr 1
      unfold put1
      conv => lhs; rw [← List.map_id (L.map D.m)]
      refine List.map_congr_left fun y hy => ?_
      show y = if y.nm = d'.m.nm then d'.m else y
      rw [if_neg fun e => h1 y hy (show x.nm = y.nm by rw [e]; exact hn.symm)]
    | succ i =>
      simp at h
      rw [List.set_cons_succ, List.map_cons, List.map_cons, put_tail (fun e => h1 d.m (List.mem_map.2 ⟨d, List.mem_of_getElem? h, rfl⟩) (by rw [show x.m.nm = d'.m.nm from e]; exact hn)), ih h2 h]
section
variable {w w' : World} {g : Nat} {S S' T : Nat → Prop} {rm : Int} {m : MS} {L : List D} {A F : Option Addr} {c cf : Nat}
theorem Lay.apart (h : Lay w g S rm m L A F c cf) : m.fs.Pairwise fun a b => a.nm ≠ b.nm := h.sorted.imp before_ne
/-- One file is written. -/
theorem Lay.put {i : Nat} {d d' : D} (h : Lay w g S rm m L A F c cf) (hd : L[i]? = some d) (hn : d'.nm = d.nm) (hk : Keep (fun k => (Value.slice A L.length c).ownBlock = some k) w w')
    (ho : w'.ownsRow 0 Ty.file 3 (.slice A L.length c) L.length (cellsL (L.set i d'))) (hok : d'.Ok w' S') (hS : ∀ k, S k → S' k) (hlt : ∀ k, S' k → k < w'.heap.size) :
    Lay w' g S' rm { m with fs := put1 m.fs d'.m } (L.set i d') A F c cf := by
  have hg : ¬ (Value.slice A L.length c).ownBlock = some g := own_apart h.own h.box (by decide)
  have hty : ∀ k, (Value.slice A L.length c).ownBlock = some k → ∃ cs fr, w.heap[k]? = some (.cells cs Ty.file fr) := fun k hk => by
    rcases h.own.2 with ⟨h0, _⟩ | ⟨b, cap, cur, hv', _, hh, _⟩
    · rw [h0] at hk; simp [Value.ownBlock] at hk
    · rw [hv'] at hk
      simp [Value.ownBlock] at hk
      subst hk
      exact ⟨_, _, hh⟩
  have hl : (L.set i d').length = L.length := List.length_set
  have ht : put1 m.fs d'.m = (L.set i d').map D.m := by rw [h.told, set_told (by rw [← h.told]; exact h.apart) hd hn]
  refine ⟨by rw [hl]; exact h.box.keep hk hg, hS g h.sg, by rw [hl]; exact ho, fun k hk1 => hS k (h.so k (by rw [hl] at hk1; exact hk1)), fun x hx => ?_, ht, h.armed.keep hk (fun k ht _ hh => by
      obtain ⟨cs, fr, hh⟩ := hh
      obtain ⟨cs', fr', h1⟩ := hty k ht
      exact typed h1 hh (by decide)) hS, h.capf, h.capm, h.wf, hlt, h.room, h.rwf, by rw [hl]; exact h.many, ?_⟩
  · rcases List.mem_or_eq_of_mem_set hx with hx | rfl
    · exact (h.ok x hx).keep hk (fun k ht _ hh => by
        obtain ⟨cs, fr, hh⟩ := hh
        obtain ⟨cs', fr', h1⟩ := hty k ht
        exact typed h1 hh (by decide)) hS
    · exact hok
  · show (put1 m.fs d'.m).Pairwise before
    have hf : ∀ x : FM, (if x.nm = d'.m.nm then d'.m else x).nm = x.nm := fun x => by
      split
      · rename_i e; exact e.symm
      · rfl
    unfold put1
    rw [List.pairwise_map]
    exact h.sorted.imp fun {a b} hab => by
      unfold before at hab ⊢
      rw [hf a, hf b]
      exact hab
theorem Lay.ownAt (h : Lay w g S rm m L A F c cf) {gl : Nat} (hA : A = some ⟨gl, 0, none⟩) : (Value.slice A L.length c).ownBlock = some gl := by rw [hA]; rfl

theorem rsize_any (nm : ByteArray) (hn : nm.size ≤ 1000) (h : At w g S rm m) (hf : m.failed ≤ 1000000) : Calls Tryz.prog (35) #[.pointer (some ⟨g, 0, none⟩), .string nm] w fun e w' =>
    e = .returned (.tuple #[.int .i64 ((sizeM m nm).2 : Int), .int .i64 ((sizeM m nm).1 : Int)]) ∧ At w' g S rm (hit m).2 ∧ Keep (· = g) w w' := by
  obtain ⟨L, A, F, c, cf, h⟩ := h
  have HF := Lib.hid (found_any nm hn h hf)
  obtain ⟨hcap, hcm⟩ := h.cap
  clear h
  go_enter Tryz.func35, Tryz.ntmps35
  go_wp2_with fail
  refine HF.out.mono ?_
  rintro e W1 ⟨F1, cf1, hk1, hL1, hc⟩
  have HK := Lib.hid hk1
  have HL := Lib.hid hL1
  rcases hc with ⟨d, hd, _, hE, rfl⟩ | ⟨er, hne, hE, rfl⟩
  · obtain ⟨p0, p1, _⟩ := hL1.facts
    have hlt := (List.getElem?_eq_some_iff.1 hd).1
    obtain ⟨gl, hA, _, q1, _, _, _⟩ := hL1.place hd
    subst hA
    have E : Hid (sizeM m nm = (0, d.bs.length)) := Lib.hid (hE _ _)
    obtain ⟨i, hi⟩ : ∃ i, i = idx m.fs nm := ⟨_, rfl⟩
    rw [← hi] at q1 hlt ⊢
    clear hk1 hL1 HF hd hE hi
    go_wp2_with fail
    go_returns
    exact ⟨by rw [E.out]; rfl, HL.out.toAt, HK.out⟩
  · have E : Hid (sizeM m nm = (er, 0)) := Lib.hid (hE _ _)
    have d1 : ((er : Int) != 0) = true := by rw [bne_iff_ne]; omega
    clear hk1 hL1 HF hne hE
    go_wp2_with fail
    go_returns
    exact ⟨by rw [E.out]; rfl, HL.out.toAt, HK.out⟩

set_option maxRecDepth 100000 in
set_option maxHeartbeats 1000000 in
theorem rsync_any (nm : ByteArray) (hn : nm.size ≤ 1000) (h : At w g S rm m) (hf : m.failed ≤ 1000000) : Calls Tryz.prog (37) #[.pointer (some ⟨g, 0, none⟩), .string nm] w fun e w' =>
    e = .returned (.int .i64 ((syncM m nm).1 : Int)) ∧ At w' g S rm (syncM m nm).2 ∧ Keep S w w' := by
  obtain ⟨L, A, F, c, cf, h⟩ := h
  have HF := Lib.hid (found_any nm hn h hf)
  obtain ⟨hcap, hcm⟩ := h.cap
  have HSG := Lib.hid h.sg
  clear h
  go_enter Tryz.func37, Tryz.ntmps37
  go_wp2_with fail
  refine HF.out.mono ?_
  rintro e W1 ⟨F1, cf1, hk1, hL1, hc⟩
  have HK := Lib.hid hk1
  have HL := Lib.hid hL1
  rcases hc with ⟨d, hd, hdn, hE, rfl⟩ | ⟨er, hne, hE, rfl⟩
  · obtain ⟨p0, p1, _⟩ := hL1.facts
    have hlt := (List.getElem?_eq_some_iff.1 hd).1
    obtain ⟨gl, hA, _, q1, q2, _, z2⟩ := hL1.place hd
    subst hA
    have E : Hid (syncM m nm = (0, { (hit m).2 with fs := put1 m.fs ⟨d.nm, d.bs, d.bs.length⟩ })) := Lib.hid (hE _ _)
    obtain ⟨i, hi⟩ : ∃ i, i = idx m.fs nm := ⟨_, rfl⟩
    rw [← hi] at q1 q2 z2 hlt hd ⊢
    have HD := Lib.hid hd
    have HP := Lib.hid p1
    have Q1 := Lib.hid q1
    have Q2 := Lib.hid q2
    have Z2 := Lib.hid z2
    have HGL : Hid (¬ gl = g) := Lib.hid fun e => by
      subst e
      exact own_apart hL1.own hL1.box (by decide) rfl
    obtain ⟨nb, hnb⟩ : ∃ nb, nb = d.bs.length := ⟨_, rfl⟩
    rw [← hnb] at Q1 q1
    have HNB := Lib.hid hnb
    clear hk1 hL1 HF hd hE hi p0 p1 q1 q2 z2 hnb
    go_wp2_with fail
    refine wp_region_held_drew (S := fun w' => Hid (Keep (fun j => j = gl) W1 w')) (by kernel_rfl) (Lib.hid (Keep.refl _ _).drew) (fun hS => ?_)
    refine wpAnyH_take (i := 0) (v := ?_) rfl (by kernel_rfl) (by kernel_rfl) (by kernel_rfl) (fun _ _ _ h => h) (Or.inl ⟨by rfl, ?_⟩) hS ?_
    rotate_left
    · intro w hw
      go_simp
      try with_reducible rfl
    try simp only [Act.put, List.getElem_toArray, List.getElem_cons_succ, List.getElem_cons_zero, List.setIfInBounds_toArray, List.set_cons_zero, List.set_cons_succ]
    refine wpAnyH_take (i := 1) (v := ?_) rfl (by kernel_rfl) (by kernel_rfl) (by kernel_rfl) (fun _ _ _ h => h) (Or.inl ⟨by rfl, ?_⟩) hS ?_
    rotate_left
    · intro w hw
      go_simp
      try with_reducible rfl
    try simp only [Act.put, List.getElem_toArray, List.getElem_cons_succ, List.getElem_cons_zero, List.setIfInBounds_toArray, List.set_cons_zero, List.set_cons_succ]
    refine wpAnyH_take (i := 2) (v := ?_) rfl (by kernel_rfl) (by kernel_rfl) (by kernel_rfl) (fun _ _ _ h => h) (Or.inl ⟨by rfl, ?_⟩) hS ?_
    rotate_left
    · intro w hw
      go_simp
      try with_reducible rfl
    try simp only [Act.put, List.getElem_toArray, List.getElem_cons_succ, List.getElem_cons_zero, List.setIfInBounds_toArray, List.set_cons_zero, List.set_cons_succ]
    refine wpAnyH_take (i := 3) (v := ?_) rfl (by kernel_rfl) (by kernel_rfl) (by kernel_rfl) (fun _ _ _ h => h) (Or.inl ⟨by rfl, ?_⟩) hS ?_
    rotate_left
    · intro w hw
      have p1 : w.cell? ⟨g, 1, none⟩ = some (.slice (some ⟨gl, 0, none⟩) L.length c) := (World.cell?_of_block (w := W1) (hw.out.block g (HL.out.lt g HL.out.sg) (fun e => HGL.out e.symm))).trans HP.out
      go_simp
      try with_reducible rfl
    try simp only [Act.put, List.getElem_toArray, List.getElem_cons_succ, List.getElem_cons_zero, List.setIfInBounds_toArray, List.set_cons_zero, List.set_cons_succ]
    refine wpAnyH_take (i := 4) (v := ?_) rfl (by kernel_rfl) (by kernel_rfl) (by kernel_rfl) (fun _ _ _ h => h) (Or.inl ⟨by rfl, ?_⟩) hS ?_
    rotate_left
    · intro w hw
      go_simp
      try with_reducible rfl
    try simp only [Act.put, List.getElem_toArray, List.getElem_cons_succ, List.getElem_cons_zero, List.setIfInBounds_toArray, List.set_cons_zero, List.set_cons_succ]
    refine wpAnyH_take (i := 5) (v := ?_) rfl (by kernel_rfl) (by kernel_rfl) (by kernel_rfl) (fun _ _ _ h => h) (Or.inl ⟨by rfl, ?_⟩) hS ?_
    rotate_left
    · intro w hw
      go_simp
      try with_reducible rfl
    try simp only [Act.put, List.getElem_toArray, List.getElem_cons_succ, List.getElem_cons_zero, List.setIfInBounds_toArray, List.set_cons_zero, List.set_cons_succ]
    refine wpAnyH_take (i := 6) (v := ?_) rfl (by kernel_rfl) (by kernel_rfl) (by kernel_rfl) (fun _ _ _ h => h) (Or.inl ⟨by rfl, ?_⟩) hS ?_
    rotate_left
    · intro w hw
      go_simp
      try with_reducible rfl
    try simp only [Act.put, List.getElem_toArray, List.getElem_cons_succ, List.getElem_cons_zero, List.setIfInBounds_toArray, List.set_cons_zero, List.set_cons_succ]
    refine wpAnyH_take (i := 7) (v := ?_) rfl (by kernel_rfl) (by kernel_rfl) (by kernel_rfl) (fun _ _ _ h => h) (Or.inl ⟨by rfl, ?_⟩) hS ?_
    rotate_left
    · intro w hw
      go_simp
      try with_reducible rfl
    try simp only [Act.put, List.getElem_toArray, List.getElem_cons_succ, List.getElem_cons_zero, List.setIfInBounds_toArray, List.set_cons_zero, List.set_cons_succ]
    refine wpAnyH_take (i := 8) (v := ?_) rfl (by kernel_rfl) (by kernel_rfl) (by kernel_rfl) (fun _ _ _ h => h) (Or.inl ⟨by rfl, ?_⟩) hS ?_
    rotate_left
    · intro w hw
      have p1 : w.cell? ⟨g, 1, none⟩ = some (.slice (some ⟨gl, 0, none⟩) L.length c) := (World.cell?_of_block (w := W1) (hw.out.block g (HL.out.lt g HL.out.sg) (fun e => HGL.out e.symm))).trans HP.out
      go_simp
      try with_reducible rfl
    try simp only [Act.put, List.getElem_toArray, List.getElem_cons_succ, List.getElem_cons_zero, List.setIfInBounds_toArray, List.set_cons_zero, List.set_cons_succ]
    refine wpAnyH_take (i := 9) (v := ?_) rfl (by kernel_rfl) (by kernel_rfl) (by kernel_rfl) (fun _ _ _ h => h) (Or.inl ⟨by rfl, ?_⟩) hS ?_
    rotate_left
    · intro w hw
      go_simp
      try with_reducible rfl
    try simp only [Act.put, List.getElem_toArray, List.getElem_cons_succ, List.getElem_cons_zero, List.setIfInBounds_toArray, List.set_cons_zero, List.set_cons_succ]
    refine wpAnyH_take (i := 10) (v := ?_) rfl (by kernel_rfl) (by kernel_rfl) (by kernel_rfl) (fun _ _ _ h => h) (Or.inl ⟨by rfl, ?_⟩) hS ?_
    rotate_left
    · intro w hw
      go_simp
      try with_reducible rfl
    try simp only [Act.put, List.getElem_toArray, List.getElem_cons_succ, List.getElem_cons_zero, List.setIfInBounds_toArray, List.set_cons_zero, List.set_cons_succ]
    refine wpAnyH_take (i := 11) (v := ?_) rfl (by kernel_rfl) (by kernel_rfl) (by kernel_rfl) (fun _ _ _ h => h) (Or.inl ⟨by rfl, ?_⟩) hS ?_
    rotate_left
    · intro w hw
      go_simp
      try with_reducible rfl
    try simp only [Act.put, List.getElem_toArray, List.getElem_cons_succ, List.getElem_cons_zero, List.setIfInBounds_toArray, List.set_cons_zero, List.set_cons_succ]
    refine wpAnyH_ready (rs := [12]) (by kernel_rfl) (by simp) ?_
    refine AllReadyH.cons rfl (fun K hK => ?_) AllReadyH.nil
    have q1 : W1.cell? ⟨gl, i * 3 + 1, none⟩ = some (.slice d.a nb d.c) := Q1.out
    go_simp
    refine hK.out _ _ hS (fun hS => ?_)
    clear hK K
    try simp only [Act.put, List.getElem_toArray, List.getElem_cons_succ, List.getElem_cons_zero, List.setIfInBounds_toArray, List.set_cons_zero, List.set_cons_succ]
    refine wpAnyH_take (i := 13) (v := ?_) rfl (by kernel_rfl) (by kernel_rfl) (by kernel_rfl) (fun _ _ _ h => h) (Or.inl ⟨by rfl, ?_⟩) hS ?_
    rotate_left
    · intro w hw
      go_simp
      try with_reducible rfl
    try simp only [Act.put, List.getElem_toArray, List.getElem_cons_succ, List.getElem_cons_zero, List.setIfInBounds_toArray, List.set_cons_zero, List.set_cons_succ]
    refine wpAnyH_take (i := 14) (v := ?_) rfl (by kernel_rfl) (by kernel_rfl) (by kernel_rfl) (fun _ _ _ h => h) (Or.inl ⟨by rfl, ?_⟩) hS ?_
    rotate_left
    · intro w hw
      go_simp
      try with_reducible rfl
    try simp only [Act.put, List.getElem_toArray, List.getElem_cons_succ, List.getElem_cons_zero, List.setIfInBounds_toArray, List.set_cons_zero, List.set_cons_succ]
    refine wpAnyH_take (i := 15) (v := ?_) rfl (by kernel_rfl) (by kernel_rfl) (by kernel_rfl) (fun _ _ _ h => h) (Or.inl ⟨by rfl, ?_⟩) hS ?_
    rotate_left
    · intro w hw
      go_simp
      try with_reducible rfl
    try simp only [Act.put, List.getElem_toArray, List.getElem_cons_succ, List.getElem_cons_zero, List.setIfInBounds_toArray, List.set_cons_zero, List.set_cons_succ]
    refine wpAnyH_ready (rs := [16]) (by kernel_rfl) (by simp) ?_
    refine AllReadyH.cons rfl (fun K hK => ?_) AllReadyH.nil
    have q2 := Q2.out
    have z2 := Z2.out
    go_simp
    refine hK.out _ _ (Lib.hid ((Keep.refl (fun j => j = gl) W1).drew.setCell (p := ⟨gl, i * 3 + 2, none⟩) (.inr rfl) _)) (fun hS => ?_)
    clear hK K q2 z2
    try simp only [Act.put, List.getElem_toArray, List.getElem_cons_succ, List.getElem_cons_zero, List.setIfInBounds_toArray, List.set_cons_zero, List.set_cons_succ]
    refine wpAnyH_done (by kernel_rfl) ?_ _
    go_wp2_with fail
    go_ret
    have hd := HD.out
    have hnb := HNB.out
    have hcl := cellsL_set L i d ⟨d.nm, d.a, d.c, d.bs, d.bs.length⟩ hd rfl
    have hlen := cellsL_length L
    have hkk : Keep (fun k => (Value.slice (some (⟨gl, 0, none⟩ : Addr)) L.length c).ownBlock = some k) W1 (W1.setCell ⟨gl, i * 3 + 2, none⟩ (.int .i64 (nb : Int))) := (Keep.refl (fun k => (Value.slice (some (⟨gl, 0, none⟩ : Addr)) L.length c).ownBlock = some k) W1).setCell (p := ⟨gl, i * 3 + 2, none⟩) (.inr rfl) _
    have hown := own_set (u := .int .i64 (nb : Int)) HL.out.own (show i * 3 + 2 < (cellsL L).length by rw [hlen]; omega)
    have hset : (cellsL L).set (i * 3 + 1) (.slice d.a d.bs.length d.c) = cellsL L := by
      have h1 := cellsL_at hd 1 (by omega)
      exact set_same h1
    have hown2 : (W1.setCell ⟨gl, i * 3 + 2, none⟩ (.int .i64 (nb : Int))).ownsRow 0 Ty.file 3 (.slice (some ⟨gl, 0, none⟩) L.length c) L.length (cellsL (L.set i ⟨d.nm, d.a, d.c, d.bs, d.bs.length⟩)) := by
      rw [hcl]
      simp only
      rw [hset, ← hnb]
      exact hown
    have ok := HL.out.ok d (List.mem_of_getElem? hd)
    have hL2 := HL.out.put (S' := S) (d' := ⟨d.nm, d.a, d.c, d.bs, d.bs.length⟩) hd rfl hkk hown2
      (show D.Ok _ S ⟨d.nm, d.a, d.c, d.bs, d.bs.length⟩ from by
        have o2 := ok.keep hkk (fun k hk _ hh => by
          obtain ⟨cs, fr, hh⟩ := hh
          rcases HL.out.own.2 with ⟨h0, _⟩ | ⟨b, cap, cur, hv', _, hh', _⟩
          · cases h0
          · injection hv' with e1
            injection e1 with e1
            injection e1 with e1
            subst e1
            have e2 : gl = k := by simpa [Value.ownBlock] using hk
            subst e2
            exact typed hh' hh (by decide)) (S' := S) fun _ => id
        exact ⟨o2.lies, o2.cap, o2.max, o2.byte, o2.len, Nat.le_refl _, o2.nm⟩) (fun _ => id) (fun k hk => by have := HL.out.lt k hk; simpa [World.setCell] using this)
    refine ⟨by rw [E.out]; rfl, ?_, ?_⟩
    · rw [E.out]
      have hA := (hL2.keep (T := fun _ => False) (Keep.refl _ _).drew fun _ _ => id).toAt
      have hfs := (hit_fs m).1
      rw [hfs] at hA
      exact hA
    · have hs : S gl := HL.out.so gl rfl
      exact ((HK.out.mono (T := S) fun k hk => by rw [hk]; exact HSG.out).setCell (p := ⟨gl, i * 3 + 2, none⟩) (.inr hs) _).drew
  · have E : Hid (syncM m nm = (er, (hit m).2)) := Lib.hid (hE _ _)
    have d1 : ((er : Int) != 0) = true := by rw [bne_iff_ne]; omega
    clear hk1 hL1 HF hne hE
    go_wp2_with fail
    go_ret
    exact ⟨by rw [E.out]; rfl, by rw [E.out]; exact HL.out.toAt, HK.out.mono fun k hk => by rw [hk]; exact HSG.out⟩
end
end Go.Proofs.YtnbknihaefkllaaGreatDoor.Rk
/- The document's own disk: a file goes. -/
namespace Go.Proofs.YtnbknihaefkllaaGreatDoor.Rk
set_option linter.unusedVariables false
set_option linter.unusedSimpArgs false
open Go.RowKit Go.Maps Lift Ik Dk

theorem drop_at3 (A : Option Addr) (n c p : Nat) (h : p ≤ n) (hc : n ≤ c) (hm : c ≤ 9223372036854775807) :
    ∃ A' : Option Addr, (0 < n - p → A' = A.map (·.add (p * 3))) ∧ ∀ W : World, Sem.run Tryz.prog (Instr.slice 55 (.slice A n c) (some (.int .i64 (p : Int))) none none) W = .ok (.slice A' (n - p) (c - p)) W := by
  by_cases hcp : c = p
  · refine ⟨A, fun h0 => by omega, fun W => ?_⟩
    obtain rfl : n = p := by omega
    subst hcp
    go_simp
  · refine ⟨A.map (·.add (p * 3)), fun _ => rfl, fun W => ?_⟩
    go_simp
theorem upto_at3 (A : Option Addr) (n c k : Nat) (h : k ≤ c) (hc : n ≤ c) (hm : c ≤ 9223372036854775807) (W : World) : Sem.run Tryz.prog (Instr.slice 55 (.slice A n c) none (some (.int .i64 (k : Int))) none) W = .ok (.slice A k c) W := by
  go_simp
theorem append_files {w : World} {base B k c : Nat} {v : Value} {A : Option Addr} {L M : List D} (hown : w.ownsRow base Ty.file 3 v L.length (cellsL L)) (hl : Lies w B A (cellsL M)) (hk : M.length = k) (hn : L.length + M.length ≤ 2000) (hbase : base ≤ w.heap.size) :
    ∃ v' w', Sem.run Tryz.prog (Builtin.append_ #[55, 55] 55 #[v, .slice A k c]) w = .ok v' w' ∧ w'.ownsRow base Ty.file 3 v' (L ++ M).length (cellsL (L ++ M)) ∧ Below base w w' ∧ w.heap.size ≤ w'.heap.size := by
  subst hk
  obtain ⟨v', w', h1, h2, h3, h4⟩ := run_append_lies (P := Tryz.prog) (m := M.length) (c := c) 55 55 67 (.agg #[.string ⟨#[]⟩, .slice none 0 0, .int .i64 0]) 3 48 Tryz.underlying55 (by kernel_rfl) rfl (by decide)
    cellsL_one hown hl (cellsL_length M) (by unfold maxLen; omega) (by omega) hbase
  exact ⟨v', w', h1, by rw [List.length_append, cellsL_append]; exact h2, h3, h4⟩
theorem cellsL_take (L : List D) (k : Nat) : cellsL (L.take k) <+: cellsL L := by
  conv => rhs; rw [← List.take_append_drop k L]
  rw [cellsL_append]
  exact List.prefix_append _ _
theorem lies_drop {w : World} {B : Nat} {A A' : Option Addr} {L : List D} {p : Nat} (h : Lies w B A (cellsL L)) (hA : 0 < L.length - p → A' = A.map (·.add (p * 3))) : Lies w B A' (cellsL (L.drop p)) := by
  by_cases h0 : L.length - p = 0
  · left
    rw [List.drop_of_length_le (by omega)]
    rfl
  · obtain ⟨ad, rfl, hb, hc⟩ := h.place (by rw [cellsL_length]; omega)
    refine .inr ⟨ad.add (p * 3), hA (by omega), by rw [add_block]; exact hb, fun j u hj => ?_⟩
    rw [Lift.add_add]
    refine hc _ _ ?_
    have e : cellsL L = cellsL (L.take p) ++ cellsL (L.drop p) := by rw [← cellsL_append, List.take_append_drop]
    have hl : (cellsL (L.take p)).length = p * 3 := by rw [cellsL_length, List.length_take, Nat.min_eq_left (by omega)]
    rw [e, List.getElem?_append_right (by rw [hl]; omega), hl, Nat.add_sub_cancel_left]
    exact hj
section
variable {w w' : World} {g : Nat} {S S' T : Nat → Prop} {rm : Int} {m : MS} {L : List D} {A F : Option Addr} {c cf : Nat}
/-- A new list of files. -/
theorem Lay.fresh {L' : List D} {A' : Option Addr} {c' : Nat} (h : Lay w g S rm m L A F c cf) (hk : Keep (· = g) w w') (hb : Box w' g Ty.disk [.int .i64 rm, .slice A' L'.length c', .slice F m.armed.length cf, .int .i64 (m.failed : Int)])
    (ho : w'.ownsRow w.heap.size Ty.file 3 (.slice A' L'.length c') L'.length (cellsL L')) (hok : ∀ d, d ∈ L' → d.Ok w S) (hn : L'.length ≤ 1000) (hs : (L'.map D.m).Pairwise before) :
    Lay w' g (Gr S w w') rm { m with fs := L'.map D.m } L' A' F c' cf := by
  refine ⟨hb, .inl h.sg, Joins.ownsRow_le ho (Nat.zero_le _), fun k hk1 => .inr (ho.lt k hk1), fun d hd => (hok d hd).keep hk (fun k ht _ hh => ?_) (fun k hk => .inl hk), rfl,
    h.armed.keep hk (fun k ht _ hh => ?_) (fun k hk => .inl hk), h.capf, h.capm, h.wf, fun k hk1 => hk1.elim (fun h1 => Nat.lt_of_lt_of_le (h.lt k h1) hk.size) fun h1 => h1.2, h.room, h.rwf, hn, hs⟩
  · obtain ⟨cs, fr, hh⟩ := hh
    rw [ht] at hh
    exact typed h.box hh (by decide)
  · obtain ⟨cs, fr, hh⟩ := hh
    rw [ht] at hh
    exact typed h.box hh (by decide)
end
end Go.Proofs.YtnbknihaefkllaaGreatDoor.Rk
/- What List of package disk answers: maps.Keys and slices.Sorted by the library's contracts. -/
namespace Go.Proofs.YtnbknihaefkllaaGreatDoor.Dk
set_option linter.unusedVariables false
set_option linter.unusedSimpArgs false
open Go.RowKit Go.Maps Lift Ik Go.Sort Go.Shelf

theorem keys_told (fs : List Fi) : strKeys (.map (fs.map ent) : DataW Unit) = fs.map fun f => f.nm.data.toList := by
  unfold strKeys
  simp only [List.map_map]
  rfl

section
variable {w w' : World} {g : Nat} {S S' T : Nat → Prop} {m : MS} {fs : List Fi} {M : Option Nat} {A : Option Addr} {c : Nat}
/-- The names, in order. -/
def Listed (w : World) (m : MS) (e : Ending) (w' : World) : Prop :=
  ∃ (ss : List (List UInt8)) (A : Option Addr) (c : Nat), e = .returned (.slice A ss.length c) ∧ ss.Perm (m.fs.map fun f => f.nm.data.toList) ∧ LiesP w' (fun k => w.heap.size ≤ k ∧ k < w'.heap.size) A ((ss.mergeSort (fun x y => decide (x ≤ y))).map encStr) ∧ Below w.heap.size w w'
end
end Go.Proofs.YtnbknihaefkllaaGreatDoor.Dk
/- The document's own disk: NewDisk, Fail, Remove, Read, List; two lists of names. -/
namespace Go.Proofs.YtnbknihaefkllaaGreatDoor.Rk
set_option linter.unusedVariables false
set_option linter.unusedSimpArgs false
open Go.RowKit Go.Maps Lift Ik Dk

section
variable {w w' : World} {g : Nat} {S S' T : Nat → Prop} {rm : Int} {m : MS} {L : List D} {A F : Option Addr} {c cf : Nat}
theorem rnew_any (room : Int) (hr : (Lit.int .i64 room).wf = true) (w : World) :
    Calls Tryz.prog 6 #[.int .i64 room] w fun e w' => ∃ g S, e = .returned (.pointer (some ⟨g, 0, none⟩)) ∧ At w' g S room (newM room) ∧ (∀ k, S k → w.heap.size ≤ k) ∧ Below w.heap.size w w' := by
  go_enter Tryz.func6, Tryz.ntmps6
  go_wp2_with fail
  go_ret
  exact ⟨w.heap.size, (· = w.heap.size), rfl, ⟨[], none, none, 0, 0, ⟨Box.new w Ty.disk [.int .i64 room, .slice none 0 0, .slice none 0 0, .int .i64 0], rfl, World.ownsRow_nil _ _ _ _, fun k hk => by simp [Value.ownBlock] at hk, by simp, rfl, .inl rfl, Nat.le_refl _, by decide, by simp [newM], fun k hk => by rw [hk]; simp, rfl, hr, Nat.zero_le _, List.Pairwise.nil⟩⟩,
    fun k hk => Nat.le_of_eq hk.symm, Joins.below_alloc1 _ _⟩
set_option maxHeartbeats 400000 in
theorem rfail_any (A0 : Option Addr) (k0 : Nat) (l : List Int) (h : At w g S rm m) (hl : Lies w w.heap.size A0 (l.map (Value.int .i64))) (hm : l.length ≤ 1000000) (hw : ∀ x, x ∈ l → (Lit.int .i64 x).wf = true) :
    Calls Tryz.prog (10) #[.pointer (some ⟨g, 0, none⟩), .slice A0 l.length k0] w fun e w' => ∃ S', e = .returned (.tuple #[]) ∧ At w' g S' rm { m with armed := l } ∧ Keep S w w' ∧ ∀ k, S' k → S k ∨ w.heap.size ≤ k := by
  obtain ⟨L, A, F, c, cf, h⟩ := h
  obtain ⟨v2, W2, hr2, hown2, hb2, hs2⟩ := run_append_lies (P := Tryz.prog) (w := w) (base := w.heap.size) (m := l.length) (c := k0) 23 23 3 (.int .i64 0) 1 8 Tryz.underlying23 (by kernel_rfl) rfl (by decide)
      (fun u hu => by simp at hu; obtain ⟨_, _, rfl⟩ := hu; rfl) (World.ownsRow_nil _ _ _ _) hl (by simp) (by unfold maxLen; omega) (by omega) (Nat.le_refl _)
  rw [Nat.zero_add, List.nil_append] at hown2
  have hp := hown2
  obtain ⟨A1, c1, rfl, hc1, hm1, _⟩ := own_parts hp
  have hg := h.lt g h.sg
  have hbx := h.box.below hb2 hg
  have q2 := hbx.cell 2
  have z2 := hbx.free 2
  simp only [List.getElem?_cons_succ, List.getElem?_cons_zero] at q2
  obtain ⟨p0, p1, p2, _⟩ := h.facts
  have H := Lib.hid h
  have HR := Lib.hid hr2
  have HO := Lib.hid hown2
  have HB := Lib.hid hb2
  have HX := Lib.hid hbx
  have HC1 := Lib.hid hc1
  have HM1 := Lib.hid hm1
  have HW := Lib.hid hw
  have HG := Lib.hid hg
  clear h hl hw hown2 hb2 hbx hp hc1 hm1 hr2
  go_enter Tryz.func10, Tryz.ntmps10
  go_wp2_with (at_builtin; refine wpList_append_run rfl _ _ 23 rfl rfl rfl HR.out ?_)
  go_end0
  have hk : Keep (· = g) w (W2.setCell ⟨g, 2, none⟩ (.slice A1 l.length c1)) := (below_keep (S := (· = g)) HB.out).setCell (p := ⟨g, 2, none⟩) (.inr rfl) _
  have hsz : (W2.setCell ⟨g, 2, none⟩ (.slice A1 l.length c1)).heap.size = W2.heap.size := by simp [World.setCell]
  have hne : ∀ k, w.heap.size ≤ k → k ≠ g := fun k hk e => by have := HG.out; omega
  refine ⟨Gr S w W2, rfl, ?_, hk.mono fun k hk => by rw [hk]; exact H.out.sg, fun k hk => hk.imp id fun h => h.1⟩
  have ha : Armed (W2.setCell ⟨g, 2, none⟩ (.slice A1 l.length c1)) (Gr S w W2) A1 l := by
    refine (LiesP.of_own HO.out).later (fun k hk => Below.heap_setCell _ _ _ _ (hne k hk.1)) fun k hk => ?_
    obtain ⟨h1, h2, cs, fr, h3⟩ := hk
    exact ⟨.inr ⟨h1, h2⟩, cs, fr, (Below.heap_setCell _ _ _ _ (hne k h1)).trans h3⟩
  have nt : ∀ (t : TypeId), t ≠ Ty.disk → ∀ k, k = g → S k → ¬ ∃ cs fr, w.heap[k]? = some (.cells cs t fr) := fun t ht k hk _ hh => by
    obtain ⟨cs, fr, hh⟩ := hh
    rw [hk] at hh
    exact typed H.out.box hh (fun e => ht e.symm)
  exact ⟨L, A, A1, c, c1, HX.out.set 2 _, .inl H.out.sg, own_keep H.out.own hk fun k hk1 e => own_apart H.out.own H.out.box (by decide) (by rw [← e]; exact hk1), fun k hk1 => .inl (H.out.so k hk1),
    fun d hd => (H.out.ok d hd).keep hk (nt _ (by decide)) (fun k hk => .inl hk), H.out.told, ha, HC1.out, HM1.out, HW.out, fun k hk1 => by rw [hsz]; exact hk1.elim (fun h1 => Nat.lt_of_lt_of_le (H.out.lt k h1) HB.out.size) fun h1 => h1.2,
    H.out.room, H.out.rwf, H.out.many, H.out.sorted⟩
def removeM (m : MS) (nm : ByteArray) : Nat × MS := onFile m [nm] nm (fun e => (e, (hit m).2)) fun f => (0, { (hit m).2 with fs := delM m.fs nm })
theorem erase_told {L : List D} {i : Nat} {d : D} (hp : (L.map D.m).Pairwise fun a b => a.nm ≠ b.nm) (h : L[i]? = some d) : (L.take i ++ L.drop (i + 1)).map D.m = delM (L.map D.m) d.nm := by
  induction L generalizing i with
  | nil => simp at h
  | cons x L ih =>
    rw [List.map_cons] at hp
    obtain ⟨h1, h2⟩ := List.pairwise_cons.1 hp
    cases i with
    | zero =>
      simp at h
      subst h
      have e : delM (x.m :: L.map D.m) x.nm = delM (L.map D.m) x.nm := by unfold delM; rw [List.filter_cons, decide_eq_true (show x.m.nm = x.nm from rfl)]; rfl
      rw [List.map_cons, e, delM_id (nm := x.nm) fun y hy e => h1 y hy e.symm]
      simp
    | succ i =>
      simp at h
      have hne : x.m.nm ≠ d.nm := h1 d.m (List.mem_map.2 ⟨d, List.mem_of_getElem? h, rfl⟩)
      have e : delM (x.m :: L.map D.m) d.nm = x.m :: delM (L.map D.m) d.nm := by unfold delM; rw [List.filter_cons, decide_eq_false hne]; rfl
      rw [List.map_cons, e, ← ih h2 h]
      simp
end
end Go.Proofs.YtnbknihaefkllaaGreatDoor.Rk
/- The document's own disk: Read, List; two lists of names. -/
namespace Go.Proofs.YtnbknihaefkllaaGreatDoor.Rk
set_option linter.unusedVariables false
set_option linter.unusedSimpArgs false
open Go.RowKit Go.Maps Lift Ik Dk

theorem cut_at (A : Option Addr) (n c p k : Nat) (h : p + k ≤ n) (hc : n ≤ c) (hm : c ≤ maxLen) :
    ∃ A' : Option Addr, (0 < k → A' = A.map (·.add p)) ∧ ∀ W : World, Sem.run Tryz.prog (Instr.slice 24 (.slice A n c) (some (.int .i64 (p : Int))) (some (.int .i64 ((p : Int) + (k : Int)))) none) W = .ok (.slice A' k (c - p)) W := by
  unfold maxLen at hm
  by_cases hcp : c = p
  · refine ⟨A, fun h0 => by omega, fun W => ?_⟩
    obtain rfl : k = 0 := by omega
    obtain rfl : n = p := by omega
    subst hcp
    go_simp
  · refine ⟨A.map (·.add p), fun _ => rfl, fun W => ?_⟩
    go_simp
    rw [if_pos ⟨by omega, by omega⟩, if_pos (by omega), show ((p : Int) + (k : Int)).toNat - p = k by omega]
section
variable {w w' : World} {g : Nat} {S S' T : Nat → Prop} {rm : Int} {m : MS} {L : List D} {A F : Option Addr} {c cf : Nat}
def RGave (w : World) (g : Nat) (S : Nat → Prop) (rm : Int) (m' : MS) (r : Nat × List Nat) (e : Ending) (w' : World) : Prop :=
  ∃ (A : Option Addr) (c : Nat), e = .returned (.tuple #[.slice A r.2.length c, .int .i64 (r.1 : Int)]) ∧ LiesP w' (fun k => w.heap.size ≤ k ∧ k < w'.heap.size) A (r.2.map vb) ∧ r.2.length ≤ c ∧ c ≤ maxLen ∧ At w' g S rm m' ∧ Keep (· = g) w w'
theorem rgave_no {n : Nat} (hL : Lay w' g S rm m L A F c cf) (hK : Keep (· = g) w w') : RGave w g S rm m (n, []) (.returned (.tuple #[.slice none 0 0, .int .i64 (n : Int)])) w' :=
  ⟨none, 0, rfl, .inl rfl, Nat.le_refl _, by decide, hL.toAt, hK⟩
set_option maxRecDepth 100000 in
set_option maxHeartbeats 1000000 in
theorem rread_any (nm : ByteArray) (at' n : Int) (hnm : nm.size ≤ 1000) (ha : (Lit.int .i64 at').wf = true) (hn : (Lit.int .i64 n).wf = true) (h : At w g S rm m) (hf : m.failed ≤ 1000000) :
    Calls Tryz.prog (42) #[.pointer (some ⟨g, 0, none⟩), .string nm, .int .i64 at', .int .i64 n] w (RGave w g S rm (hit m).2 (readM m nm at' n)) := by
  obtain ⟨L, A, F, c, cf, h⟩ := h
  have b1 := i64_of ha
  have b2 := i64_of hn
  have HF := Lib.hid (found_any nm hnm h hf)
  obtain ⟨hcap, hcm⟩ := h.cap
  clear h ha hn
  go_enter Tryz.func42, Tryz.ntmps42
  go_wp2_with fail
  refine HF.out.mono ?_
  rintro e W1 ⟨F1, cf1, hk1, hL1, hc⟩
  have HK := Lib.hid hk1
  have HL := Lib.hid hL1
  rcases hc with ⟨d, hd, hdn, hE, rfl⟩ | ⟨er, hne, hE, rfl⟩
  · obtain ⟨p0, p1, _⟩ := hL1.facts
    have hlt := (List.getElem?_eq_some_iff.1 hd).1
    obtain ⟨gl, hA, _, q1, _, _, _⟩ := hL1.place hd
    subst hA
    have hok := hL1.ok d (List.mem_of_getElem? hd)
    have hdc := hok.cap
    have hdm := hok.max
    have hdl := hok.len
    have E : Hid (readM m nm at' n = if at' < 0 ∨ n < 0 ∨ (d.bs.length : Int) < at' then (1, []) else (0, (d.bs.drop at'.toNat).take n.toNat)) := Lib.hid (hE _ _)
    have HLS : Hid (Lies W1 W1.heap.size d.a (d.bs.map vb)) := Lib.hid (hok.lies.lies fun k hk => hL1.lt k hk.1)
    obtain ⟨i, hi⟩ : ∃ i, i = idx m.fs nm := ⟨_, rfl⟩
    rw [← hi] at q1 hlt ⊢
    obtain ⟨nb, hnb⟩ : ∃ nb, nb = d.bs.length := ⟨_, rfl⟩
    rw [← hnb] at q1 hdc hdl
    have HNB := Lib.hid hnb
    clear hk1 hL1 HF hd hE hi hok hnb
    by_cases k1 : at' < 0
    · have d1 : decide (at' < 0) = true := decide_eq_true k1
      have E1 : Hid (readM m nm at' n = (1, [])) := Lib.hid (by rw [E.out, if_pos (.inl k1)])
      clear k1
      go_wp2_with fail
      go_returns
      rw [E1.out]
      exact rgave_no HL.out HK.out
    · by_cases k2 : n < 0
      · have d1 : decide (at' < 0) = false := decide_eq_false k1
        have d2 : decide (n < 0) = true := decide_eq_true k2
        have E1 : Hid (readM m nm at' n = (1, [])) := Lib.hid (by rw [E.out, if_pos (.inr (.inl k2))])
        clear k1 k2
        go_wp2_with fail
        go_returns
        rw [E1.out]
        exact rgave_no HL.out HK.out
      · obtain ⟨p, rfl⟩ : ∃ p : Nat, at' = (p : Int) := ⟨at'.toNat, by omega⟩
        obtain ⟨q, rfl⟩ : ∃ q : Nat, n = (q : Int) := ⟨n.toNat, by omega⟩
        have d1 : decide ((p : Int) < 0) = false := decide_eq_false k1
        have d2 : decide ((q : Int) < 0) = false := decide_eq_false k2
        by_cases k3 : nb < p
        · have d3 : decide (nb < p) = true := decide_eq_true k3
          have E1 : Hid (readM m nm (p : Int) (q : Int) = (1, [])) := Lib.hid (by rw [E.out, if_pos (.inr (.inr (by rw [← HNB.out]; omega)))])
          clear k1 k2 k3
          go_wp2_with fail
          go_returns
          rw [E1.out]
          exact rgave_no HL.out HK.out
        · have d3 : decide (nb < p) = false := decide_eq_false k3
          have E1 : Hid (readM m nm (p : Int) (q : Int) = (0, (d.bs.drop p).take q)) := Lib.hid (by
            rw [E.out, if_neg (by rw [← HNB.out]; omega), Int.toNat_natCast, Int.toNat_natCast])
          obtain ⟨k, hk⟩ : ∃ k, k = min q (nb - p) := ⟨_, rfl⟩
          obtain ⟨A', hA1, hA3⟩ := cut_at d.a nb d.c p k (by omega) hdc hdm
          have hxl : ((d.bs.drop p).take q).length = k := by rw [List.length_take, List.length_drop, ← HNB.out]; omega
          have hl2 : Lies W1 W1.heap.size A' (((d.bs.drop p).take q).map vb) := by
            by_cases h0 : k = 0
            · left
              rw [List.map_eq_nil_iff]
              exact List.eq_nil_of_length_eq_zero (by omega)
            · rw [hA1 (by omega)]
              obtain ⟨ad, hada, hadb, hcell⟩ := HLS.out.place (by rw [List.length_map, ← HNB.out]; omega)
              rw [hada]
              refine .inr ⟨ad.add p, rfl, by rw [add_block]; exact hadb, fun j u hj => ?_⟩
              rw [Lift.add_add]
              refine hcell _ _ ?_
              rw [← hj, List.getElem?_map, List.getElem?_map, List.getElem?_take_of_lt, List.getElem?_drop]
              have := (List.getElem?_eq_some_iff.1 hj).1
              rw [List.length_map, hxl] at this
              omega
          obtain ⟨A2, c2, W2, hr2, hown2, hb2⟩ := fresh_bytes A' (d.c - p) _ ((d.bs.drop p).take q) W1 hl2 (by rw [hxl]; omega)
          rw [hxl] at hr2
          have hp2 := hown2
          rw [hxl] at hp2
          have HCM : Hid (k ≤ c2 ∧ c2 ≤ maxLen) := Lib.hid (by
            obtain ⟨_, _, hv, h1, h2, _⟩ := own_parts hp2
            cases hv
            exact ⟨h1, h2⟩)
          have HLP := Lib.hid (LiesP.of_own hp2)
          have HR2 := Lib.hid hr2
          have HXL := Lib.hid hxl
          have HB2 := Lib.hid hb2
          have fin : ∀ W', W' = W2 → RGave w g S rm (hit m).2 (readM m nm (p : Int) (q : Int)) (.returned (.tuple #[.slice A2 k c2, .int .i64 0])) W' := by
            rintro W' rfl
            rw [E1.out]
            exact ⟨A2, c2, by rw [HXL.out]; rfl, HLP.out.later (fun _ _ => rfl) fun k hk => ⟨Nat.le_trans HK.out.size hk.1, hk.2.1⟩, by rw [HXL.out]; exact HCM.out.1, HCM.out.2, HL.out.toAt.below HB2.out, HK.out.trans (T := fun _ => False) (below_keep HB2.out) fun _ _ h => h.elim⟩
          have FIN := Lib.hid fin
          clear fin hl2 hxl hA1 hr2 hown2 hb2 hp2
          by_cases k4 : nb - p < q
          · obtain rfl : nb = p + k := by omega
            have e0 : ((p + k : Nat) : Int) - (p : Int) = (k : Int) := by omega
            have e1 : (p : Int) + (k : Int) - (p : Int) = (k : Int) := by omega
            have d4 : decide (k < q) = true := by simp; omega
            have d5 : decide ((k : Int) < (q : Int)) = true := by simp; omega
            have d6 : decide (p + k < p) = false := by simp
            clear k1 k2 k3 hk k4 d3
            go_wp2_with (at_builtin; refine wpList_append_run rfl _ _ 24 rfl rfl rfl HR2.out ?_)
            go_returns
            exact FIN.out _ rfl
          · have d4 : decide ((nb : Int) - (p : Int) < (q : Int)) = false := by simp; omega
            obtain rfl : q = k := by omega
            have hpq : p + q ≤ 16777216 := by omega
            clear k1 k2 k3 hk k4
            go_wp2_with (at_builtin; refine wpList_append_run rfl _ _ 24 rfl rfl rfl HR2.out ?_)
            go_returns
            exact FIN.out _ rfl
  · have E : Hid (readM m nm at' n = (er, [])) := Lib.hid (hE _ _)
    have d1 : ((er : Int) != 0) = true := by rw [bne_iff_ne]; omega
    clear hk1 hL1 HF hne hE
    go_wp2_with fail
    go_returns
    rw [E.out]
    exact rgave_no HL.out HK.out
end
end Go.Proofs.YtnbknihaefkllaaGreatDoor.Rk
/- The document's own disk: a file more, told by its place. -/
namespace Go.Proofs.YtnbknihaefkllaaGreatDoor.Rk
set_option linter.unusedVariables false
set_option linter.unusedSimpArgs false
open Go.RowKit Go.Maps Lift Ik Dk

theorem before_trans {a b c : FM} (h : before a b) (k : before b c) : before a c := WideShapes.bytes_trans a.nm.data.toList b.nm.data.toList c.nm.data.toList h k
theorem before_asym {a b : FM} (h : before a b) : ¬ before b a := fun k => before_ne (before_trans h k) rfl
theorem before_total {a b : FM} (h : a.nm ≠ b.nm) : before a b ∨ before b a :=
  WideAt.bytes_total a.nm.data.toList b.nm.data.toList fun e => h (by
    have := kl_same a.nm b.nm
    have h2 : (kl a.nm).sameKey (kl b.nm) = true := by
      show (a.nm.data.toList == b.nm.data.toList) = true
      rw [e]; simp
    rw [h2] at this
    exact of_decide_eq_true this.symm)
/-- A new file's place is the first whose name comes behind. -/
theorem ins_eq {f : FM} : ∀ {l : List FM}, l.Pairwise before → (∀ x, x ∈ l → x.nm ≠ f.nm) → insM f l = l.take (idx l f.nm) ++ f :: l.drop (idx l f.nm)
  | [], _, _ => rfl
  | y :: r, hp, hn => by
    obtain ⟨h1, h2⟩ := List.pairwise_cons.1 hp
    have ih := ins_eq (f := f) h2 fun x hx => hn x (by simp [hx])
    unfold insM
    by_cases hb : (kl y.nm).before (kl f.nm) = true
    · have e1 : idx (y :: r) f.nm = idx r f.nm + 1 := by show (if (kl y.nm).before (kl f.nm) then idx r f.nm + 1 else 0) = _; rw [if_pos hb]
      have hc : ¬ (kl f.nm).before (kl y.nm) = true := before_asym (a := y) (b := f) hb
      rw [if_neg hc, e1, List.take_succ_cons, List.drop_succ_cons, List.cons_append, ← ih]
    · have e1 : idx (y :: r) f.nm = 0 := by show (if (kl y.nm).before (kl f.nm) then idx r f.nm + 1 else 0) = _; rw [if_neg hb]
      have hc : (kl f.nm).before (kl y.nm) = true := by
        rcases before_total (a := y) (b := f) (hn y (by simp)) with h | h
        · exact absurd h hb
        · exact h
      rw [if_pos hc, e1]
      rfl
theorem ins_mem {f x : FM} : ∀ {l : List FM}, x ∈ insM f l ↔ x = f ∨ x ∈ l
  | [] => by simp [insM]
  | y :: r => by
    unfold insM
    split
    · simp
    · rw [List.mem_cons, ins_mem, List.mem_cons]
      constructor
      · rintro (h | h | h) <;> simp [h]
      · rintro (h | h | h) <;> simp [h]
theorem ins_sorted {f : FM} : ∀ {l : List FM}, l.Pairwise before → (∀ x, x ∈ l → x.nm ≠ f.nm) → (insM f l).Pairwise before
  | [], _, _ => by simp [insM]
  | y :: r, hp, hn => by
    obtain ⟨h1, h2⟩ := List.pairwise_cons.1 hp
    unfold insM
    split
    · rename_i hb
      refine List.pairwise_cons.2 ⟨fun x hx => ?_, hp⟩
      rcases List.mem_cons.1 hx with rfl | hx
      · exact hb
      · exact before_trans (show before f y from hb) (h1 x hx)
    · rename_i hb
      refine List.pairwise_cons.2 ⟨fun x hx => ?_, ins_sorted h2 fun x hx => hn x (by simp [hx])⟩
      rcases ins_mem.1 hx with rfl | hx
      · rcases before_total (a := y) (b := x) (hn y (by simp)) with h | h
        · exact h
        · exact absurd h hb
      · exact h1 x hx
/-- The same of the descriptors. -/
theorem ins_told {L : List D} {d : D} {l : List FM} (hl : l = L.map D.m) (hp : l.Pairwise before) (hn : ∀ x, x ∈ l → x.nm ≠ d.nm) : (L.take (idx l d.nm) ++ d :: L.drop (idx l d.nm)).map D.m = insM d.m l := by
  rw [show insM d.m l = _ from ins_eq (f := d.m) hp hn, List.map_append, List.map_cons, List.map_take, List.map_drop, ← hl]
  rfl
/-- A name that is not at its place is nowhere. -/
theorem not_at {l : List FM} {nm : ByteArray} (hp : l.Pairwise before) (h : isAt l nm = false) : ∀ x, x ∈ l → x.nm ≠ nm := get_none.1 ((idx_get hp).2 h)
theorem idx_le (l : List FM) (nm : ByteArray) : idx l nm ≤ l.length := by
  induction l with
  | nil => simp [idx]
  | cons y r ih => unfold idx; split <;> simp; exact ih
end Go.Proofs.YtnbknihaefkllaaGreatDoor.Rk
/- The document's own disk: what a new name comes to. -/
namespace Go.Proofs.YtnbknihaefkllaaGreatDoor.Rk
set_option linter.unusedVariables false
set_option linter.unusedSimpArgs false
open Go.RowKit Go.Maps Lift Ik Dk

theorem del_cons (y : FM) (r : List FM) (nm : ByteArray) : delM (y :: r) nm = if y.nm = nm then delM r nm else y :: delM r nm := by
  unfold delM
  rw [List.filter_cons]
  by_cases h : y.nm = nm
  · rw [if_pos h, decide_eq_true h]; rfl
  · rw [if_neg h, decide_eq_false h]; rfl
theorem del_twice (l : List FM) (nm : ByteArray) : delM (delM l nm) nm = delM l nm := delM_id fun x hx => by
  unfold delM at hx
  have := (List.mem_filter.1 hx).2
  intro e
  rw [decide_eq_true e] at this
  exact absurd this (by simp)
theorem del_sorted {l : List FM} {nm : ByteArray} (h : l.Pairwise before) : (delM l nm).Pairwise before := h.filter _
/-- A file that takes its own name. -/
theorem moved_same {nm : ByteArray} {f : FM} : ∀ {l : List FM}, l.Pairwise before → Dk.get l nm = some f → moved l nm nm f = l
  | [], _, h => by cases h
  | y :: r, hp, h => by
    obtain ⟨h1, h2⟩ := List.pairwise_cons.1 hp
    have hfn : f.nm = nm := by simpa using List.find?_some h
    have hff : (⟨nm, f.bs, f.syn⟩ : FM) = f := by rw [← hfn]
    unfold moved
    rw [del_twice, hff, del_cons]
    by_cases hy : y.nm = nm
    · have hyf : y = f := by
        unfold Dk.get at h
        rw [List.find?_cons, decide_eq_true hy] at h
        exact Option.some.inj h
      rw [if_pos hy, delM_id fun x hx e => before_ne (h1 x hx) (hy.trans e.symm), hyf]
      cases r with
      | nil => rfl
      | cons z r =>
        unfold insM
        rw [if_pos (show (kl f.nm).before (kl z.nm) = true from by
          have := h1 z (by simp)
          rw [hyf] at this
          exact this)]
    · have hr : Dk.get r nm = some f := by
        unfold Dk.get at h ⊢
        rwa [List.find?_cons, decide_eq_false hy] at h
      have ih := moved_same h2 hr
      unfold moved at ih
      rw [del_twice, hff] at ih
      rw [if_neg hy]
      unfold insM
      rw [if_neg (show ¬ (kl f.nm).before (kl y.nm) = true from before_asym (a := y) (b := f) (h1 f (List.mem_of_find?_eq_some hr))), ih]
/-- The place of a name is the same when its file is gone. -/
theorem idx_del {nm : ByteArray} : ∀ {l : List FM}, l.Pairwise before → idx (delM l nm) nm = idx l nm
  | [], _ => rfl
  | y :: r, hp => by
    obtain ⟨h1, h2⟩ := List.pairwise_cons.1 hp
    have ih := idx_del (nm := nm) h2
    rw [del_cons]
    by_cases hy : y.nm = nm
    · rw [if_pos hy, ih]
      have e0 : idx (y :: r) nm = 0 := by
        show (if (kl y.nm).before (kl nm) then idx r nm + 1 else 0) = _
        rw [if_neg]
        intro hb
        exact before_ne (a := y) (b := y) (by unfold before; rw [hy]; rw [hy] at hb; exact hb) rfl
      rw [e0]
      cases r with
      | nil => rfl
      | cons z r =>
        show (if (kl z.nm).before (kl nm) then idx r nm + 1 else 0) = _
        rw [if_neg]
        intro hb
        have hz := h1 z (by simp)
        exact before_asym (a := y) (b := z) hz (by unfold before; rw [hy]; exact hb)
    · rw [if_neg hy]
      show (if (kl y.nm).before (kl nm) then idx (delM r nm) nm + 1 else 0) = (if (kl y.nm).before (kl nm) then idx r nm + 1 else 0)
      rw [ih]
/-- The file under its new name, told by its place; L are the files but the one that moves and the one that it takes the place of. -/
theorem moved_at {L : List D} {d : D} {l : List FM} {fr to : ByteArray} (hp : l.Pairwise before) (hL : L.map D.m = delM (delM l fr) to) (hd : d.nm = to) :
    (L.take (idx (delM l fr) to) ++ d :: L.drop (idx (delM l fr) to)).map D.m = moved l fr to d.m ∧ (moved l fr to d.m).Pairwise before := by
  have hs := del_sorted (nm := to) (del_sorted (nm := fr) hp)
  have hno : ∀ x, x ∈ delM (delM l fr) to → x.nm ≠ d.nm := fun x hx e => by
    unfold delM at hx
    have := (List.mem_filter.1 hx).2
    rw [decide_eq_true (e.trans hd)] at this
    exact absurd this (by simp)
  have e1 : moved l fr to d.m = insM d.m (delM (delM l fr) to) := by unfold moved; rw [← hd]; rfl
  rw [← idx_del (nm := to) (del_sorted (nm := fr) hp), e1]
  have h1 := ins_told (L := L) (d := d) hL.symm hs hno
  rw [hd] at h1
  exact ⟨h1, ins_sorted (f := d.m) hs hno⟩
end Go.Proofs.YtnbknihaefkllaaGreatDoor.Rk
/- What Append of the document's own disk answers, of a file that is there. -/
namespace Go.Proofs.YtnbknihaefkllaaGreatDoor.Rk
set_option linter.unusedVariables false
set_option linter.unusedSimpArgs false
open Go.RowKit Go.Maps Lift Ik Dk

section
variable {w w' : World} {g : Nat} {S S' T : Nat → Prop} {rm : Int} {m : MS} {L : List D} {A F : Option Addr} {c cf : Nat}
/-- An answer, and the disk. -/
def RTold (w : World) (g : Nat) (S : Nat → Prop) (rm : Int) (r : Nat × MS) (e : Ending) (w' : World) : Prop :=
  ∃ S', e = .returned (.int .i64 (r.1 : Int)) ∧ At w' g S' rm r.2 ∧ Keep S w w' ∧ ∀ k, S' k → S k ∨ w.heap.size ≤ k
theorem rtold_same {n : Nat} {m' : MS} (hL : Lay w' g S rm m' L A F c cf) (hK : Keep (· = g) w w') : RTold w g S rm (n, m') (.returned (.int .i64 (n : Int))) w' :=
  ⟨S, rfl, hL.toAt, hK.mono fun k hk => by rw [hk]; exact hL.sg, fun k hk => .inl hk⟩
/-- The file's bytes are new ones. -/
theorem Lay.wrote {W W' : World} {i gl : Nat} {d : D} {xs : List Nat} {A4 : Option Addr} {c4 : Nat} (h : Lay W g S rm m L (some ⟨gl, 0, none⟩) F c cf) (hd : L[i]? = some d)
    (hb : Below W.heap.size W W') (ho : W'.ownsRow W.heap.size 5 1 (.slice A4 xs.length c4) xs.length (xs.map vb)) (h8 : ∀ x, x ∈ xs → x < 256) (hn : xs.length ≤ 16777216) (hs : d.syn ≤ xs.length) :
    Lay (W'.setCell ⟨gl, i * 3 + 1, none⟩ (.slice A4 xs.length c4)) g (Gr S W W') rm { m with fs := put1 m.fs ⟨d.nm, xs, d.syn⟩ } (L.set i ⟨d.nm, A4, c4, xs, d.syn⟩) (some ⟨gl, 0, none⟩) F c cf := by
  have hlt := (List.getElem?_eq_some_iff.1 hd).1
  have hcl := cellsL_set L i d ⟨d.nm, A4, c4, xs, d.syn⟩ hd rfl
  have hlen := cellsL_length L
  have hown := own_set (u := .slice A4 xs.length c4) (own_keep h.own (below_keep (S := fun _ => False) hb) fun _ _ => id) (show i * 3 + 1 < (cellsL L).length by rw [hlen]; omega)
  have hset : ((cellsL L).set (i * 3 + 1) (.slice A4 xs.length c4)).set (i * 3 + 2) (.int .i64 (d.syn : Int)) = (cellsL L).set (i * 3 + 1) (.slice A4 xs.length c4) := by
    refine set_same ?_
    rw [List.getElem?_set_ne (by omega)]
    exact cellsL_at hd 2 (by omega)
  have hgl : gl < W.heap.size := h.lt gl (h.so gl rfl)
  have hkk : Keep (fun k => (Value.slice (some (⟨gl, 0, none⟩ : Addr)) L.length c).ownBlock = some k) W (W'.setCell ⟨gl, i * 3 + 1, none⟩ (.slice A4 xs.length c4)) := (below_keep (S := fun k => (Value.slice (some (⟨gl, 0, none⟩ : Addr)) L.length c).ownBlock = some k) hb).setCell (p := ⟨gl, i * 3 + 1, none⟩) (.inr rfl) _
  refine h.put (S' := Gr S W W') (d' := ⟨d.nm, A4, c4, xs, d.syn⟩) hd rfl hkk (by rw [hcl]; simp only; rw [hset]; exact hown) ?_ (fun k hk => .inl hk) (fun k hk => ?_)
  · have ho2 := own_keep ho ((Keep.refl (fun j => j = gl) W').setCell (p := ⟨gl, i * 3 + 1, none⟩) (.inr rfl) (.slice A4 xs.length c4)) fun k hk1 e => by
      have h1 := (ho.lt k hk1).1
      omega
    obtain ⟨A5, c5, hv, hcc, hmm, _⟩ := own_parts ho2
    cases hv
    have hty := ho2
    refine ⟨?_, hcc, hmm, h8, hn, hs, (h.ok d (List.mem_of_getElem? hd)).nm⟩
    exact (LiesP.of_own ho2).later (fun _ _ => rfl) fun k hk => ⟨.inr ⟨hk.1, by have := hk.2.1; simpa [World.setCell] using this⟩, hk.2.2⟩
  · rcases hk with hk | hk
    · have := hb.size
      have h2 := h.lt k hk
      have : k < W'.heap.size := by omega
      simpa [World.setCell] using this
    · have := hk.2
      simpa [World.setCell] using this
set_option maxRecDepth 100000 in
set_option maxHeartbeats 1600000 in
theorem rappend_old (nm : ByteArray) (Ab : Option Addr) (cb : Nat) (bs : List Nat) (hn : nm.size ≤ 1000) (h : At w g S rm m) (hf : m.failed ≤ 1000000) (hia : isAt m.fs nm = true) (hb : LiesP w (fun k => ¬ S k ∧ k < w.heap.size) Ab (bs.map vb)) (hbl : bs.length ≤ 1099511627776) (hb8 : ∀ x, x ∈ bs → x < 256) :
    Calls Tryz.prog (8) #[.pointer (some ⟨g, 0, none⟩), .string nm, .slice Ab bs.length cb] w (RTold w g S rm (appendM m nm bs)) := by
  obtain ⟨L, A, F, c, cf, h⟩ := h
  have HD := Lib.hid (down_any h hf)
  have HT := Lib.hid h.told
  have HSO := Lib.hid h.sorted
  have HSG := Lib.hid h.sg
  have HB := Lib.hid hb
  have HB8 := Lib.hid hb8
  clear h hb hb8
  go_enter Tryz.func8, Tryz.ntmps8
  go_wp2_with fail
  refine HD.out.mono ?_
  rintro e W1 ⟨F1, cf1, rfl, hk1, hL1⟩
  have HK := Lib.hid hk1
  have HL := Lib.hid hL1
  clear hk1 hL1 HD
  cases hh : (hit m).1
  · cases hnm : nmB nm
    · have E : Hid (appendM m nm bs = (6, (hit m).2)) := Lib.hid (by
        have hb0 : bad m [nm] = 6 := by unfold bad; rw [hh]; simp [hnm]
        unfold appendM
        rw [hb0, if_pos (by decide)])
      clear hh
      go_wp2_with (go_at_call 27; refine (named_any nm _ hn).mono ?_; rintro e w' ⟨rfl, rfl⟩)
      go_ret
      rw [E.out]
      exact rtold_same HL.out HK.out
    · have HB0 : Hid (bad m [nm] = 0) := Lib.hid (by unfold bad; rw [hh]; simp [hnm])
      have hat := at_any nm HL.out
      have hfs : (hit m).2.fs = m.fs := (hit_fs m).1
      have hrm2 : (hit m).2.room = m.room := (hit_fs m).2
      rw [hfs, hia] at hat
      have HAT := Lib.hid hat
      obtain ⟨f, hf1, hg⟩ := (idx_get (nm := nm) HSO.out).1 hia
      have hd : ∃ d, L[idx m.fs nm]? = some d ∧ d.m = f := by
        rw [HT.out, List.getElem?_map] at hf1
        obtain ⟨d, h1, h2⟩ := Option.map_eq_some_iff.1 hf1
        exact ⟨d, by rw [HT.out]; exact h1, h2⟩
      obtain ⟨d, hd1, rfl⟩ := hd
      have hdn : d.nm = nm := (by simpa using List.find?_some hg : d.m.nm = nm)
      have HD := Lib.hid hd1
      have HDN := Lib.hid hdn
      have HG := Lib.hid hg
      have HFS2 := Lib.hid hfs
      have HRM2 := Lib.hid hrm2
      obtain ⟨i, hi⟩ : ∃ i, i = idx m.fs nm := ⟨_, rfl⟩
      rw [← hi] at HAT HD
      clear hh hat hfs hrm2 hf1 hg hd1 hdn hi hia
      go_wp2_with (go_at_call 27; refine (named_any nm _ hn).mono ?_; rintro e w' ⟨rfl, rfl⟩)
      refine HAT.out.mono ?_
      rintro e W2 ⟨rfl, hb2⟩
      have hL2 := HL.out.keep (T := fun _ => False) (below_keep hb2) fun _ _ => id
      have HK2 : Hid (Keep (· = g) w W2) := Lib.hid (HK.out.trans (T := fun _ => False) (below_keep hb2) fun _ _ h => h.elim)
      have HL2 := Lib.hid hL2
      have hd := HD.out
      have hlt := (List.getElem?_eq_some_iff.1 hd).1
      have hus := hL2.used_le
      have hrw := i64_of hL2.rwf
      have hroom := hL2.room
      obtain ⟨hcap, hcm⟩ := hL2.cap
      obtain ⟨p0, p1, _⟩ := hL2.facts
      obtain ⟨gl, hA, _, q1, _, z1, _⟩ := hL2.place hd
      subst hA
      have hok := hL2.ok d (List.mem_of_getElem? hd)
      have hdl := hok.len
      have HU := Lib.hid (rused_any hL2)
      have HGL : Hid (¬ gl = g) := Lib.hid fun e => by
        subst e
        exact own_apart hL2.own hL2.box (by decide) rfl
      have HLS : Hid (LiesP W2 (fun k => ¬ S k ∧ k < W2.heap.size) Ab (bs.map vb)) := Lib.hid (HB.out.later (fun k hk => HK2.out.block k hk.2 fun e => hk.1 (by rw [e]; exact HSG.out)) fun k hk => ⟨hk.1, Nat.lt_of_lt_of_le hk.2 HK2.out.size⟩)
      obtain ⟨U, hU⟩ : ∃ U, U = used (hit m).2.fs := ⟨_, rfl⟩
      rw [← hU] at HU hus
      have HUU := Lib.hid hU
      obtain ⟨nb, hnb⟩ : ∃ nb, nb = d.bs.length := ⟨_, rfl⟩
      rw [← hnb] at q1 hdl
      have HNB := Lib.hid hnb
      have HP := Lib.hid p1
      have Q1 := Lib.hid q1
      have Z1 := Lib.hid z1
      have HR : Hid (m.room = rm.toNat) := Lib.hid (by rw [← HRM2.out]; exact hroom)
      have HM : Hid (lenOf (Dk.get m.fs nm) = nb) := Lib.hid (by rw [HG.out, hnb]; rfl)
      have HUM : Hid (U = used m.fs) := Lib.hid (by rw [hU, HFS2.out])
      clear hb2 hL2 hd hroom hok hU hnb HAT z1
      by_cases k1 : 16777216 < nb + bs.length
      · have d1 : decide ((16777216 : Int) < (nb : Int) + (bs.length : Int)) = true := by simp; omega
        have E : Hid (appendM m nm bs = (3, (hit m).2)) := Lib.hid (by
          unfold appendM
          rw [if_neg (by have := HB0.out; omega), if_pos (.inl (by rw [HM.out]; exact k1))])
        clear k1
        go_wp2_with fail
        go_ret
        rw [E.out]
        exact rtold_same HL2.out HK2.out
      · have d1 : decide ((16777216 : Int) < (nb : Int) + (bs.length : Int)) = false := by simp; omega
        have E0 : Hid (appendM m nm bs = if m.room < used m.fs + bs.length then (7, (hit m).2) else (0, { (hit m).2 with fs := put1 m.fs ⟨d.nm, d.bs ++ bs, d.syn⟩ })) := Lib.hid (by
          have hg := HG.out
          unfold appendM
          have hno : ¬ (16777216 < lenOf (Dk.get m.fs nm) + bs.length ∨ (Dk.get m.fs nm).isNone = true ∧ 1000 ≤ m.fs.length) := fun h1 => by
            rw [HM.out, hg] at h1
            rcases h1 with h1 | h1
            · exact k1 h1
            · exact absurd h1.1 (by simp)
          rw [if_neg (by have := HB0.out; omega), if_neg hno, hg]
          rfl)
        have hok := HL2.out.ok d (List.mem_of_getElem? HD.out)
        have hlies : Lies W2 W2.heap.size d.a (d.bs.map vb) := hok.lies.lies fun k hk => HL2.out.lt k hk.1
        obtain ⟨A3, c3, W3, hr3, hown3, hb3⟩ := fresh_bytes d.a d.c _ d.bs W2.drew (hlies.below ((Below.refl _ _).drew)) (by rw [← HNB.out]; omega)
        have hb3' : Below W2.heap.size W2 W3 := (Below.refl W2.heap.size W2).drew.trans hb3
        have hl4 : Lies W3 W2.heap.size Ab (bs.map vb) := (HLS.out.lies fun k hk => hk.2).below hb3'
        obtain ⟨v4, W4, hr4, hown4, hb4, hz4⟩ := run_append_lies (P := Tryz.prog) (w := W3) (base := W2.heap.size) (m := bs.length) (c := cb) 24 24 5 (.int .u8 0) 1 1 Tryz.underlying24 (by kernel_rfl) rfl (by decide)
          (fun u hu => by simp at hu; obtain ⟨_, _, rfl⟩ := hu; rfl) hown3 hl4 (by simp) (by rw [← HNB.out]; unfold maxLen; omega) (by rw [← HNB.out]; omega) hb3'.size
        have hb4' : Below W2.heap.size W2 W4 := hb3'.trans hb4
        rw [← List.map_append, ← List.length_append] at hown4
        obtain ⟨A4, c4, rfl, _, _, _⟩ := own_parts hown4
        have hfin := HL2.out.wrote (i := i) (d := d) (xs := d.bs ++ bs) HD.out hb4' hown4 (fun x hx => by
          rcases List.mem_append.1 hx with h1 | h1
          · exact hok.byte x h1
          · exact HB8.out x h1) (by rw [List.length_append, ← HNB.out]; omega) (by rw [List.length_append]; have := hok.syn; omega)
        have FIN : Hid (∀ W', W' = W4.setCell ⟨gl, i * 3 + 1, none⟩ (.slice A4 (d.bs ++ bs).length c4) → RTold w g S rm (0, { (hit m).2 with fs := put1 m.fs ⟨d.nm, d.bs ++ bs, d.syn⟩ }) (.returned (.int .i64 0)) W') := Lib.hid (by
          rintro W' rfl
          refine ⟨Gr S W2 W4, rfl, ?_, ?_, fun k hk => hk.imp id fun h => Nat.le_trans HK2.out.size h.1⟩
          · have h1 := hfin.toAt
            rw [HFS2.out] at h1
            exact h1
          · exact ((HK2.out.mono (T := S) fun k hk => by rw [hk]; exact HSG.out).trans (T := fun _ => False) (below_keep hb4') fun _ _ h => h.elim).setCell (p := ⟨gl, i * 3 + 1, none⟩) (.inr (HL2.out.so gl rfl)) _)
        have hL4 := HL2.out.keep (T := fun _ => False) (below_keep hb4') fun _ _ => id
        obtain ⟨gl', hA', _, q2, _, z2, _⟩ := hL4.place HD.out
        cases hA'
        obtain ⟨n4, hn4⟩ : ∃ n4, n4 = (d.bs ++ bs).length := ⟨_, rfl⟩
        rw [← hn4] at FIN hr4
        rw [← HNB.out] at hr3 hr4 q2
        have HR3 := Lib.hid hr3
        have HR4 := Lib.hid hr4
        have HB3 := Lib.hid hb3'
        have HB4 := Lib.hid hb4'
        have Q2 := Lib.hid q2
        have Z2 := Lib.hid z2
        clear hok hlies hr3 hown3 hb3 hb3' hl4 hr4 hown4 hb4 hz4 hb4' hfin hL4 q2 z2 hn4
        by_cases kr : rm < 0
        · have d2 : decide (rm < 0) = true := decide_eq_true kr
          have hm0 : m.room = 0 := by have := HR.out; omega
          by_cases k3 : 0 < U + bs.length
          · have d3 : decide ((0 : Int) < (U : Int) + (bs.length : Int)) = true := by simp; omega
            have E : Hid (appendM m nm bs = (7, (hit m).2)) := Lib.hid (by rw [E0.out, hm0, ← HUM.out, if_pos k3])
            clear k1 k3 kr hm0
            go_wp2_with (go_at_call 16; refine HU.out.mono ?_; rintro e w' ⟨rfl, rfl⟩)
            go_ret
            rw [E.out]
            exact rtold_same HL2.out HK2.out
          · have d3 : decide ((0 : Int) < (U : Int) + (bs.length : Int)) = false := by simp; omega
            have E : Hid (appendM m nm bs = (0, { (hit m).2 with fs := put1 m.fs ⟨d.nm, d.bs ++ bs, d.syn⟩ })) := Lib.hid (by rw [E0.out, hm0, ← HUM.out, if_neg k3])
            clear k1 k3 kr hm0
            go_wp2_with (go_at_call 16; refine HU.out.mono ?_; rintro e w' ⟨rfl, rfl⟩)
            refine wp_region_held_drew (S := fun w' => Hid (Keep (fun j => j = gl) W2 w')) (by kernel_rfl) (Lib.hid (Keep.refl _ _).drew) (fun hS => ?_)
            refine wpAnyH_take (i := 0) (v := ?_) rfl (by kernel_rfl) (by kernel_rfl) (by kernel_rfl) (fun _ _ _ h => h) (Or.inl ⟨by rfl, ?_⟩) hS ?_
            rotate_left
            · intro w hw
              go_simp
              try with_reducible rfl
            try simp only [Act.put, List.getElem_toArray, List.getElem_cons_succ, List.getElem_cons_zero, List.setIfInBounds_toArray, List.set_cons_zero, List.set_cons_succ]
            refine wpAnyH_take (i := 1) (v := ?_) rfl (by kernel_rfl) (by kernel_rfl) (by kernel_rfl) (fun _ _ _ h => h) (Or.inl ⟨by rfl, ?_⟩) hS ?_
            rotate_left
            · intro w hw
              go_simp
              try with_reducible rfl
            try simp only [Act.put, List.getElem_toArray, List.getElem_cons_succ, List.getElem_cons_zero, List.setIfInBounds_toArray, List.set_cons_zero, List.set_cons_succ]
            refine wpAnyH_take (i := 2) (v := ?_) rfl (by kernel_rfl) (by kernel_rfl) (by kernel_rfl) (fun _ _ _ h => h) (Or.inl ⟨by rfl, ?_⟩) hS ?_
            rotate_left
            · intro w hw
              go_simp
              try with_reducible rfl
            try simp only [Act.put, List.getElem_toArray, List.getElem_cons_succ, List.getElem_cons_zero, List.setIfInBounds_toArray, List.set_cons_zero, List.set_cons_succ]
            refine wpAnyH_take (i := 3) (v := ?_) rfl (by kernel_rfl) (by kernel_rfl) (by kernel_rfl) (fun _ _ _ h => h) (Or.inl ⟨by rfl, ?_⟩) hS ?_
            rotate_left
            · intro w hw
              have p1 : w.cell? ⟨g, 1, none⟩ = some (.slice (some ⟨gl, 0, none⟩) L.length c) := (World.cell?_of_block (w := W2) (hw.out.block g (HL2.out.lt g HL2.out.sg) (fun e => HGL.out e.symm))).trans HP.out
              go_simp
              try with_reducible rfl
            try simp only [Act.put, List.getElem_toArray, List.getElem_cons_succ, List.getElem_cons_zero, List.setIfInBounds_toArray, List.set_cons_zero, List.set_cons_succ]
            refine wpAnyH_take (i := 4) (v := ?_) rfl (by kernel_rfl) (by kernel_rfl) (by kernel_rfl) (fun _ _ _ h => h) (Or.inl ⟨by rfl, ?_⟩) hS ?_
            rotate_left
            · intro w hw
              go_simp
              try with_reducible rfl
            try simp only [Act.put, List.getElem_toArray, List.getElem_cons_succ, List.getElem_cons_zero, List.setIfInBounds_toArray, List.set_cons_zero, List.set_cons_succ]
            refine wpAnyH_take (i := 5) (v := ?_) rfl (by kernel_rfl) (by kernel_rfl) (by kernel_rfl) (fun _ _ _ h => h) (Or.inl ⟨by rfl, ?_⟩) hS ?_
            rotate_left
            · intro w hw
              go_simp
              try with_reducible rfl
            try simp only [Act.put, List.getElem_toArray, List.getElem_cons_succ, List.getElem_cons_zero, List.setIfInBounds_toArray, List.set_cons_zero, List.set_cons_succ]
            refine wpAnyH_take (i := 6) (v := ?_) rfl (by kernel_rfl) (by kernel_rfl) (by kernel_rfl) (fun _ _ _ h => h) (Or.inl ⟨by rfl, ?_⟩) hS ?_
            rotate_left
            · intro w hw
              go_simp
              try with_reducible rfl
            try simp only [Act.put, List.getElem_toArray, List.getElem_cons_succ, List.getElem_cons_zero, List.setIfInBounds_toArray, List.set_cons_zero, List.set_cons_succ]
            refine wpAnyH_take (i := 7) (v := ?_) rfl (by kernel_rfl) (by kernel_rfl) (by kernel_rfl) (fun _ _ _ h => h) (Or.inl ⟨by rfl, ?_⟩) hS ?_
            rotate_left
            · intro w hw
              go_simp
              try with_reducible rfl
            try simp only [Act.put, List.getElem_toArray, List.getElem_cons_succ, List.getElem_cons_zero, List.setIfInBounds_toArray, List.set_cons_zero, List.set_cons_succ]
            refine wpAnyH_take (i := 8) (v := ?_) rfl (by kernel_rfl) (by kernel_rfl) (by kernel_rfl) (fun _ _ _ h => h) (Or.inl ⟨by rfl, ?_⟩) hS ?_
            rotate_left
            · intro w hw
              have p1 : w.cell? ⟨g, 1, none⟩ = some (.slice (some ⟨gl, 0, none⟩) L.length c) := (World.cell?_of_block (w := W2) (hw.out.block g (HL2.out.lt g HL2.out.sg) (fun e => HGL.out e.symm))).trans HP.out
              go_simp
              try with_reducible rfl
            try simp only [Act.put, List.getElem_toArray, List.getElem_cons_succ, List.getElem_cons_zero, List.setIfInBounds_toArray, List.set_cons_zero, List.set_cons_succ]
            refine wpAnyH_take (i := 9) (v := ?_) rfl (by kernel_rfl) (by kernel_rfl) (by kernel_rfl) (fun _ _ _ h => h) (Or.inl ⟨by rfl, ?_⟩) hS ?_
            rotate_left
            · intro w hw
              go_simp
              try with_reducible rfl
            try simp only [Act.put, List.getElem_toArray, List.getElem_cons_succ, List.getElem_cons_zero, List.setIfInBounds_toArray, List.set_cons_zero, List.set_cons_succ]
            refine wpAnyH_take (i := 10) (v := ?_) rfl (by kernel_rfl) (by kernel_rfl) (by kernel_rfl) (fun _ _ _ h => h) (Or.inl ⟨by rfl, ?_⟩) hS ?_
            rotate_left
            · intro w hw
              go_simp
              try with_reducible rfl
            try simp only [Act.put, List.getElem_toArray, List.getElem_cons_succ, List.getElem_cons_zero, List.setIfInBounds_toArray, List.set_cons_zero, List.set_cons_succ]
            refine wpAnyH_take (i := 11) (v := ?_) rfl (by kernel_rfl) (by kernel_rfl) (by kernel_rfl) (fun _ _ _ h => h) (Or.inl ⟨by rfl, ?_⟩) hS ?_
            rotate_left
            · intro w hw
              go_simp
              try with_reducible rfl
            try simp only [Act.put, List.getElem_toArray, List.getElem_cons_succ, List.getElem_cons_zero, List.setIfInBounds_toArray, List.set_cons_zero, List.set_cons_succ]
            refine wpAnyH_take (i := 14) (v := ?_) rfl (by kernel_rfl) (by kernel_rfl) (by kernel_rfl) (fun _ _ _ h => h) (Or.inl ⟨by rfl, ?_⟩) hS ?_
            rotate_left
            · intro w hw
              go_simp
              try with_reducible rfl
            try simp only [Act.put, List.getElem_toArray, List.getElem_cons_succ, List.getElem_cons_zero, List.setIfInBounds_toArray, List.set_cons_zero, List.set_cons_succ]
            refine wpAnyH_ready (rs := [12]) (by kernel_rfl) (by simp) ?_
            refine AllReadyH.cons rfl (fun K hK => ?_) AllReadyH.nil
            have q1 : W2.cell? ⟨gl, i * 3 + 1, none⟩ = some (.slice d.a nb d.c) := Q1.out
            go_simp
            refine hK.out _ _ hS (fun hS => ?_)
            clear hK K q1
            try simp only [Act.put, List.getElem_toArray, List.getElem_cons_succ, List.getElem_cons_zero, List.setIfInBounds_toArray, List.set_cons_zero, List.set_cons_succ]
            refine wpAnyH_ready (rs := [13]) (by kernel_rfl) (by simp) ?_
            refine AllReadyH.cons rfl (fun K hK => ?_) AllReadyH.nil
            refine held_append rfl _ _ 24 rfl rfl rfl HR3.out ?_
            refine hK.out _ _ (Lib.hid (below_keep (S := fun j => j = gl) HB3.out)) (fun hS => ?_)
            clear hK K
            try simp only [Act.put, List.getElem_toArray, List.getElem_cons_succ, List.getElem_cons_zero, List.setIfInBounds_toArray, List.set_cons_zero, List.set_cons_succ]
            refine wpAnyH_ready (rs := [15]) (by kernel_rfl) (by simp) ?_
            refine AllReadyH.cons rfl (fun K hK => ?_) AllReadyH.nil
            refine held_append rfl _ _ 24 rfl rfl rfl HR4.out ?_
            refine hK.out _ _ (Lib.hid (below_keep (S := fun j => j = gl) HB4.out)) (fun hS => ?_)
            clear hK K
            try simp only [Act.put, List.getElem_toArray, List.getElem_cons_succ, List.getElem_cons_zero, List.setIfInBounds_toArray, List.set_cons_zero, List.set_cons_succ]
            refine wpAnyH_take (i := 16) (v := ?_) rfl (by kernel_rfl) (by kernel_rfl) (by kernel_rfl) (fun _ _ _ h => h) (Or.inl ⟨by rfl, ?_⟩) hS ?_
            rotate_left
            · intro w hw
              go_simp
              try with_reducible rfl
            try simp only [Act.put, List.getElem_toArray, List.getElem_cons_succ, List.getElem_cons_zero, List.setIfInBounds_toArray, List.set_cons_zero, List.set_cons_succ]
            refine wpAnyH_take (i := 17) (v := ?_) rfl (by kernel_rfl) (by kernel_rfl) (by kernel_rfl) (fun _ _ _ h => h) (Or.inl ⟨by rfl, ?_⟩) hS ?_
            rotate_left
            · intro w hw
              go_simp
              try with_reducible rfl
            try simp only [Act.put, List.getElem_toArray, List.getElem_cons_succ, List.getElem_cons_zero, List.setIfInBounds_toArray, List.set_cons_zero, List.set_cons_succ]
            refine wpAnyH_ready (rs := [18]) (by kernel_rfl) (by simp) ?_
            refine AllReadyH.cons rfl (fun K hK => ?_) AllReadyH.nil
            have q2 := Q2.out
            have z2 := Z2.out
            go_simp
            refine hK.out _ _ (Lib.hid ((below_keep (S := fun j => j = gl) HB4.out).setCell (p := ⟨gl, i * 3 + 1, none⟩) (.inr rfl) _)) (fun hS => ?_)
            clear hK K q2 z2
            try simp only [Act.put, List.getElem_toArray, List.getElem_cons_succ, List.getElem_cons_zero, List.setIfInBounds_toArray, List.set_cons_zero, List.set_cons_succ]
            refine wpAnyH_done (by kernel_rfl) ?_ _
            go_wp2_with fail
            go_ret
            rw [E.out]
            exact FIN.out _ rfl
        · obtain ⟨R, rfl⟩ : ∃ R : Nat, rm = (R : Int) := ⟨rm.toNat, by omega⟩
          have d2 : decide ((R : Int) < 0) = false := decide_eq_false kr
          have hm0 : m.room = R := by have := HR.out; omega
          by_cases k3 : R < U + bs.length
          · have d3 : decide ((R : Int) < (U : Int) + (bs.length : Int)) = true := by simp; omega
            have E : Hid (appendM m nm bs = (7, (hit m).2)) := Lib.hid (by rw [E0.out, hm0, ← HUM.out, if_pos k3])
            clear k1 k3 kr hm0
            go_wp2_with (go_at_call 16; refine HU.out.mono ?_; rintro e w' ⟨rfl, rfl⟩)
            go_ret
            rw [E.out]
            exact rtold_same HL2.out HK2.out
          · have d3 : decide ((R : Int) < (U : Int) + (bs.length : Int)) = false := by simp; omega
            have E : Hid (appendM m nm bs = (0, { (hit m).2 with fs := put1 m.fs ⟨d.nm, d.bs ++ bs, d.syn⟩ })) := Lib.hid (by rw [E0.out, hm0, ← HUM.out, if_neg k3])
            clear k1 k3 kr hm0
            go_wp2_with (go_at_call 16; refine HU.out.mono ?_; rintro e w' ⟨rfl, rfl⟩)
            refine wp_region_held_drew (S := fun w' => Hid (Keep (fun j => j = gl) W2 w')) (by kernel_rfl) (Lib.hid (Keep.refl _ _).drew) (fun hS => ?_)
            refine wpAnyH_take (i := 0) (v := ?_) rfl (by kernel_rfl) (by kernel_rfl) (by kernel_rfl) (fun _ _ _ h => h) (Or.inl ⟨by rfl, ?_⟩) hS ?_
            rotate_left
            · intro w hw
              go_simp
              try with_reducible rfl
            try simp only [Act.put, List.getElem_toArray, List.getElem_cons_succ, List.getElem_cons_zero, List.setIfInBounds_toArray, List.set_cons_zero, List.set_cons_succ]
            refine wpAnyH_take (i := 1) (v := ?_) rfl (by kernel_rfl) (by kernel_rfl) (by kernel_rfl) (fun _ _ _ h => h) (Or.inl ⟨by rfl, ?_⟩) hS ?_
            rotate_left
            · intro w hw
              go_simp
              try with_reducible rfl
            try simp only [Act.put, List.getElem_toArray, List.getElem_cons_succ, List.getElem_cons_zero, List.setIfInBounds_toArray, List.set_cons_zero, List.set_cons_succ]
            refine wpAnyH_take (i := 2) (v := ?_) rfl (by kernel_rfl) (by kernel_rfl) (by kernel_rfl) (fun _ _ _ h => h) (Or.inl ⟨by rfl, ?_⟩) hS ?_
            rotate_left
            · intro w hw
              go_simp
              try with_reducible rfl
            try simp only [Act.put, List.getElem_toArray, List.getElem_cons_succ, List.getElem_cons_zero, List.setIfInBounds_toArray, List.set_cons_zero, List.set_cons_succ]
            refine wpAnyH_take (i := 3) (v := ?_) rfl (by kernel_rfl) (by kernel_rfl) (by kernel_rfl) (fun _ _ _ h => h) (Or.inl ⟨by rfl, ?_⟩) hS ?_
            rotate_left
            · intro w hw
              have p1 : w.cell? ⟨g, 1, none⟩ = some (.slice (some ⟨gl, 0, none⟩) L.length c) := (World.cell?_of_block (w := W2) (hw.out.block g (HL2.out.lt g HL2.out.sg) (fun e => HGL.out e.symm))).trans HP.out
              go_simp
              try with_reducible rfl
            try simp only [Act.put, List.getElem_toArray, List.getElem_cons_succ, List.getElem_cons_zero, List.setIfInBounds_toArray, List.set_cons_zero, List.set_cons_succ]
            refine wpAnyH_take (i := 4) (v := ?_) rfl (by kernel_rfl) (by kernel_rfl) (by kernel_rfl) (fun _ _ _ h => h) (Or.inl ⟨by rfl, ?_⟩) hS ?_
            rotate_left
            · intro w hw
              go_simp
              try with_reducible rfl
            try simp only [Act.put, List.getElem_toArray, List.getElem_cons_succ, List.getElem_cons_zero, List.setIfInBounds_toArray, List.set_cons_zero, List.set_cons_succ]
            refine wpAnyH_take (i := 5) (v := ?_) rfl (by kernel_rfl) (by kernel_rfl) (by kernel_rfl) (fun _ _ _ h => h) (Or.inl ⟨by rfl, ?_⟩) hS ?_
            rotate_left
            · intro w hw
              go_simp
              try with_reducible rfl
            try simp only [Act.put, List.getElem_toArray, List.getElem_cons_succ, List.getElem_cons_zero, List.setIfInBounds_toArray, List.set_cons_zero, List.set_cons_succ]
            refine wpAnyH_take (i := 6) (v := ?_) rfl (by kernel_rfl) (by kernel_rfl) (by kernel_rfl) (fun _ _ _ h => h) (Or.inl ⟨by rfl, ?_⟩) hS ?_
            rotate_left
            · intro w hw
              go_simp
              try with_reducible rfl
            try simp only [Act.put, List.getElem_toArray, List.getElem_cons_succ, List.getElem_cons_zero, List.setIfInBounds_toArray, List.set_cons_zero, List.set_cons_succ]
            refine wpAnyH_take (i := 7) (v := ?_) rfl (by kernel_rfl) (by kernel_rfl) (by kernel_rfl) (fun _ _ _ h => h) (Or.inl ⟨by rfl, ?_⟩) hS ?_
            rotate_left
            · intro w hw
              go_simp
              try with_reducible rfl
            try simp only [Act.put, List.getElem_toArray, List.getElem_cons_succ, List.getElem_cons_zero, List.setIfInBounds_toArray, List.set_cons_zero, List.set_cons_succ]
            refine wpAnyH_take (i := 8) (v := ?_) rfl (by kernel_rfl) (by kernel_rfl) (by kernel_rfl) (fun _ _ _ h => h) (Or.inl ⟨by rfl, ?_⟩) hS ?_
            rotate_left
            · intro w hw
              have p1 : w.cell? ⟨g, 1, none⟩ = some (.slice (some ⟨gl, 0, none⟩) L.length c) := (World.cell?_of_block (w := W2) (hw.out.block g (HL2.out.lt g HL2.out.sg) (fun e => HGL.out e.symm))).trans HP.out
              go_simp
              try with_reducible rfl
            try simp only [Act.put, List.getElem_toArray, List.getElem_cons_succ, List.getElem_cons_zero, List.setIfInBounds_toArray, List.set_cons_zero, List.set_cons_succ]
            refine wpAnyH_take (i := 9) (v := ?_) rfl (by kernel_rfl) (by kernel_rfl) (by kernel_rfl) (fun _ _ _ h => h) (Or.inl ⟨by rfl, ?_⟩) hS ?_
            rotate_left
            · intro w hw
              go_simp
              try with_reducible rfl
            try simp only [Act.put, List.getElem_toArray, List.getElem_cons_succ, List.getElem_cons_zero, List.setIfInBounds_toArray, List.set_cons_zero, List.set_cons_succ]
            refine wpAnyH_take (i := 10) (v := ?_) rfl (by kernel_rfl) (by kernel_rfl) (by kernel_rfl) (fun _ _ _ h => h) (Or.inl ⟨by rfl, ?_⟩) hS ?_
            rotate_left
            · intro w hw
              go_simp
              try with_reducible rfl
            try simp only [Act.put, List.getElem_toArray, List.getElem_cons_succ, List.getElem_cons_zero, List.setIfInBounds_toArray, List.set_cons_zero, List.set_cons_succ]
            refine wpAnyH_take (i := 11) (v := ?_) rfl (by kernel_rfl) (by kernel_rfl) (by kernel_rfl) (fun _ _ _ h => h) (Or.inl ⟨by rfl, ?_⟩) hS ?_
            rotate_left
            · intro w hw
              go_simp
              try with_reducible rfl
            try simp only [Act.put, List.getElem_toArray, List.getElem_cons_succ, List.getElem_cons_zero, List.setIfInBounds_toArray, List.set_cons_zero, List.set_cons_succ]
            refine wpAnyH_take (i := 14) (v := ?_) rfl (by kernel_rfl) (by kernel_rfl) (by kernel_rfl) (fun _ _ _ h => h) (Or.inl ⟨by rfl, ?_⟩) hS ?_
            rotate_left
            · intro w hw
              go_simp
              try with_reducible rfl
            try simp only [Act.put, List.getElem_toArray, List.getElem_cons_succ, List.getElem_cons_zero, List.setIfInBounds_toArray, List.set_cons_zero, List.set_cons_succ]
            refine wpAnyH_ready (rs := [12]) (by kernel_rfl) (by simp) ?_
            refine AllReadyH.cons rfl (fun K hK => ?_) AllReadyH.nil
            have q1 : W2.cell? ⟨gl, i * 3 + 1, none⟩ = some (.slice d.a nb d.c) := Q1.out
            go_simp
            refine hK.out _ _ hS (fun hS => ?_)
            clear hK K q1
            try simp only [Act.put, List.getElem_toArray, List.getElem_cons_succ, List.getElem_cons_zero, List.setIfInBounds_toArray, List.set_cons_zero, List.set_cons_succ]
            refine wpAnyH_ready (rs := [13]) (by kernel_rfl) (by simp) ?_
            refine AllReadyH.cons rfl (fun K hK => ?_) AllReadyH.nil
            refine held_append rfl _ _ 24 rfl rfl rfl HR3.out ?_
            refine hK.out _ _ (Lib.hid (below_keep (S := fun j => j = gl) HB3.out)) (fun hS => ?_)
            clear hK K
            try simp only [Act.put, List.getElem_toArray, List.getElem_cons_succ, List.getElem_cons_zero, List.setIfInBounds_toArray, List.set_cons_zero, List.set_cons_succ]
            refine wpAnyH_ready (rs := [15]) (by kernel_rfl) (by simp) ?_
            refine AllReadyH.cons rfl (fun K hK => ?_) AllReadyH.nil
            refine held_append rfl _ _ 24 rfl rfl rfl HR4.out ?_
            refine hK.out _ _ (Lib.hid (below_keep (S := fun j => j = gl) HB4.out)) (fun hS => ?_)
            clear hK K
            try simp only [Act.put, List.getElem_toArray, List.getElem_cons_succ, List.getElem_cons_zero, List.setIfInBounds_toArray, List.set_cons_zero, List.set_cons_succ]
            refine wpAnyH_take (i := 16) (v := ?_) rfl (by kernel_rfl) (by kernel_rfl) (by kernel_rfl) (fun _ _ _ h => h) (Or.inl ⟨by rfl, ?_⟩) hS ?_
            rotate_left
            · intro w hw
              go_simp
              try with_reducible rfl
            try simp only [Act.put, List.getElem_toArray, List.getElem_cons_succ, List.getElem_cons_zero, List.setIfInBounds_toArray, List.set_cons_zero, List.set_cons_succ]
            refine wpAnyH_take (i := 17) (v := ?_) rfl (by kernel_rfl) (by kernel_rfl) (by kernel_rfl) (fun _ _ _ h => h) (Or.inl ⟨by rfl, ?_⟩) hS ?_
            rotate_left
            · intro w hw
              go_simp
              try with_reducible rfl
            try simp only [Act.put, List.getElem_toArray, List.getElem_cons_succ, List.getElem_cons_zero, List.setIfInBounds_toArray, List.set_cons_zero, List.set_cons_succ]
            refine wpAnyH_ready (rs := [18]) (by kernel_rfl) (by simp) ?_
            refine AllReadyH.cons rfl (fun K hK => ?_) AllReadyH.nil
            have q2 := Q2.out
            have z2 := Z2.out
            go_simp
            refine hK.out _ _ (Lib.hid ((below_keep (S := fun j => j = gl) HB4.out).setCell (p := ⟨gl, i * 3 + 1, none⟩) (.inr rfl) _)) (fun hS => ?_)
            clear hK K q2 z2
            try simp only [Act.put, List.getElem_toArray, List.getElem_cons_succ, List.getElem_cons_zero, List.setIfInBounds_toArray, List.set_cons_zero, List.set_cons_succ]
            refine wpAnyH_done (by kernel_rfl) ?_ _
            go_wp2_with fail
            go_ret
            rw [E.out]
            exact FIN.out _ rfl
  · have E : Hid (appendM m nm bs = (11, (hit m).2)) := Lib.hid (by
      have hb0 : bad m [nm] = 11 := by unfold bad; rw [hh]; rfl
      unfold appendM
      rw [hb0, if_pos (by decide)])
    clear hh
    go_wp2_with fail
    go_ret
    rw [E.out]
    exact rtold_same HL.out HK.out
end
end Go.Proofs.YtnbknihaefkllaaGreatDoor.Rk
