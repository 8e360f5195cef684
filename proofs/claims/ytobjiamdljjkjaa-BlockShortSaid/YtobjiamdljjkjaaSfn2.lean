/- Entries: whether a list may contain one, and whether two tell the same; small functions of the laws and of the document's own list. -/
import Derived.Test.YtobjiamdljjkjaaSfn
namespace Go.Proofs.Ytobjiamdljjkjaa.Sk
set_option linter.unusedVariables false
set_option linter.unusedSimpArgs false
open Go.RowKit Lift Ik

/-- May a list contain an entry? -/
def okT (t : T) : Bool := okB t.k.key.length t.k.seq t.k.kind && decide (t.val.length ≤ 4096) && (decide (t.k.kind = 1) || decide (t.val.length = 0))
theorem below_box (w : World) (d : D) : Below w.heap.size w (w.alloc (ebox d)) := Joins.below_alloc1 w _
theorem two_entries (w : World) (d d' : D) : Bx ((w.alloc (ebox d)).alloc (ebox d')) w.heap.size d ∧ Bx ((w.alloc (ebox d)).alloc (ebox d')) (w.heap.size + 1) d' ∧ Below w.heap.size w ((w.alloc (ebox d)).alloc (ebox d')) := by
  have h1 : (w.alloc (ebox d)).heap.size = w.heap.size + 1 := by simp
  refine ⟨(Bx.new w d).alloc _, ?_, Joins.below_alloc2 w _ _⟩
  rw [← h1]
  exact Bx.new (w.alloc (ebox d)) d'
set_option maxRecDepth 100000 in
set_option maxHeartbeats 800000 in
theorem rright_entry (d : D) (w : World) (h : d.Ok w (· < w.heap.size)) : Calls Try.prog 61 #[d.v] w fun e w' => e = .returned (.bool (okT d.t)) ∧ Below w.heap.size w w' := by
  have hb0 := below_box w d
  have hvm := h.vm
  have hvc := h.vc
  unfold maxLen at hvm
  have x1 : Bx (w.alloc (ebox d)) w.heap.size d := Bx.new w d
  have hR := rright_any d.ka d.kc d.k.key.length d.k.seq d.k.kind (w.alloc (ebox d))
  have HB := Lib.hid hb0
  have HR := Lib.hid hR
  have HX := Lib.hid x1
  obtain ⟨c0, c1, c2, c3, -, -, -, -⟩ := x1.facts
  clear h hb0 hR x1
  have E0 := Lib.hid (show okT d.t = (okB d.k.key.length d.k.seq d.k.kind && decide (d.val.length ≤ 4096) && (decide (d.k.kind = 1) || decide (d.val.length = 0))) from rfl)
  cases ho : okB d.k.key.length d.k.seq d.k.kind with
  | false =>
    rw [ho] at HR
    have E := Lib.hid (show okT d.t = false by first | (rw [E0.out, ho, hv0, hk1, hz]; rfl) | (rw [E0.out]; simp [*]))
    clear E0
    go_enter Try.func61, Try.ntmps61
    go_wp2_with fail
    refine HR.out.mono ?_
    rintro e W1 ⟨rfl, hb1⟩
    have x2 : Bx W1 w.heap.size d := HX.out.below hb1 HX.out.lt
    obtain ⟨-, -, m2, m3, -, -, -, -⟩ := x2.facts
    have HB1 := Lib.hid (HB.out.trans (hb1.mono HB.out.size))
    clear x2 hb1
    go_wp2_with fail
    go_ret
    exact ⟨by rw [E.out]; rfl, HB1.out⟩
  | true =>
    rw [ho] at HR
    have hv0 : decide (d.val.length ≤ 4096) = decide (((d.val.length : Nat) : Int) ≤ 4096) := by rw [Bool.eq_iff_iff, decide_eq_true_iff, decide_eq_true_iff]; omega
    cases hv : decide (((d.val.length : Nat) : Int) ≤ 4096) with
    | false =>
      rw [hv] at hv0
      have E := Lib.hid (show okT d.t = false by first | (rw [E0.out, ho, hv0, hk1, hz]; rfl) | (rw [E0.out]; simp [*]))
      clear E0
      go_enter Try.func61, Try.ntmps61
      go_wp2_with fail
      refine HR.out.mono ?_
      rintro e W1 ⟨rfl, hb1⟩
      have x2 : Bx W1 w.heap.size d := HX.out.below hb1 HX.out.lt
      obtain ⟨-, -, m2, m3, -, -, -, -⟩ := x2.facts
      have HB1 := Lib.hid (HB.out.trans (hb1.mono HB.out.size))
      clear x2 hb1
      go_wp2_with fail
      go_ret
      exact ⟨by rw [E.out]; rfl, HB1.out⟩
    | true =>
      rw [hv] at hv0
      cases hk : (d.k.kind == 1) with
      | true =>
        have hk1 : decide (d.k.kind = 1) = true := hk
        have E := Lib.hid (show okT d.t = true by first | (rw [E0.out, ho, hv0, hk1, hz]; rfl) | (rw [E0.out]; simp [*]))
        clear E0
        go_enter Try.func61, Try.ntmps61
        go_wp2_with fail
        refine HR.out.mono ?_
        rintro e W1 ⟨rfl, hb1⟩
        have x2 : Bx W1 w.heap.size d := HX.out.below hb1 HX.out.lt
        obtain ⟨-, -, m2, m3, -, -, -, -⟩ := x2.facts
        have HB1 := Lib.hid (HB.out.trans (hb1.mono HB.out.size))
        clear x2 hb1
        go_wp2_with fail
        go_ret
        exact ⟨by rw [E.out]; rfl, HB1.out⟩
      | false =>
        have hk1 : decide (d.k.kind = 1) = false := hk
        have hz : decide (d.val.length = 0) = (((d.val.length : Nat) : Int) == 0) := by rw [Bool.eq_iff_iff]; simp
        cases hl : (((d.val.length : Nat) : Int) == 0) with
        | true =>
          rw [hl] at hz
          have E := Lib.hid (show okT d.t = true by first | (rw [E0.out, ho, hv0, hk1, hz]; rfl) | (rw [E0.out]; simp [*]))
          clear E0
          go_enter Try.func61, Try.ntmps61
          go_wp2_with fail
          refine HR.out.mono ?_
          rintro e W1 ⟨rfl, hb1⟩
          have x2 : Bx W1 w.heap.size d := HX.out.below hb1 HX.out.lt
          obtain ⟨-, -, m2, m3, -, -, -, -⟩ := x2.facts
          have HB1 := Lib.hid (HB.out.trans (hb1.mono HB.out.size))
          clear x2 hb1
          go_wp2_with fail
          go_ret
          exact ⟨by rw [E.out]; rfl, HB1.out⟩
        | false =>
          rw [hl] at hz
          have E := Lib.hid (show okT d.t = false by first | (rw [E0.out, ho, hv0, hk1, hz]; rfl) | (rw [E0.out]; simp [*]))
          clear E0
          go_enter Try.func61, Try.ntmps61
          go_wp2_with fail
          refine HR.out.mono ?_
          rintro e W1 ⟨rfl, hb1⟩
          have x2 : Bx W1 w.heap.size d := HX.out.below hb1 HX.out.lt
          obtain ⟨-, -, m2, m3, -, -, -, -⟩ := x2.facts
          have HB1 := Lib.hid (HB.out.trans (hb1.mono HB.out.size))
          clear x2 hb1
          go_wp2_with fail
          go_ret
          exact ⟨by rw [E.out]; rfl, HB1.out⟩

/-- Do two entries tell the same? -/
def sameD (d d' : D) : Bool := decide (d.k.key = d'.k.key) && decide (d.k.seq = d'.k.seq) && decide (d.k.kind = d'.k.kind) && decide (d.val = d'.val)
theorem sameD_eq {d d' : D} (h : d.t = d'.t) : sameD d d' = true := by
  unfold D.t at h
  injection h with h1 h2
  simp [sameD, h1, h2]
theorem sameD_iff {d d' : D} : sameD d d' = true ↔ d.t = d'.t := by
  refine ⟨fun h => ?_, sameD_eq⟩
  simp [sameD] at h
  unfold D.t
  have : d.k = d'.k := by
    cases hk : d.k; cases hk' : d'.k
    rw [hk, hk'] at h
    simp_all
  rw [this, h.2]
set_option maxRecDepth 100000 in
set_option maxHeartbeats 800000 in
theorem same_entry (d d' : D) (w : World) (h : d.Ok w (· < w.heap.size)) (h' : d'.Ok w (· < w.heap.size)) :
    Calls Try.prog 23 #[d.v, d'.v] w fun e w' => e = .returned (.bool (sameD d d')) ∧ Below w.heap.size w w' := by
  have hsk := str_eq h.ok.1 h'.ok.1
  have hsv := str_eq h.v8 h'.v8
  obtain ⟨x0, x0', hb0⟩ := two_entries w d d'
  have r1 := run_str (c := d.kc) ((h.kl.lies fun k hk => hk).below hb0)
  have r2 := run_str (c := d'.kc) ((h'.kl.lies fun k hk => hk).below hb0)
  have r3 := run_str (c := d.vc) ((h.vl.lies fun k hk => hk).below hb0)
  have r4 := run_str (c := d'.vc) ((h'.vl.lies fun k hk => hk).below hb0)
  obtain ⟨c0, c1, c2, c3, -, -, -, -⟩ := x0.facts
  obtain ⟨e0, e1, e2, e3, -, -, -, -⟩ := x0'.facts
  have HB := Lib.hid hb0
  have E0 := Lib.hid (show sameD d d' = (decide (d.k.key = d'.k.key) && decide (d.k.seq = d'.k.seq) && decide (d.k.kind = d'.k.kind) && decide (d.val = d'.val)) from rfl)
  have hq : decide (d.k.seq = d'.k.seq) = ((d.k.seq : Int) == (d'.k.seq : Int)) := by rw [Bool.eq_iff_iff]; simp; omega
  have hkk : decide (d.k.kind = d'.k.kind) = (d.k.kind == d'.k.kind) := rfl
  clear h h' hb0 x0 x0'
  cases h1 : decide (d.k.key = d'.k.key) with
  | false =>
    rw [h1] at hsk
    have E := Lib.hid (show sameD d d' = false by rw [E0.out]; simp [*])
    clear E0 hq hkk
    go_enter Try.func23, Try.ntmps23
    go_wp2_with fail
    go_ret
    exact ⟨by rw [E.out]; rfl, HB.out⟩
  | true =>
    rw [h1] at hsk
    cases h2 : ((d.k.seq : Int) == (d'.k.seq : Int)) with
    | false =>
      rw [h2] at hq
      have E := Lib.hid (show sameD d d' = false by rw [E0.out]; simp [*])
      clear E0 hq hkk
      go_enter Try.func23, Try.ntmps23
      go_wp2_with fail
      go_ret
      exact ⟨by rw [E.out]; rfl, HB.out⟩
    | true =>
      rw [h2] at hq
      cases h3 : (d.k.kind == d'.k.kind) with
      | false =>
        rw [h3] at hkk
        have E := Lib.hid (show sameD d d' = false by rw [E0.out]; simp [*])
        clear E0 hq hkk
        go_enter Try.func23, Try.ntmps23
        go_wp2_with fail
        go_ret
        exact ⟨by rw [E.out]; rfl, HB.out⟩
      | true =>
        rw [h3] at hkk
        cases h4 : decide (d.val = d'.val) with
        | false =>
          rw [h4] at hsv
          have E := Lib.hid (show sameD d d' = false by rw [E0.out]; simp [*])
          clear E0 hq hkk
          go_enter Try.func23, Try.ntmps23
          go_wp2_with fail
          go_ret
          exact ⟨by rw [E.out]; rfl, HB.out⟩
        | true =>
          rw [h4] at hsv
          have E := Lib.hid (show sameD d d' = true by rw [E0.out]; simp [*])
          clear E0 hq hkk
          go_enter Try.func23, Try.ntmps23
          go_wp2_with fail
          go_ret
          exact ⟨by rw [E.out]; rfl, HB.out⟩

theorem between_any (n : Int) (w : World) : Calls Try.prog 36 #[.int .i64 n, .int .i64 1, .int .i64 12] w fun e w' => e = .returned (.int .i64 (hgt n : Nat)) ∧ w = w' := by
  have hh := (hgt_le n).2.2
  by_cases h1 : n < 1
  · have d1 : decide (n < 1) = true := decide_eq_true h1
    have E := Lib.hid (show ((hgt n : Nat) : Int) = 1 by omega)
    clear hh
    go_enter Try.func36, Try.ntmps36
    go_wp2_with fail
    go_ret
    exact ⟨by rw [E.out]; rfl, rfl⟩
  · have d1 : decide (n < 1) = false := decide_eq_false h1
    by_cases h2 : 12 < n
    · have d2 : decide (12 < n) = true := decide_eq_true h2
      have E := Lib.hid (show ((hgt n : Nat) : Int) = 12 by omega)
      clear hh
      go_enter Try.func36, Try.ntmps36
      go_wp2_with fail
      go_ret
      exact ⟨by rw [E.out]; rfl, rfl⟩
    · have d2 : decide (12 < n) = false := decide_eq_false h2
      have E := Lib.hid (show ((hgt n : Nat) : Int) = n by omega)
      clear hh
      go_enter Try.func36, Try.ntmps36
      go_wp2_with fail
      go_ret
      exact ⟨by rw [E.out]; rfl, rfl⟩
theorem equal_any (A1 A2 : Option Addr) (c1 c2 : Nat) (x y : List Nat) (w : World) (h1 : Lies w w.heap.size A1 (x.map vb)) (h2 : Lies w w.heap.size A2 (y.map vb)) (x8 : ∀ a, a ∈ x → a < 256) (y8 : ∀ a, a ∈ y → a < 256) :
    Calls Try.prog 52 #[.slice A1 x.length c1, .slice A2 y.length c2] w fun e w' => e = .returned (.bool (decide (x = y))) ∧ w = w' := by
  have hse := str_eq x8 y8
  have r1 := run_str (c := c1) h1
  have r2 := run_str (c := c2) h2
  clear h1 h2
  go_enter Try.func52, Try.ntmps52
  go_wp2_with fail
  go_ret
  exact ⟨rfl, rfl⟩

def bigD (d : D) : Bool := decide (300 < d.k.key.length) || decide (300 < d.val.length)
def bigL (L : List D) : Bool := L.any bigD || decide (60 < L.length)
theorem any_drop {L : List D} {j : Nat} {d : D} (h : L[j]? = some d) : (L.drop j).any bigD = (bigD d || (L.drop (j + 1)).any bigD) := by
  rw [drop_cons h]; rfl
theorem big_no {L : List D} (h : bigL L = false) : L.length ≤ 60 ∧ ∀ d, d ∈ L → d.k.key.length ≤ 300 ∧ d.val.length ≤ 300 := by
  simp [bigL, bigD] at h
  exact ⟨h.2, h.1⟩
set_option maxRecDepth 100000 in
set_option maxHeartbeats 400000 in
theorem big_any (A : Option Addr) (c : Nat) (R : Nat → Prop) (L : List D) (w : World) (h : Ents w R A c L) :
    Calls Try.prog 11 #[.slice A L.length c] w fun e w' => e = .returned (.bool (bigL L)) ∧ w = w' := by
  have HO := Lib.hid h
  have hc := h.len
  have hm := h.cap
  unfold maxLen at hm
  clear h
  go_enter Try.func11, Try.ntmps11
  go_wp2_with fail
  go_loop [3] (fun i => ∃ j : Nat, j ≤ L.length ∧ i = .int .i64 j ∧ Hid (bigL L = ((L.drop j).any bigD || decide (60 < L.length)))) (fun i => L.length + 1 - (intOf i).toNat)
  case atStart => exact ⟨0, by omega, rfl, Lib.hid rfl⟩
  case round =>
    obtain ⟨j, hj, rfl, hb⟩ := hrel
    by_cases hlt : j < L.length
    · obtain ⟨d, hd⟩ : ∃ d, L[j]? = some d := ⟨_, List.getElem?_eq_getElem hlt⟩
      obtain ⟨ad, p, hA, hz, hp, p0, p1, p2, p3⟩ := HO.out.place hd
      subst hA
      clear hz
      have HD := Lib.hid (any_drop hd)
      clear hd
      by_cases k1 : 300 < d.k.key.length
      · have e : Hid (bigL L = true) := Lib.hid (by rw [hb.out, HD.out]; simp [bigD, k1])
        go_wp2_with fail
        go_ret
        exact ⟨by rw [e.out]; rfl, rfl⟩
      · by_cases k2 : 300 < d.val.length
        · have e : Hid (bigL L = true) := Lib.hid (by rw [hb.out, HD.out]; simp [bigD, k2])
          go_wp2_with fail
          go_ret
          exact ⟨by rw [e.out]; rfl, rfl⟩
        · go_wp2_with fail
          go_round
          case rel => exact ⟨j + 1, by omega, by go_num, Lib.hid (by rw [hb.out, HD.out]; simp [bigD, k1, k2])⟩
          case measure => simp [intOf]; omega
    · obtain rfl : j = L.length := by omega
      have e : Hid (bigL L = decide (60 < L.length)) := Lib.hid (by rw [hb.out]; simp)
      go_wp2_with fail
      go_ret
      exact ⟨by rw [e.out]; simp; omega, rfl⟩
end Go.Proofs.Ytobjiamdljjkjaa.Sk
