/- The document's own list: what Insert answers, and what it makes of a list. -/
import Derived.Test.YtmnhklfljfglhaaSref7
import Derived.Test.YtmnhklfljfglhaaSlaw9
import Derived.Deep.DeepCutAuto
namespace Go.Proofs.Ytmnhklfljfglhaa.Sk
set_option linter.unusedVariables false
set_option linter.unusedSimpArgs false
open Go.RowKit Lift Ik
/-- What a call of the document's Insert ends with. -/
def RInsd (w : World) (g : Nat) (S : Nat → Prop) (R : Row) (t : T) (h : Nat) (e : Ending) (w' : World) : Prop :=
  ∃ S', e = .returned (.int .i64 (insE R t : Nat)) ∧ RL w' g S' (insT R t h) ∧ Keep S w w' ∧ ∀ k, S' k → S k ∨ w.heap.size ≤ k
theorem bef_take (R : Row) (k : K) : bef rk R k = R.take (bef rk R k).length ∧ aft rk R k = R.drop (bef rk R k).length := by
  have h := bef_aft (f := rk) R k
  constructor
  · have := List.take_left' (l₁ := bef rk R k) (l₂ := aft rk R k) rfl
    rw [h] at this
    exact this.symm
  · have := List.drop_left' (l₁ := bef rk R k) (l₂ := aft rk R k) rfl
    rw [h] at this
    exact this.symm
theorem twice_at (R : Row) (k : K) : twice R k ↔ ∃ r, R[(bef rk R k).length]? = some r ∧ cmpK r.1.k k = 0 := by
  have h := (bef_take R k).2
  unfold twice
  constructor
  · rintro ⟨r, v, h1, h2⟩
    refine ⟨r, ?_, h2⟩
    have := congrArg List.head? h1
    rw [h, List.head?_drop] at this
    simpa using this
  · rintro ⟨r, h1, h2⟩
    refine ⟨r, (R.drop (bef rk R k).length).tail, ?_, h2⟩
    rw [h]
    have : (R.drop (bef rk R k).length).head? = some r := by rw [List.head?_drop]; exact h1
    cases hq : R.drop (bef rk R k).length with
    | nil => rw [hq] at this; cases this
    | cons a l => rw [hq] at this; injection this with this; rw [this]; rfl
/-- The entries are in, the heights are not yet. -/
def Half (w0 : World) (g : Nat) (S : Nat → Prop) (ts : List T) (n : Nat) (Ah : Option Addr) (ch : Nat) (w : World) : Prop :=
  ∃ A c Ld, Lift.Box w g Ty.rlist [.slice A Ld.length c, .slice Ah n ch] ∧ Ents w (fun k => (S k ∨ (w0.heap.size ≤ k ∧ k < w.heap.size)) ∧ k ≠ g) A c Ld ∧ Ld.map D.t = ts ∧ Keep (· = g) w0 w
section
variable {w w6 V : World} {g c ch c4 n4 i h : Nat} {S : Nat → Prop} {R : Row} {A Ah A4 : Option Addr} {Ld L' : List D} {d' : D} {ts : List T}
theorem half_mk (HL : RLay w g S R A c Ah ch Ld) (h6 : Below w.heap.size w w6) (hb : Below w6.heap.size w6 V) (ho : V.ownsRow w6.heap.size 36 4 (.slice A4 n4 c4) n4 (cellsL L')) (hn : n4 = L'.length)
    (hok : ∀ d, d ∈ L' → d.Ok V (fun k => (S k ∧ k ≠ g) ∨ (w.heap.size ≤ k ∧ k < V.heap.size))) (ht : L'.map D.t = ts) : Half w g S ts Ld.length Ah ch (V.setCell ⟨g, 0, none⟩ (.slice A4 n4 c4)) := by
  subst hn
  have hg := HL.lt g HL.sg
  have hwV : Below w.heap.size w V := h6.trans (hb.mono h6.size)
  have hsz : (V.setCell ⟨g, 0, none⟩ (.slice A4 L'.length c4)).heap.size = V.heap.size := by simp [World.setCell]
  have hoff : ∀ k, k ≠ g → (V.setCell ⟨g, 0, none⟩ (.slice A4 L'.length c4)).heap[k]? = V.heap[k]? := fun k hk => Below.heap_setCell _ _ _ _ (fun e => hk e)
  obtain ⟨_, _, hv, hc, hm, -⟩ := own_parts ho
  injection hv with _ _ hv
  subst hv
  refine ⟨A4, c4, L', (HL.box.below hwV hg).set 0 _, ⟨?_, hc, hm, fun d hd => ?_⟩, ht, (below_keep (S := (· = g)) hwV).setCell (p := ⟨g, 0, none⟩) (.inr rfl) _⟩
  · refine (LiesP.of_own ho).later (fun k hk => hoff k ?_) fun k hk => ?_
    · have := h6.size; have := hk.1; omega
    · have := h6.size; have := hk.1
      exact ⟨.inr ⟨by omega, by rw [hsz]; exact hk.2.1⟩, by omega⟩
  · refine (hok d hd).later (fun k hk => hoff k ?_) fun k hk => ?_
    · rcases hk with hk | hk
      · exact hk.2
      · omega
    · rcases hk with hk | hk
      · exact ⟨.inl hk.1, hk.2⟩
      · exact ⟨.inr ⟨hk.1, by rw [hsz]; exact hk.2⟩, by omega⟩
/-- An entry of the row, or the new one, behind the appends. -/
theorem ok_all {P Q : List D} {w0 : World} (hP : ∀ d, d ∈ P → d.Ok w (fun k => S k ∧ k ≠ g)) (hQ : ∀ d, d ∈ Q → d.Ok w (fun k => S k ∧ k ≠ g)) (hlt : ∀ k, S k → k < w.heap.size) (hb : Below w.heap.size w V) (hw : w.heap.size ≤ w0.heap.size) (hd : d'.Ok w0 (Fresh w.heap.size w0)) (hk : ∀ k, Fresh w.heap.size w0 k → V.heap[k]? = w0.heap[k]?) (hs : w0.heap.size ≤ V.heap.size) :
    ∀ d, d ∈ P ++ [d'] ++ Q → d.Ok V (fun k => (S k ∧ k ≠ g) ∨ (w.heap.size ≤ k ∧ k < V.heap.size)) := by
  intro d hm
  rcases List.mem_append.1 hm with hm | hm
  · rcases List.mem_append.1 hm with hm | hm
    · exact (hP d hm).later (fun k hk => hb.block k (hlt k hk.1)) fun k hk => .inl hk
    · rw [List.mem_singleton.1 hm]
      exact hd.later hk fun k hk => .inr ⟨hk.1, Nat.lt_of_lt_of_le hk.2.1 hs⟩
  · exact (hQ d hm).later (fun k hk => hb.block k (hlt k hk.1)) fun k hk => .inl hk
theorem full_mk (HL : RLay w g S R A c Ah ch Ld) {t : T} (hh : Half w g S ((R.map (·.1)).take i ++ [t] ++ (R.map (·.1)).drop i) Ld.length Ah ch w6) (hb : Below w6.heap.size w6 V) (ho : V.ownsRow w6.heap.size 3 1 (.slice A4 n4 c4) n4 (ints ((R.map (·.2)).take i ++ [h] ++ (R.map (·.2)).drop i)))
    (hi : i = (bef rk R t.k).length) (hn : n4 = R.length + 1) (hm : R.length ≤ 150) (hok : okT t = true) (hh12 : h ≤ 12) : ∃ S', RL (V.setCell ⟨g, 1, none⟩ (.slice A4 n4 c4)) g S' (insR R t h) ∧ Keep S w (V.setCell ⟨g, 1, none⟩ (.slice A4 n4 c4)) ∧ ∀ k, S' k → S k ∨ w.heap.size ≤ k := by
  obtain ⟨A', c', L', hbx, hent, htl, hkp⟩ := hh
  have hg := HL.lt g HL.sg
  have hins : insR R t h = R.take i ++ (t, h) :: R.drop i := by
    unfold insR
    rw [(bef_take R t.k).2, ← hi]
    conv => lhs; rw [(bef_take R t.k).1]
    rw [← hi]
  have hL' : L'.length = R.length + 1 := by
    have := congrArg List.length htl
    rw [List.length_map] at this
    rw [this]
    have hle := bef_le R t.k
    rw [← hi] at hle
    simp
    omega
  have hsz : (V.setCell ⟨g, 1, none⟩ (.slice A4 n4 c4)).heap.size = V.heap.size := by simp [World.setCell]
  have hoff : ∀ k, k ≠ g → (V.setCell ⟨g, 1, none⟩ (.slice A4 n4 c4)).heap[k]? = V.heap[k]? := fun k hk => Below.heap_setCell _ _ _ _ (fun e => hk e)
  obtain ⟨_, _, hv, hc, hmm, -⟩ := own_parts ho
  injection hv with _ _ hv
  subst hv
  have s6 := hkp.size
  have s7 := hb.size
  refine ⟨fun k => S k ∨ (w.heap.size ≤ k ∧ k < V.heap.size), ⟨A', c', A4, c4, L', ?_, ?_, ?_, by rw [hL', ← hn]; exact hc, hmm, ?_, .inl HL.sg, ?_, ?_, ?_⟩, ?_, fun k hk => hk.imp id fun h => h.1⟩
  · have := (hbx.below hb (by omega)).set 1 (.slice A4 n4 c4)
    rw [hn] at this ⊢
    rw [hL']
    rw [hL'] at this
    exact this
  · refine hent.later (fun k hk => ?_) fun k hk => ?_
    · refine (hoff k hk.2).trans (hb.block k ?_)
      rcases hk.1 with h1 | h1
      · have := HL.lt k h1; omega
      · exact h1.2
    · exact ⟨hk.1.imp id fun h1 => ⟨h1.1, by omega⟩, hk.2⟩
  · rw [hins]
    rw [show (R.take i ++ (t, h) :: R.drop i).map (·.2) = (R.map (·.2)).take i ++ [h] ++ (R.map (·.2)).drop i by simp [List.map_take, List.map_drop]]
    refine (LiesP.of_own ho).later (fun k hk => hoff k ?_) fun k hk => ?_
    · have := hk.1; omega
    · have := hk.1
      exact ⟨.inr ⟨by omega, hk.2.1⟩, by omega⟩
  · rw [hins, htl]
    simp [List.map_take, List.map_drop]
  · intro k hk
    rw [hsz]
    rcases hk with h1 | h1
    · have := HL.lt k h1; omega
    · exact h1.2
  · rw [insR_length]; omega
  · intro r hr
    rcases insR_mem.1 hr with rfl | hr
    · exact ⟨hok, hh12⟩
    · exact HL.okR r hr
  · have h1 : Keep (· = g) w (V.setCell ⟨g, 1, none⟩ (.slice A4 n4 c4)) := (hkp.trans (T := fun _ => False) (below_keep hb) fun _ _ h => h.elim).setCell (p := ⟨g, 1, none⟩) (.inr rfl) _
    exact h1.mono fun k hk => by rw [hk]; exact HL.sg
end
section
variable {w : World} {g : Nat} {S : Nat → Prop} {R : Row}
set_option maxRecDepth 1000000 in
set_option maxHeartbeats 8000000 in
theorem rinsert_any (d : D) (ht : Int) (h : RL w g S R) (hd : d.Ok w (· < w.heap.size)) (hw : (Lit.int .i64 ht).wf = true) (hn : R.length ≤ 150) :
    Calls Try.prog (14) #[.pointer (some ⟨g, 0, none⟩), d.v, .int .i64 ht] w (RInsd w g S R d.t (hgt ht)) := by
  have HRL := Lib.hid h
  obtain ⟨A, c, Ah, ch, Ld, hl⟩ := h
  have hb0 := below_box w d
  have hx0 : Bx (w.alloc (ebox d)) w.heap.size d := Bx.new w d
  have HL := Lib.hid hl
  have HE := Lib.hid hd
  have HB0 := Lib.hid hb0
  have HX0 := Lib.hid hx0
  have HR1 := Lib.hid (rright_entry d (w.alloc (ebox d)) (hd.next hb0))
  obtain ⟨x0, x1, x2, x3, -, -, -, -⟩ := hx0.facts
  have hld := D.load (p := ⟨w.heap.size, 0, none⟩) x0 x1 x2 x3
  have h8 := i64_of hw
  have HLD := Lib.hid (show Ld.length = R.length by have := congrArg List.length hl.told; simpa using this)
  have HMC := Lib.hid (show c ≤ 9223372036854775807 from hl.ents.cap)
  have HMH := Lib.hid (show ch ≤ 9223372036854775807 from hl.hm)
  clear hl hd hb0 hx0
  go_enter (Try.func14), (Try.ntmps14)
  go_wp2_with fail
  refine HR1.out.mono ?_
  rintro e W1 ⟨rfl, hb1⟩
  have HB1 := Lib.hid (HB0.out.trans (hb1.mono HB0.out.size))
  have HX1 : Hid (Bx W1 w.heap.size d) := Lib.hid (HX0.out.below hb1 HX0.out.lt)
  clear hb1 HR1 HX0 x0 x1 x2 x3 hld
  cases hko : okT d.t with
  | false =>
    have E := Lib.hid (show insE R d.t = 1 by simp [insE, hko])
    have E2 := Lib.hid (show insT R d.t (hgt ht) = R by unfold insT; rw [E.out]; rfl)
    have HFIN := Lib.hid (HRL.out.below HB1.out)
    clear h8
    go_wp2_with fail
    go_ret
    exact ⟨S, by rw [E.out]; rfl, by rw [E2.out]; exact HFIN.out, below_keep HB1.out, fun k hk => .inl hk⟩
  | true =>
    have HOK := Lib.hid hko
    have HSM := Lib.hid (small_of (d := d) rfl hko)
    obtain ⟨x0, x1, x2, x3, -, -, -, -⟩ := HX1.out.facts
    have hkl := KD.load (d := ⟨d.ka, d.kc, d.k⟩) (p := ⟨w.heap.size, 0, none⟩) x0 x1 x2
    have HP := Lib.hid (at_any (HRL.out.below HB1.out) ((HE.out.next HB1.out).at' fun k hk => hk))
    obtain ⟨i, hi⟩ : ∃ i, i = (bef rk R d.k).length := ⟨_, rfl⟩
    have hil : i ≤ Ld.length := by rw [hi, HLD.out]; exact bef_le R d.k
    have hl150 : Ld.length ≤ 150 := by rw [HLD.out]; exact hn
    rw [← hi] at HP
    have HI := Lib.hid hi
    obtain ⟨tw, htw⟩ : ∃ tw : Bool, (tw = true ↔ twice R d.k) := by
      by_cases h : twice R d.k
      · exact ⟨true, by simp [h]⟩
      · exact ⟨false, by simp [h]⟩
    have HTW := Lib.hid htw
    clear htw hi hko
    go_wp2_with fail
    refine HP.out.mono ?_
    rintro e W3 ⟨rfl, hb3⟩
    have HB3 := Lib.hid (HB1.out.trans (hb3.mono HB1.out.size))
    have HX3 : Hid (Bx W3 w.heap.size d) := Lib.hid (HX1.out.below hb3 HX1.out.lt)
    clear hb3 HP x0 x1 x2 x3 HB1 HX1 hkl
    go_upto_region 4 with fail
    go_cut [35] (fun v35 wx => v35 = .bool tw ∧ Below W3.heap.size W3 wx)
    case first =>
      by_cases hlt : i < Ld.length
      · obtain ⟨e, he⟩ : ∃ e, Ld[i]? = some e := ⟨_, List.getElem?_eq_getElem hlt⟩
        have hbx3 := HL.out.box.below HB3.out (HL.out.lt g HL.out.sg)
        have hl3 := HL.out.same (w' := W3) (fun k hk => HB3.out.block k (HL.out.lt k hk)) HB3.out.size
        obtain ⟨ad, p, hA, -, hp, -⟩ := hl3.ents.place he
        subst hA
        have HPD := Lib.hid hp
        have HJD := Lib.hid he
        have HL3 := Lib.hid hl3
        have HK3 := Lib.hid ((hl3.ents.ok e (List.mem_of_getElem? he)).mono (R' := (· < W3.heap.size)) fun k hk => hl3.lt k hk.1)
        have E : Hid (tw = (cmpK e.k d.k == 0)) := Lib.hid (by
          rw [Bool.eq_iff_iff, HTW.out, twice_at, beq_iff_eq, ← HI.out]
          have hr : (R.map (·.1))[i]? = some e.t := by rw [← HL.out.told, List.getElem?_map, he]; rfl
          rw [List.getElem?_map] at hr
          obtain ⟨r, hr1, hr2⟩ := Option.map_eq_some_iff.1 hr
          have hk : r.1.k = e.k := by rw [hr2]; rfl
          rw [hr1]
          simp [hk])
        have dlt : decide (i < Ld.length) = true := decide_eq_true hlt
        have hlt' : (i : Int) < (Ld.length : Int) := by omega
        have hi0 : (0 : Int) ≤ (i : Int) := by omega
        clear he hp hl3 hbx3
        go_wp2_with fail
        refine wp_region_held_drew (S := fun w' => Hid (Below W3.heap.size W3 w')) (by kernel_rfl) (Lib.hid (Below.refl _ _).drew) (fun hS => ?_)
        refine wpAnyH_take (i := 0) (v := ?_) rfl (by kernel_rfl) (by kernel_rfl) (by kernel_rfl) (fun _ _ _ h => h) (Or.inl ⟨by rfl, ?_⟩) hS ?_
        rotate_left
        · intro w hw
          go_simp
          try with_reducible rfl
        try simp only [Act.put, List.getElem_toArray, List.getElem_cons_succ, List.getElem_cons_zero, List.setIfInBounds_toArray, List.set_cons_zero, List.set_cons_succ]
        refine wpAnyH_take (i := 1) (v := ?_) rfl (by kernel_rfl) (by kernel_rfl) (by kernel_rfl) (fun _ _ _ h => h) (Or.inl ⟨by rfl, ?_⟩) hS ?_
        rotate_left
        · intro w hw
          go_simp
          try with_reducible rfl
        try simp only [Act.put, List.getElem_toArray, List.getElem_cons_succ, List.getElem_cons_zero, List.setIfInBounds_toArray, List.set_cons_zero, List.set_cons_succ]
        refine wpAnyH_take (i := 2) (v := ?_) rfl (by kernel_rfl) (by kernel_rfl) (by kernel_rfl) (fun _ _ _ h => h) (Or.inl ⟨by rfl, ?_⟩) hS ?_
        rotate_left
        · intro w hw
          go_simp
          try with_reducible rfl
        try simp only [Act.put, List.getElem_toArray, List.getElem_cons_succ, List.getElem_cons_zero, List.setIfInBounds_toArray, List.set_cons_zero, List.set_cons_succ]
        refine wpAnyH_take (i := 3) (v := ?_) rfl (by kernel_rfl) (by kernel_rfl) (by kernel_rfl) (fun _ _ _ h => h) (Or.inl ⟨by rfl, ?_⟩) hS ?_
        rotate_left
        · intro w hw
          go_simp
          try with_reducible rfl
        try simp only [Act.put, List.getElem_toArray, List.getElem_cons_succ, List.getElem_cons_zero, List.setIfInBounds_toArray, List.set_cons_zero, List.set_cons_succ]
        refine wpAnyH_take (i := 4) (v := ?_) rfl (by kernel_rfl) (by kernel_rfl) (by kernel_rfl) (fun _ _ _ h => h) (Or.inl ⟨by rfl, ?_⟩) hS ?_
        rotate_left
        · intro w hw
          have hbx := HL3.out.box.below hw.out HL3.out.box.lt
          have b0 := hbx.cell 0
          simp only [List.getElem?_cons_zero] at b0
          clear hbx
          go_simp
          try with_reducible rfl
        try simp only [Act.put, List.getElem_toArray, List.getElem_cons_succ, List.getElem_cons_zero, List.setIfInBounds_toArray, List.set_cons_zero, List.set_cons_succ]
        refine wpAnyH_take (i := 5) (v := ?_) rfl (by kernel_rfl) (by kernel_rfl) (by kernel_rfl) (fun _ _ _ h => h) (Or.inl ⟨by rfl, ?_⟩) hS ?_
        rotate_left
        · intro w hw
          go_simp
          try with_reducible rfl
        try simp only [Act.put, List.getElem_toArray, List.getElem_cons_succ, List.getElem_cons_zero, List.setIfInBounds_toArray, List.set_cons_zero, List.set_cons_succ]
        refine wpAnyH_take (i := 6) (v := ?_) rfl (by kernel_rfl) (by kernel_rfl) (by kernel_rfl) (fun _ _ _ h => h) (Or.inl ⟨by rfl, ?_⟩) hS ?_
        rotate_left
        · intro w hw
          go_simp
          try with_reducible rfl
        try simp only [Act.put, List.getElem_toArray, List.getElem_cons_succ, List.getElem_cons_zero, List.setIfInBounds_toArray, List.set_cons_zero, List.set_cons_succ]
        refine wpAnyH_take (i := 7) (v := ?_) rfl (by kernel_rfl) (by kernel_rfl) (by kernel_rfl) (fun _ _ _ h => h) (Or.inl ⟨by rfl, ?_⟩) hS ?_
        rotate_left
        · intro w hw
          go_simp
          try with_reducible rfl
        try simp only [Act.put, List.getElem_toArray, List.getElem_cons_succ, List.getElem_cons_zero, List.setIfInBounds_toArray, List.set_cons_zero, List.set_cons_succ]
        refine wpAnyH_take (i := 8) (v := ?_) rfl (by kernel_rfl) (by kernel_rfl) (by kernel_rfl) (fun _ _ _ h => h) (Or.inl ⟨by rfl, ?_⟩) hS ?_
        rotate_left
        · intro w hw
          go_simp
          try with_reducible rfl
        try simp only [Act.put, List.getElem_toArray, List.getElem_cons_succ, List.getElem_cons_zero, List.setIfInBounds_toArray, List.set_cons_zero, List.set_cons_succ]
        refine wpAnyH_take (i := 9) (v := ?_) rfl (by kernel_rfl) (by kernel_rfl) (by kernel_rfl) (fun _ _ _ h => h) (Or.inl ⟨by rfl, ?_⟩) hS ?_
        rotate_left
        · intro w hw
          go_simp
          try with_reducible rfl
        try simp only [Act.put, List.getElem_toArray, List.getElem_cons_succ, List.getElem_cons_zero, List.setIfInBounds_toArray, List.set_cons_zero, List.set_cons_succ]
        refine wpAnyH_take (i := 10) (v := ?_) rfl (by kernel_rfl) (by kernel_rfl) (by kernel_rfl) (fun _ _ _ h => h) (Or.inl ⟨by rfl, ?_⟩) hS ?_
        rotate_left
        · intro w hw
          go_simp
          try with_reducible rfl
        try simp only [Act.put, List.getElem_toArray, List.getElem_cons_succ, List.getElem_cons_zero, List.setIfInBounds_toArray, List.set_cons_zero, List.set_cons_succ]
        refine wpAnyH_take (i := 11) (v := ?_) rfl (by kernel_rfl) (by kernel_rfl) (by kernel_rfl) (fun _ _ _ h => h) (Or.inl ⟨by rfl, ?_⟩) hS ?_
        rotate_left
        · intro w hw
          have hbx := HL3.out.box.below hw.out HL3.out.box.lt
          have b0 := hbx.cell 0
          simp only [List.getElem?_cons_zero] at b0
          clear hbx
          go_simp
          try with_reducible rfl
        try simp only [Act.put, List.getElem_toArray, List.getElem_cons_succ, List.getElem_cons_zero, List.setIfInBounds_toArray, List.set_cons_zero, List.set_cons_succ]
        refine wpAnyH_take (i := 12) (v := ?_) rfl (by kernel_rfl) (by kernel_rfl) (by kernel_rfl) (fun _ _ _ h => h) (Or.inl ⟨by rfl, ?_⟩) hS ?_
        rotate_left
        · intro w hw
          go_simp
          try with_reducible rfl
        try simp only [Act.put, List.getElem_toArray, List.getElem_cons_succ, List.getElem_cons_zero, List.setIfInBounds_toArray, List.set_cons_zero, List.set_cons_succ]
        refine wpAnyH_take (i := 13) (v := ?_) rfl (by kernel_rfl) (by kernel_rfl) (by kernel_rfl) (fun _ _ _ h => h) (Or.inl ⟨by rfl, ?_⟩) hS ?_
        rotate_left
        · intro w hw
          have hpd := HPD.out
          go_simp
          try with_reducible rfl
        try simp only [Act.put, List.getElem_toArray, List.getElem_cons_succ, List.getElem_cons_zero, List.setIfInBounds_toArray, List.set_cons_zero, List.set_cons_succ]
        refine wpAnyH_take (i := 14) (v := ?_) rfl (by kernel_rfl) (by kernel_rfl) (by kernel_rfl) (fun _ _ _ h => h) (Or.inl ⟨by rfl, ?_⟩) hS ?_
        rotate_left
        · intro w hw
          go_simp
          try with_reducible rfl
        try simp only [Act.put, List.getElem_toArray, List.getElem_cons_succ, List.getElem_cons_zero, List.setIfInBounds_toArray, List.set_cons_zero, List.set_cons_succ]
        refine wpAnyH_take (i := 15) (v := ?_) rfl (by kernel_rfl) (by kernel_rfl) (by kernel_rfl) (fun _ _ _ h => h) (Or.inl ⟨by rfl, ?_⟩) hS ?_
        rotate_left
        · intro w hw
          obtain ⟨ad', pi, hA, -, hpi, q0, q1, q2, q3⟩ := (HL3.out.ents.later (w' := w) (R' := fun k => S k ∧ k ≠ g) (fun k hk => hw.out.block k (HL3.out.lt k hk.1)) fun _ h => h).place HJD.out
          injection hA with hA
          subst hA
          obtain rfl : pi = p := hpi.symm.trans HPD.out
          have hkl := KD.load (d := ⟨e.ka, e.kc, e.k⟩) q0 q1 q2
          go_simp
          try with_reducible rfl
        try simp only [Act.put, List.getElem_toArray, List.getElem_cons_succ, List.getElem_cons_zero, List.setIfInBounds_toArray, List.set_cons_zero, List.set_cons_succ]
        refine wpAnyH_take (i := 16) (v := ?_) rfl (by kernel_rfl) (by kernel_rfl) (by kernel_rfl) (fun _ _ _ h => h) (Or.inl ⟨by rfl, ?_⟩) hS ?_
        rotate_left
        · intro w hw
          go_simp
          try with_reducible rfl
        try simp only [Act.put, List.getElem_toArray, List.getElem_cons_succ, List.getElem_cons_zero, List.setIfInBounds_toArray, List.set_cons_zero, List.set_cons_succ]
        refine wpAnyH_take (i := 17) (v := ?_) rfl (by kernel_rfl) (by kernel_rfl) (by kernel_rfl) (fun _ _ _ h => h) (Or.inl ⟨by rfl, ?_⟩) hS ?_
        rotate_left
        · intro w hw
          obtain ⟨t0, t1, t2, -, -, -, -, -⟩ := (show Bx w _ d from HX3.out.below hw.out HX3.out.lt).facts
          have hkl := KD.load (d := ⟨d.ka, d.kc, d.k⟩) t0 t1 t2
          go_simp
          try with_reducible rfl
        try simp only [Act.put, List.getElem_toArray, List.getElem_cons_succ, List.getElem_cons_zero, List.setIfInBounds_toArray, List.set_cons_zero, List.set_cons_succ]
        refine wpAnyH_ready (rs := [18]) (by kernel_rfl) (by simp) ?_
        refine AllReadyH.cons rfl (fun K hK => ?_) AllReadyH.nil
        go_simp
        have hb7 := hS.out
        refine (rcmp_any e.ka d.ka e.kc d.kc e.k d.k _ ((HK3.out.next hb7).at' fun k hk => hk) (((HE.out.next HB3.out).next hb7).at' fun k hk => hk)).mono ?_
        rintro e W8 ⟨rfl, hb10⟩
        have HB8 := Lib.hid (hb7.trans (hb10.mono hb7.size))
        clear hb7 hb10
        go_wp2_with fail
        refine hK.out _ _ HB8 (fun _ => ?_)
        clear hK K hS
        refine wpAnyH_other (S' := fun w' => Hid (Below W8.heap.size W8 w')) (fun w hw => Lib.hid (HB8.out.trans (hw.out.mono HB8.out.size))) _ _ _ _ ?_
        have hS : Hid (Below W8.heap.size W8 W8) := Lib.hid (Below.refl _ _)
        try simp only [Act.put, List.getElem_toArray, List.getElem_cons_succ, List.getElem_cons_zero, List.setIfInBounds_toArray, List.set_cons_zero, List.set_cons_succ]
        refine wpAnyH_take (i := 19) (v := ?_) rfl (by kernel_rfl) (by kernel_rfl) (by kernel_rfl) (fun _ _ _ h => h) (Or.inl ⟨by rfl, ?_⟩) hS ?_
        rotate_left
        · intro w hw
          go_simp
          try with_reducible rfl
        try simp only [Act.put, List.getElem_toArray, List.getElem_cons_succ, List.getElem_cons_zero, List.setIfInBounds_toArray, List.set_cons_zero, List.set_cons_succ]
        refine wpAnyH_take (i := 20) (v := ?_) rfl (by kernel_rfl) (by kernel_rfl) (by kernel_rfl) (fun _ _ _ h => h) (Or.inl ⟨by rfl, ?_⟩) hS ?_
        rotate_left
        · intro w hw
          go_simp
          try with_reducible rfl
        try simp only [Act.put, List.getElem_toArray, List.getElem_cons_succ, List.getElem_cons_zero, List.setIfInBounds_toArray, List.set_cons_zero, List.set_cons_succ]
        refine wpAnyH_done (by kernel_rfl) ?_ _
        go_wp2_with fail
        go_meet
        exact ⟨by rw [E.out], HB8.out⟩
      · have E : Hid (tw = false) := Lib.hid (by
          cases tw with
          | false => rfl
          | true =>
            obtain ⟨r, hr, _⟩ := (twice_at R d.k).1 (HTW.out.1 rfl)
            have := (List.getElem?_eq_some_iff.1 hr).1
            rw [← HI.out, ← HLD.out] at this
            exact absurd this hlt)
        have hl3 := HL.out.same (w' := W3) (fun k hk => HB3.out.block k (HL.out.lt k hk)) HB3.out.size
        have b0 := hl3.box.cell 0
        simp only [List.getElem?_cons_zero] at b0
        have dlt : decide (i < Ld.length) = false := decide_eq_false hlt
        clear hl3 hlt
        go_wp2_with fail
        go_quiet (fail)
        go_wp2_with fail
        go_meet
        exact ⟨by rw [E.out], Joins.below_draws _ _ _⟩
    case rest =>
    obtain ⟨rfl, hbc⟩ := hcut
    have HB6 := Lib.hid (HB3.out.trans (hbc.mono HB3.out.size))
    have HX6 : Hid (Bx wc w.heap.size d) := Lib.hid (HX3.out.below hbc HX3.out.lt)
    clear hbc HB3 HX3
    obtain ⟨W6, hW6⟩ : ∃ W6, W6 = wc := ⟨_, rfl⟩
    rw [← hW6] at HB6 HX6 ⊢
    clear hW6
    cases tw with
    | true =>
      have htw := HTW.out.1 rfl
      have E := Lib.hid (show insE R d.t = 9 by unfold insE; rw [if_neg (by rw [HOK.out]; decide), if_pos (show twice R d.t.k from htw)])
      have E2 := Lib.hid (show insT R d.t (hgt ht) = R by unfold insT; rw [E.out]; rfl)
      have HFIN := Lib.hid (HRL.out.below HB6.out)
      clear htw h8
      go_wp2_with fail
      go_ret
      exact ⟨S, by rw [E.out]; rfl, by rw [E2.out]; exact HFIN.out, below_keep HB6.out, fun k hk => .inl hk⟩
    | false =>
      have htw : ¬ twice R d.k := fun h => by have := HTW.out.2 h; cases this
      have E := Lib.hid (show insE R d.t = 0 by unfold insE; rw [if_neg (by rw [HOK.out]; decide), if_neg (show ¬ twice R d.t.k from htw)])
      have E2 := Lib.hid (show insT R d.t (hgt ht) = insR R d.t (hgt ht) by unfold insT; rw [if_pos E.out])
      clear htw
      go_upto_region 6 with fail
      go_cut [] (fun wx => Half w g S ((R.map (·.1)).take i ++ [d.t] ++ (R.map (·.1)).drop i) Ld.length Ah ch wx)
      case first =>
        obtain ⟨A2, hA2, hcut2⟩ := drop_at4 A Ld.length c i hil HL.out.ents.len HMC.out
        have hcut1 := upto_at4 A Ld.length c i (Nat.le_trans hil HL.out.ents.len) HL.out.ents.len HMC.out
        have hlie : Lies w w.heap.size A (cellsL (Ld.take i) ++ cellsL (Ld.drop i)) := by
          rw [← cellsL_append, List.take_append_drop]
          exact HL.out.ents.lies.lies fun k hk => HL.out.lt k hk.1
        have HD2 := Lib.hid (lies_drop hlie (o := i * 4) (by rw [cellsL_length, List.length_take, Nat.min_eq_left hil]) (fun h0 => hA2 (by rw [cellsL_length, List.length_drop] at h0; omega)))
        have HLIE := Lib.hid hlie
        have HB0' : Hid (Below W6.heap.size W6 W6) := Lib.hid (Below.refl _ _)
        have hlen : ∀ d', Hid (cellsL (Ld.take i) ++ D.cells d' ++ cellsL (Ld.drop i) = cellsL (Ld.take i ++ [d'] ++ Ld.drop i)) := fun d' => Lib.hid (by rw [cellsL_append, cellsL_append]; simp [cellsL])
        have HLEN := Lib.hid hlen
        clear hlie hlen hA2
        refine wp_region_last (S := fun w' => Hid (Below W6.heap.size W6 w')) 21 (by kernel_rfl) (Lib.hid (Below.refl _ _).drew) (fun hS => ?_)
        refine wpAnyX_take (i := 0) (v := ?_) rfl (by kernel_rfl) (by kernel_rfl) (by kernel_rfl) (by kernel_rfl) (fun _ _ _ h => h) (Or.inl ⟨by rfl, ?_⟩) hS ?_
        rotate_left
        · intro w hw
          go_simp
          try with_reducible rfl
        try simp only [Act.put, List.getElem_toArray, List.getElem_cons_succ, List.getElem_cons_zero, List.setIfInBounds_toArray, List.set_cons_zero, List.set_cons_succ]
        refine wpAnyX_take (i := 1) (v := ?_) rfl (by kernel_rfl) (by kernel_rfl) (by kernel_rfl) (by kernel_rfl) (fun _ _ _ h => h) (Or.inl ⟨by rfl, ?_⟩) hS ?_
        rotate_left
        · intro w hw
          go_simp
          try with_reducible rfl
        try simp only [Act.put, List.getElem_toArray, List.getElem_cons_succ, List.getElem_cons_zero, List.setIfInBounds_toArray, List.set_cons_zero, List.set_cons_succ]
        refine wpAnyX_take (i := 2) (v := ?_) rfl (by kernel_rfl) (by kernel_rfl) (by kernel_rfl) (by kernel_rfl) (fun _ _ _ h => h) (Or.inl ⟨by rfl, ?_⟩) hS ?_
        rotate_left
        · intro w hw
          go_simp
          try with_reducible rfl
        try simp only [Act.put, List.getElem_toArray, List.getElem_cons_succ, List.getElem_cons_zero, List.setIfInBounds_toArray, List.set_cons_zero, List.set_cons_succ]
        refine wpAnyX_take (i := 3) (v := ?_) rfl (by kernel_rfl) (by kernel_rfl) (by kernel_rfl) (by kernel_rfl) (fun _ _ _ h => h) (Or.inl ⟨by rfl, ?_⟩) hS ?_
        rotate_left
        · intro w hw
          go_simp
          try with_reducible rfl
        try simp only [Act.put, List.getElem_toArray, List.getElem_cons_succ, List.getElem_cons_zero, List.setIfInBounds_toArray, List.set_cons_zero, List.set_cons_succ]
        refine wpAnyX_take (i := 4) (v := ?_) rfl (by kernel_rfl) (by kernel_rfl) (by kernel_rfl) (by kernel_rfl) (fun _ _ _ h => h) (Or.inl ⟨by rfl, ?_⟩) hS ?_
        rotate_left
        · intro w hw
          have hbx := HL.out.box.below (HB6.out.trans (hw.out.mono HB6.out.size)) (HL.out.lt g HL.out.sg)
          have b0 := hbx.cell 0
          simp only [List.getElem?_cons_zero] at b0
          clear hbx
          go_simp
          try with_reducible rfl
        try simp only [Act.put, List.getElem_toArray, List.getElem_cons_succ, List.getElem_cons_zero, List.setIfInBounds_toArray, List.set_cons_zero, List.set_cons_succ]
        refine wpAnyX_take (i := 5) (v := ?_) rfl (by kernel_rfl) (by kernel_rfl) (by kernel_rfl) (by kernel_rfl) (fun _ _ _ h => h) (Or.inl ⟨by rfl, ?_⟩) hS ?_
        rotate_left
        · intro w hw
          go_simp
          try with_reducible rfl
        try simp only [Act.put, List.getElem_toArray, List.getElem_cons_succ, List.getElem_cons_zero, List.setIfInBounds_toArray, List.set_cons_zero, List.set_cons_succ]
        refine wpAnyX_take (i := 6) (v := ?_) rfl (by kernel_rfl) (by kernel_rfl) (by kernel_rfl) (by kernel_rfl) (fun _ _ _ h => h) (Or.inl ⟨by rfl, ?_⟩) hS ?_
        rotate_left
        · intro w hw
          go_simp
          try with_reducible rfl
        try simp only [Act.put, List.getElem_toArray, List.getElem_cons_succ, List.getElem_cons_zero, List.setIfInBounds_toArray, List.set_cons_zero, List.set_cons_succ]
        refine wpAnyX_take (i := 8) (v := ?_) rfl (by kernel_rfl) (by kernel_rfl) (by kernel_rfl) (by kernel_rfl) (fun _ _ _ h => h) (Or.inl ⟨by rfl, ?_⟩) hS ?_
        rotate_left
        · intro w hw
          obtain ⟨t0, t1, t2, t3, -, -, -, -⟩ := (show Bx w _ d from HX6.out.below hw.out HX6.out.lt).facts
          have hld := D.load t0 t1 t2 t3
          go_simp
          try with_reducible rfl
        try simp only [Act.put, List.getElem_toArray, List.getElem_cons_succ, List.getElem_cons_zero, List.setIfInBounds_toArray, List.set_cons_zero, List.set_cons_succ]
        refine wpAnyX_take (i := 12) (v := ?_) rfl (by kernel_rfl) (by kernel_rfl) (by kernel_rfl) (by kernel_rfl) (fun _ _ _ h => h) (Or.inl ⟨by rfl, ?_⟩) hS ?_
        rotate_left
        · intro w hw
          go_simp
          try with_reducible rfl
        try simp only [Act.put, List.getElem_toArray, List.getElem_cons_succ, List.getElem_cons_zero, List.setIfInBounds_toArray, List.set_cons_zero, List.set_cons_succ]
        refine wpAnyX_take (i := 13) (v := ?_) rfl (by kernel_rfl) (by kernel_rfl) (by kernel_rfl) (by kernel_rfl) (fun _ _ _ h => h) (Or.inl ⟨by rfl, ?_⟩) hS ?_
        rotate_left
        · intro w hw
          go_simp
          try with_reducible rfl
        try simp only [Act.put, List.getElem_toArray, List.getElem_cons_succ, List.getElem_cons_zero, List.setIfInBounds_toArray, List.set_cons_zero, List.set_cons_succ]
        refine wpAnyX_take (i := 14) (v := ?_) rfl (by kernel_rfl) (by kernel_rfl) (by kernel_rfl) (by kernel_rfl) (fun _ _ _ h => h) (Or.inl ⟨by rfl, ?_⟩) hS ?_
        rotate_left
        · intro w hw
          go_simp
          try with_reducible rfl
        try simp only [Act.put, List.getElem_toArray, List.getElem_cons_succ, List.getElem_cons_zero, List.setIfInBounds_toArray, List.set_cons_zero, List.set_cons_succ]
        refine wpAnyX_take (i := 15) (v := ?_) rfl (by kernel_rfl) (by kernel_rfl) (by kernel_rfl) (by kernel_rfl) (fun _ _ _ h => h) (Or.inl ⟨by rfl, ?_⟩) hS ?_
        rotate_left
        · intro w hw
          have hbx := HL.out.box.below (HB6.out.trans (hw.out.mono HB6.out.size)) (HL.out.lt g HL.out.sg)
          have b0 := hbx.cell 0
          simp only [List.getElem?_cons_zero] at b0
          clear hbx
          go_simp
          try with_reducible rfl
        try simp only [Act.put, List.getElem_toArray, List.getElem_cons_succ, List.getElem_cons_zero, List.setIfInBounds_toArray, List.set_cons_zero, List.set_cons_succ]
        refine wpAnyX_take (i := 16) (v := ?_) rfl (by kernel_rfl) (by kernel_rfl) (by kernel_rfl) (by kernel_rfl) (fun _ _ _ h => h) (Or.inl ⟨by rfl, ?_⟩) hS ?_
        rotate_left
        · intro w hw
          go_simp
          try with_reducible rfl
        try simp only [Act.put, List.getElem_toArray, List.getElem_cons_succ, List.getElem_cons_zero, List.setIfInBounds_toArray, List.set_cons_zero, List.set_cons_succ]
        refine wpAnyX_take (i := 17) (v := ?_) rfl (by kernel_rfl) (by kernel_rfl) (by kernel_rfl) (by kernel_rfl) (fun _ _ _ h => h) (Or.inl ⟨by rfl, ?_⟩) hS ?_
        rotate_left
        · intro w hw
          go_simp
          try with_reducible rfl
        try simp only [Act.put, List.getElem_toArray, List.getElem_cons_succ, List.getElem_cons_zero, List.setIfInBounds_toArray, List.set_cons_zero, List.set_cons_succ]
        have HB7 : Hid (Below W6.heap.size W6 W6.drew) := Lib.hid (Below.refl _ _).drew
        clear hcut1 hcut2
        generalize W6.drew = W7 at hS HB7 ⊢
        refine wpAnyX_ready (rs := [7]) (by kernel_rfl) (by simp) ?_
        refine (AllReadyX.cons rfl (fun K hK => ?_) AllReadyX.nil)
        obtain ⟨A1, c1, WA1, hr1, ho1, hb1⟩ := ins_head (P := Try.prog) (V := W7) (B := w.heap.size) (c := c) 22 22 36 (.agg #[.slice none 0 0, .int .u64 0, .int .i64 0, .slice none 0 0]) 4 64 Try.underlying22 (by kernel_rfl) rfl (by decide)
          (HLIE.out.below (HB6.out.trans (HB7.out.mono HB6.out.size))) (List.prefix_append _ _) (by rw [cellsL_length, List.length_take, Nat.min_eq_left hil]) (by rw [← cellsL_append]; exact cellsL_one) (by decide) (show i ≤ 1000 by omega)
        refine held_append rfl _ _ 22 rfl rfl rfl hr1 ?_
        have HWA1 : Hid (Below W6.heap.size W6 WA1) := Lib.hid (HB7.out.trans (hb1.mono HB7.out.size))
        have HOA1 : Hid (WA1.ownsRow W6.heap.size 36 4 (.slice A1 i c1) i (cellsL (Ld.take i))) := Lib.hid (own_lower ho1 HB7.out.size)
        have KWA1 : Hid (Below W7.heap.size W7 WA1) := Lib.hid hb1
        refine hK.out _ _ HWA1 (fun hS => ?_)
        clear hK K hr1 ho1 hb1
        try simp only [Act.put, List.getElem_toArray, List.getElem_cons_succ, List.getElem_cons_zero, List.setIfInBounds_toArray, List.set_cons_zero, List.set_cons_succ]
        refine wpAnyX_ready (rs := [9]) (by kernel_rfl) (by simp) ?_
        refine (AllReadyX.cons rfl (fun K hK => ?_) AllReadyX.nil)
        go_simp
        refine (copy_any d WA1 ((HE.out.next HB6.out).next HWA1.out) HSM.out).mono ?_
        rintro e WA2 ⟨d2, rfl, ht2, hd2, hb2⟩
        have HT2 := Lib.hid ht2
        have HOK2 : Hid (d2.Ok WA2 (Fresh WA1.heap.size WA2)) := Lib.hid hd2
        have HWA2 : Hid (Below W6.heap.size W6 WA2) := Lib.hid (HWA1.out.trans (hb2.mono HWA1.out.size))
        have KWA2 : Hid (Below WA1.heap.size WA1 WA2) := Lib.hid hb2
        refine hK.out _ _ HWA2 (fun hS => ?_)
        clear hK K ht2 hd2 hb2
        try simp only [Act.put, List.getElem_toArray, List.getElem_cons_succ, List.getElem_cons_zero, List.setIfInBounds_toArray, List.set_cons_zero, List.set_cons_succ]
        refine wpAnyX_ready (rs := [10]) (by kernel_rfl) (by simp) ?_
        refine (AllReadyX.cons rfl (fun K hK => ?_) AllReadyX.nil)
        go_simp
        have HAL : Hid (Below WA2.heap.size WA2 (WA2.alloc (ebox d2))) := Lib.hid (Joins.below_alloc1 WA2 (ebox d2))
        have HBA : Hid (Below W6.heap.size W6 (WA2.alloc (ebox d2))) := Lib.hid (HWA2.out.trans (HAL.out.mono HWA2.out.size))
        have HQ : Hid (∀ j u, d2.cells[j]? = some u → (WA2.alloc (ebox d2)).cell? ((⟨WA2.heap.size, 0, none⟩ : Addr).add j) = some u) := Lib.hid (by
          rcases lies_block (cs := d2.cells.toArray) (heap_alloc_new WA2 (ebox d2)) (Nat.lt_succ_self _) with h | ⟨ad, e, _, h⟩
          · simp [D.cells] at h
          · injection e with e
            subst e
            exact h)
        refine hK.out _ _ HBA (fun hS => ?_)
        clear hK K
        try simp only [Act.put, List.getElem_toArray, List.getElem_cons_succ, List.getElem_cons_zero, List.setIfInBounds_toArray, List.set_cons_zero, List.set_cons_succ]
        have KTAIL : Hid (∀ k, k < WA2.heap.size → (WA2.alloc (ebox d2)).heap[k]? = WA2.heap[k]?) := Lib.hid (fun k hk => HAL.out.block k hk)
        have KTAIL2 : Hid (WA2.heap.size ≤ (WA2.alloc (ebox d2)).heap.size) := Lib.hid (HAL.out.size)
        have hok2 : d2.Ok WA2 (Fresh w.heap.size WA2) := HOK2.out.mono (Fresh.low (Nat.le_trans HB6.out.size HWA1.out.size))
        obtain ⟨A3, c3, V3, A4, c4, V4, hr3, hr4, ho4, hb3, hb4, hty⟩ := ins_tail (P := Try.prog) (V := (WA2.alloc (ebox d2))) (B := W6.heap.size) (q := WA2.heap.size) (i := i) (m := Ld.length - i) (c2 := c - i) 22 22 36 (.agg #[.slice none 0 0, .int .u64 0, .int .i64 0, .slice none 0 0]) 4 64 Try.underlying22 (by kernel_rfl) rfl (by decide)
          (own_later (own_later HOA1.out KWA2.out) HAL.out) HBA.out.size HQ.out rfl (fun u hu => by simp [D.cells] at hu; rcases hu with rfl | rfl | rfl | rfl <;> rfl) ((HD2.out.below (HB6.out.trans (HBA.out.mono HB6.out.size))).up HB6.out.size) (by rw [cellsL_length, List.length_drop]) cellsL_one (by decide) (by omega)
        have hbV3 : Below W6.heap.size W6 V3 := HBA.out.trans hb3
        have hbV4 : Below W6.heap.size W6 V4 := HBA.out.trans hb4
        have hwV4 : Below w.heap.size w V4 := HB6.out.trans (hbV4.mono HB6.out.size)
        rw [(HLEN.out d2).out] at ho4
        have hfin : Half w g S ((R.map (·.1)).take i ++ [d.t] ++ (R.map (·.1)).drop i) Ld.length Ah ch (V4.setCell ⟨g, 0, none⟩ (.slice A4 (i + 1 + (Ld.length - i)) c4)) :=
          half_mk HL.out HB6.out hbV4 ho4 (by simp; omega)
            (ok_all (w0 := WA2) (fun e he => HL.out.ents.ok e (List.mem_of_mem_take he)) (fun e he => HL.out.ents.ok e (List.mem_of_mem_drop he)) HL.out.lt hwV4 (Nat.le_trans HB6.out.size HWA2.out.size) hok2
              (fun k hk => by
                obtain ⟨k1, k2, cs, fr, k3⟩ := hk
                have e1 : (WA2.alloc (ebox d2)).heap[k]? = WA2.heap[k]? := KTAIL.out k k2
                exact (hty k cs _ fr (e1.trans k3) (by decide)).trans e1) (Nat.le_trans KTAIL2.out hb4.size))
            (by rw [← HL.out.told, List.map_append, List.map_append, List.map_take, List.map_drop]; simp [HT2.out])
        have hbx4 := HL.out.box.below hwV4 (HL.out.lt g HL.out.sg)
        have p0 := hbx4.cell 0
        have z0 := hbx4.free 0
        simp only [List.getElem?_cons_zero] at p0
        have HFIN := Lib.hid hfin
        have HP0 := Lib.hid p0
        have HZ0 := Lib.hid z0
        have HR3 := Lib.hid hr3
        have HR4 := Lib.hid hr4
        have HV3 := Lib.hid hbV3
        have HV4 := Lib.hid hbV4
        clear hok2 hr3 hr4 ho4 hb3 hb4 hty hbV3 hbV4 hwV4 hfin hbx4 p0 z0
        obtain ⟨mm, hmm⟩ : ∃ mm, mm = i + 1 + (Ld.length - i) := ⟨_, rfl⟩
        rw [← hmm] at HR4 HFIN
        clear hmm
        refine wpAnyX_ready (rs := [11]) (by kernel_rfl) (by simp) ?_
        refine (AllReadyX.cons rfl (fun K hK => ?_) AllReadyX.nil)
        refine held_append rfl _ _ 22 rfl rfl rfl HR3.out ?_
        refine hK.out _ _ HV3 (fun hS => ?_)
        clear hK K
        try simp only [Act.put, List.getElem_toArray, List.getElem_cons_succ, List.getElem_cons_zero, List.setIfInBounds_toArray, List.set_cons_zero, List.set_cons_succ]
        refine wpAnyX_ready (rs := [18]) (by kernel_rfl) (by simp) ?_
        refine (AllReadyX.cons rfl (fun K hK => ?_) AllReadyX.nil)
        refine held_append rfl _ _ 22 rfl rfl rfl HR4.out ?_
        refine hK.out _ _ HV4 (fun hS => ?_)
        clear hK K
        try simp only [Act.put, List.getElem_toArray, List.getElem_cons_succ, List.getElem_cons_zero, List.setIfInBounds_toArray, List.set_cons_zero, List.set_cons_succ]
        refine wpAnyX_ready (rs := [19]) (by kernel_rfl) (by simp) ?_
        refine (AllReadyX.cons rfl (fun K hK => ?_) AllReadyX.nil)
        go_simp
        refine hK.out _ _ HV4 (fun hS => ?_)
        clear hK K
        try simp only [Act.put, List.getElem_toArray, List.getElem_cons_succ, List.getElem_cons_zero, List.setIfInBounds_toArray, List.set_cons_zero, List.set_cons_succ]
        refine wpAnyX_take (i := 20) (v := ?_) rfl (by kernel_rfl) (by kernel_rfl) (by kernel_rfl) (by kernel_rfl) (fun _ _ _ h => h) (Or.inl ⟨by rfl, ?_⟩) hS ?_
        rotate_left
        · intro w hw
          go_simp
          try with_reducible rfl
        try simp only [Act.put, List.getElem_toArray, List.getElem_cons_succ, List.getElem_cons_zero, List.setIfInBounds_toArray, List.set_cons_zero, List.set_cons_succ]
        refine wpAnyX_ready (rs := [21]) (by kernel_rfl) (by simp) ?_
        refine AllReadyX.last rfl (fun K hK => ?_)
        have p0 := HP0.out
        have z0 := HZ0.out
        go_simp
        refine hK.out _ _ ?_
        clear hK K p0 z0
        try simp only [Act.put, List.getElem_toArray, List.getElem_cons_succ, List.getElem_cons_zero, List.setIfInBounds_toArray, List.set_cons_zero, List.set_cons_succ]
        refine wpAnyX_done (by kernel_rfl) ?_ _
        go_wp2_with fail
        go_meet
        exact HFIN.out
      case rest =>
      have HH := Lib.hid hcut
      obtain ⟨A', c', L', hbx, hent, htl, hkp⟩ := id hcut
      have hl' : L'.length = R.length + 1 := by
        have := congrArg List.length htl
        rw [List.length_map] at this
        rw [this]
        have hle := hil
        rw [HLD.out] at hle
        simp
        omega
      have HBX := Lib.hid hbx
      have HSZ := Lib.hid hkp.size
      have HHT : Hid (LiesP wc (fun k => S k ∧ k ≠ g) Ah (ints (R.map (·.2)))) := Lib.hid (HL.out.hts.later (fun k hk => hkp.block k (HL.out.lt k hk.1) hk.2) fun _ h => h)
      have HLT : Hid (∀ k, S k → k < wc.heap.size) := Lib.hid fun k hk => Nat.lt_of_lt_of_le (HL.out.lt k hk) hkp.size
      have HG : Hid (g < wc.heap.size) := Lib.hid hbx.lt
      have HHG := Lib.hid (hgt_le ht)
      obtain ⟨hh, hhd⟩ : ∃ hh, hh = hgt ht := ⟨_, rfl⟩
      have HBT := Lib.hid (between_any ht)
      rw [← hhd] at HBT HHG
      have HHD := Lib.hid hhd
      have hch : Ld.length ≤ ch := HL.out.hc
      clear hcut hbx hent htl hkp hl' hhd
      go_upto_region 7 with fail
      go_cut [] (fun wx => ∃ S', RL wx g S' (insR R d.t (hgt ht)) ∧ Keep S w wx ∧ ∀ k, S' k → S k ∨ w.heap.size ≤ k)
      case first =>
        obtain ⟨A2, hA2, hcut2⟩ := drop_at1 Ah Ld.length ch i hil hch HMH.out
        have hcut1 := upto_at1 Ah Ld.length ch i (Nat.le_trans hil hch) hch HMH.out
        have hlie : Lies wc wc.heap.size Ah (ints ((R.map (·.2)).take i) ++ ints ((R.map (·.2)).drop i)) := by
          unfold ints
          rw [← List.map_append, List.take_append_drop]
          exact HHT.out.lies fun k hk => HLT.out k hk.1
        have hlr : (R.map (·.2)).length = Ld.length := by rw [List.length_map, HLD.out]
        have HD2 := Lib.hid (lies_drop hlie (o := i * 1) (by simp [ints]; rw [← HLD.out]; omega) (fun h0 => hA2 (by rw [List.length_map, List.length_drop, hlr] at h0; omega)))
        have HLIE := Lib.hid hlie
        have HLR := Lib.hid hlr
        clear hlie hA2 hlr
        refine wp_region_last (S := fun w' => Hid (Below wc.heap.size wc w')) 21 (by kernel_rfl) (Lib.hid (Below.refl _ _).drew) (fun hS => ?_)
        refine wpAnyX_take (i := 0) (v := ?_) rfl (by kernel_rfl) (by kernel_rfl) (by kernel_rfl) (by kernel_rfl) (fun _ _ _ h => h) (Or.inl ⟨by rfl, ?_⟩) hS ?_
        rotate_left
        · intro w hw
          go_simp
          try with_reducible rfl
        try simp only [Act.put, List.getElem_toArray, List.getElem_cons_succ, List.getElem_cons_zero, List.setIfInBounds_toArray, List.set_cons_zero, List.set_cons_succ]
        refine wpAnyX_take (i := 1) (v := ?_) rfl (by kernel_rfl) (by kernel_rfl) (by kernel_rfl) (by kernel_rfl) (fun _ _ _ h => h) (Or.inl ⟨by rfl, ?_⟩) hS ?_
        rotate_left
        · intro w hw
          go_simp
          try with_reducible rfl
        try simp only [Act.put, List.getElem_toArray, List.getElem_cons_succ, List.getElem_cons_zero, List.setIfInBounds_toArray, List.set_cons_zero, List.set_cons_succ]
        refine wpAnyX_take (i := 2) (v := ?_) rfl (by kernel_rfl) (by kernel_rfl) (by kernel_rfl) (by kernel_rfl) (fun _ _ _ h => h) (Or.inl ⟨by rfl, ?_⟩) hS ?_
        rotate_left
        · intro w hw
          go_simp
          try with_reducible rfl
        try simp only [Act.put, List.getElem_toArray, List.getElem_cons_succ, List.getElem_cons_zero, List.setIfInBounds_toArray, List.set_cons_zero, List.set_cons_succ]
        refine wpAnyX_take (i := 3) (v := ?_) rfl (by kernel_rfl) (by kernel_rfl) (by kernel_rfl) (by kernel_rfl) (fun _ _ _ h => h) (Or.inl ⟨by rfl, ?_⟩) hS ?_
        rotate_left
        · intro w hw
          go_simp
          try with_reducible rfl
        try simp only [Act.put, List.getElem_toArray, List.getElem_cons_succ, List.getElem_cons_zero, List.setIfInBounds_toArray, List.set_cons_zero, List.set_cons_succ]
        refine wpAnyX_take (i := 4) (v := ?_) rfl (by kernel_rfl) (by kernel_rfl) (by kernel_rfl) (by kernel_rfl) (fun _ _ _ h => h) (Or.inl ⟨by rfl, ?_⟩) hS ?_
        rotate_left
        · intro w hw
          have hbx := HBX.out.below hw.out HG.out
          have b0 := hbx.cell 1
          simp only [List.getElem?_cons_succ, List.getElem?_cons_zero] at b0
          clear hbx
          go_simp
          try with_reducible rfl
        try simp only [Act.put, List.getElem_toArray, List.getElem_cons_succ, List.getElem_cons_zero, List.setIfInBounds_toArray, List.set_cons_zero, List.set_cons_succ]
        refine wpAnyX_take (i := 5) (v := ?_) rfl (by kernel_rfl) (by kernel_rfl) (by kernel_rfl) (by kernel_rfl) (fun _ _ _ h => h) (Or.inl ⟨by rfl, ?_⟩) hS ?_
        rotate_left
        · intro w hw
          go_simp
          try with_reducible rfl
        try simp only [Act.put, List.getElem_toArray, List.getElem_cons_succ, List.getElem_cons_zero, List.setIfInBounds_toArray, List.set_cons_zero, List.set_cons_succ]
        refine wpAnyX_take (i := 6) (v := ?_) rfl (by kernel_rfl) (by kernel_rfl) (by kernel_rfl) (by kernel_rfl) (fun _ _ _ h => h) (Or.inl ⟨by rfl, ?_⟩) hS ?_
        rotate_left
        · intro w hw
          go_simp
          try with_reducible rfl
        try simp only [Act.put, List.getElem_toArray, List.getElem_cons_succ, List.getElem_cons_zero, List.setIfInBounds_toArray, List.set_cons_zero, List.set_cons_succ]
        refine wpAnyX_take (i := 8) (v := ?_) rfl (by kernel_rfl) (by kernel_rfl) (by kernel_rfl) (by kernel_rfl) (fun _ _ _ h => h) (Or.inl ⟨by rfl, ?_⟩) hS ?_
        rotate_left
        · intro w hw
          go_simp
          try with_reducible rfl
        try simp only [Act.put, List.getElem_toArray, List.getElem_cons_succ, List.getElem_cons_zero, List.setIfInBounds_toArray, List.set_cons_zero, List.set_cons_succ]
        refine wpAnyX_take (i := 12) (v := ?_) rfl (by kernel_rfl) (by kernel_rfl) (by kernel_rfl) (by kernel_rfl) (fun _ _ _ h => h) (Or.inl ⟨by rfl, ?_⟩) hS ?_
        rotate_left
        · intro w hw
          go_simp
          try with_reducible rfl
        try simp only [Act.put, List.getElem_toArray, List.getElem_cons_succ, List.getElem_cons_zero, List.setIfInBounds_toArray, List.set_cons_zero, List.set_cons_succ]
        refine wpAnyX_take (i := 13) (v := ?_) rfl (by kernel_rfl) (by kernel_rfl) (by kernel_rfl) (by kernel_rfl) (fun _ _ _ h => h) (Or.inl ⟨by rfl, ?_⟩) hS ?_
        rotate_left
        · intro w hw
          go_simp
          try with_reducible rfl
        try simp only [Act.put, List.getElem_toArray, List.getElem_cons_succ, List.getElem_cons_zero, List.setIfInBounds_toArray, List.set_cons_zero, List.set_cons_succ]
        refine wpAnyX_take (i := 14) (v := ?_) rfl (by kernel_rfl) (by kernel_rfl) (by kernel_rfl) (by kernel_rfl) (fun _ _ _ h => h) (Or.inl ⟨by rfl, ?_⟩) hS ?_
        rotate_left
        · intro w hw
          go_simp
          try with_reducible rfl
        try simp only [Act.put, List.getElem_toArray, List.getElem_cons_succ, List.getElem_cons_zero, List.setIfInBounds_toArray, List.set_cons_zero, List.set_cons_succ]
        refine wpAnyX_take (i := 15) (v := ?_) rfl (by kernel_rfl) (by kernel_rfl) (by kernel_rfl) (by kernel_rfl) (fun _ _ _ h => h) (Or.inl ⟨by rfl, ?_⟩) hS ?_
        rotate_left
        · intro w hw
          have hbx := HBX.out.below hw.out HG.out
          have b0 := hbx.cell 1
          simp only [List.getElem?_cons_succ, List.getElem?_cons_zero] at b0
          clear hbx
          go_simp
          try with_reducible rfl
        try simp only [Act.put, List.getElem_toArray, List.getElem_cons_succ, List.getElem_cons_zero, List.setIfInBounds_toArray, List.set_cons_zero, List.set_cons_succ]
        refine wpAnyX_take (i := 16) (v := ?_) rfl (by kernel_rfl) (by kernel_rfl) (by kernel_rfl) (by kernel_rfl) (fun _ _ _ h => h) (Or.inl ⟨by rfl, ?_⟩) hS ?_
        rotate_left
        · intro w hw
          go_simp
          try with_reducible rfl
        try simp only [Act.put, List.getElem_toArray, List.getElem_cons_succ, List.getElem_cons_zero, List.setIfInBounds_toArray, List.set_cons_zero, List.set_cons_succ]
        refine wpAnyX_take (i := 17) (v := ?_) rfl (by kernel_rfl) (by kernel_rfl) (by kernel_rfl) (by kernel_rfl) (fun _ _ _ h => h) (Or.inl ⟨by rfl, ?_⟩) hS ?_
        rotate_left
        · intro w hw
          go_simp
          try with_reducible rfl
        try simp only [Act.put, List.getElem_toArray, List.getElem_cons_succ, List.getElem_cons_zero, List.setIfInBounds_toArray, List.set_cons_zero, List.set_cons_succ]
        have HB7 : Hid (Below wc.heap.size wc wc.drew) := Lib.hid (Below.refl _ _).drew
        clear hcut1 hcut2
        generalize wc.drew = W7 at hS HB7 ⊢
        refine wpAnyX_ready (rs := [7]) (by kernel_rfl) (by simp) ?_
        refine (AllReadyX.cons rfl (fun K hK => ?_) AllReadyX.nil)
        obtain ⟨A1, c1, WA1, hr1, ho1, hb1⟩ := ins_head (P := Try.prog) (V := W7) (B := wc.heap.size) (c := ch) 23 23 3 (.int .i64 0) 1 8 Try.underlying23 (by kernel_rfl) rfl (by decide)
          (HLIE.out.below HB7.out) (List.prefix_append _ _) (i := i) (by simp [ints]; rw [← HLD.out]; omega) (fun u hu => by
            rcases List.mem_append.1 hu with hu | hu <;> (obtain ⟨_, _, rfl⟩ := List.mem_map.1 hu; rfl)) (by decide) (show i ≤ 1000 by omega)
        refine held_append rfl _ _ 23 rfl rfl rfl hr1 ?_
        have HWA1 : Hid (Below wc.heap.size wc WA1) := Lib.hid (HB7.out.trans (hb1.mono HB7.out.size))
        have HOA1 : Hid (WA1.ownsRow wc.heap.size 3 1 (.slice A1 i c1) i (ints ((R.map (·.2)).take i))) := Lib.hid (own_lower ho1 HB7.out.size)
        refine hK.out _ _ HWA1 (fun hS => ?_)
        clear hK K hr1 ho1 hb1
        try simp only [Act.put, List.getElem_toArray, List.getElem_cons_succ, List.getElem_cons_zero, List.setIfInBounds_toArray, List.set_cons_zero, List.set_cons_succ]
        refine wpAnyX_ready (rs := [9]) (by kernel_rfl) (by simp) ?_
        refine (AllReadyX.cons rfl (fun K hK => ?_) AllReadyX.nil)
        go_simp
        refine (HBT.out _).mono ?_
        rintro e w' ⟨rfl, rfl⟩
        refine hK.out _ _ HWA1 (fun hS => ?_)
        clear hK K
        try simp only [Act.put, List.getElem_toArray, List.getElem_cons_succ, List.getElem_cons_zero, List.setIfInBounds_toArray, List.set_cons_zero, List.set_cons_succ]
        refine wpAnyX_ready (rs := [10]) (by kernel_rfl) (by simp) ?_
        refine (AllReadyX.cons rfl (fun K hK => ?_) AllReadyX.nil)
        go_simp
        have HAL : Hid (Below WA1.heap.size WA1 (WA1.alloc (.cells #[.int .i64 (hh : Int)] 3))) := Lib.hid (Joins.below_alloc1 WA1 _)
        have HBA : Hid (Below wc.heap.size wc (WA1.alloc (.cells #[.int .i64 (hh : Int)] 3))) := Lib.hid (HWA1.out.trans (HAL.out.mono HWA1.out.size))
        have HQ : Hid (∀ j u, (ints [hh])[j]? = some u → (WA1.alloc (.cells #[.int .i64 (hh : Int)] 3)).cell? ((⟨WA1.heap.size, 0, none⟩ : Addr).add j) = some u) := Lib.hid (by
          rcases lies_block (cs := #[.int .i64 (hh : Int)]) (heap_alloc_new WA1 (.cells #[.int .i64 (hh : Int)] 3)) (Nat.lt_succ_self _) with h | ⟨ad, e, _, h⟩
          · simp at h
          · injection e with e
            subst e
            exact h)
        refine hK.out _ _ HBA (fun hS => ?_)
        clear hK K
        try simp only [Act.put, List.getElem_toArray, List.getElem_cons_succ, List.getElem_cons_zero, List.setIfInBounds_toArray, List.set_cons_zero, List.set_cons_succ]
        obtain ⟨A3, c3, V3, A4, c4, V4, hr3, hr4, ho4, hb3, hb4, -⟩ := ins_tail (P := Try.prog) (V := WA1.alloc (.cells #[.int .i64 (hh : Int)] 3)) (B := wc.heap.size) (q := WA1.heap.size) (i := i) (m := Ld.length - i) (c2 := ch - i) 23 23 3 (.int .i64 0) 1 8 Try.underlying23 (by kernel_rfl) rfl (by decide)
          (own_later HOA1.out HAL.out) HBA.out.size HQ.out rfl (fun u hu => by simp [ints] at hu; rw [hu]; rfl) (HD2.out.below HBA.out) (by rw [List.length_map, List.length_drop, HLR.out]; omega) (fun u hu => by obtain ⟨_, _, rfl⟩ := List.mem_map.1 hu; rfl) (by decide) (by omega)
        have hbV3 : Below wc.heap.size wc V3 := HBA.out.trans hb3
        have hbV4 : Below wc.heap.size wc V4 := HBA.out.trans hb4
        have hfin := full_mk (h := hh) HL.out HH.out hbV4 (by unfold ints at ho4 ⊢; rw [List.map_append, List.map_append]; exact ho4) HI.out (by have := HLD.out; omega) (by have := HLD.out; omega) HOK.out HHG.out.2.1
        rw [HHD.out] at hfin
        have hbx4 := HBX.out.below hbV4 HG.out
        have p0 := hbx4.cell 1
        have z0 := hbx4.free 1
        simp only [List.getElem?_cons_succ, List.getElem?_cons_zero] at p0
        have HFIN := Lib.hid hfin
        have HP0 := Lib.hid p0
        have HZ0 := Lib.hid z0
        have HR3 := Lib.hid hr3
        have HR4 := Lib.hid hr4
        have HV3 := Lib.hid hbV3
        have HV4 := Lib.hid hbV4
        clear hr3 hr4 ho4 hb3 hb4 hbV3 hbV4 hfin hbx4 p0 z0
        obtain ⟨mm, hmm⟩ : ∃ mm, mm = i + 1 + (Ld.length - i) := ⟨_, rfl⟩
        rw [← hmm] at HR4 HFIN
        clear hmm
        refine wpAnyX_ready (rs := [11]) (by kernel_rfl) (by simp) ?_
        refine (AllReadyX.cons rfl (fun K hK => ?_) AllReadyX.nil)
        refine held_append rfl _ _ 23 rfl rfl rfl HR3.out ?_
        refine hK.out _ _ HV3 (fun hS => ?_)
        clear hK K
        try simp only [Act.put, List.getElem_toArray, List.getElem_cons_succ, List.getElem_cons_zero, List.setIfInBounds_toArray, List.set_cons_zero, List.set_cons_succ]
        refine wpAnyX_ready (rs := [18]) (by kernel_rfl) (by simp) ?_
        refine (AllReadyX.cons rfl (fun K hK => ?_) AllReadyX.nil)
        refine held_append rfl _ _ 23 rfl rfl rfl HR4.out ?_
        refine hK.out _ _ HV4 (fun hS => ?_)
        clear hK K
        try simp only [Act.put, List.getElem_toArray, List.getElem_cons_succ, List.getElem_cons_zero, List.setIfInBounds_toArray, List.set_cons_zero, List.set_cons_succ]
        refine wpAnyX_ready (rs := [19]) (by kernel_rfl) (by simp) ?_
        refine (AllReadyX.cons rfl (fun K hK => ?_) AllReadyX.nil)
        go_simp
        refine hK.out _ _ HV4 (fun hS => ?_)
        clear hK K
        try simp only [Act.put, List.getElem_toArray, List.getElem_cons_succ, List.getElem_cons_zero, List.setIfInBounds_toArray, List.set_cons_zero, List.set_cons_succ]
        refine wpAnyX_take (i := 20) (v := ?_) rfl (by kernel_rfl) (by kernel_rfl) (by kernel_rfl) (by kernel_rfl) (fun _ _ _ h => h) (Or.inl ⟨by rfl, ?_⟩) hS ?_
        rotate_left
        · intro w hw
          go_simp
          try with_reducible rfl
        try simp only [Act.put, List.getElem_toArray, List.getElem_cons_succ, List.getElem_cons_zero, List.setIfInBounds_toArray, List.set_cons_zero, List.set_cons_succ]
        refine wpAnyX_ready (rs := [21]) (by kernel_rfl) (by simp) ?_
        refine AllReadyX.last rfl (fun K hK => ?_)
        have p0 := HP0.out
        have z0 := HZ0.out
        go_simp
        refine hK.out _ _ ?_
        clear hK K p0 z0
        try simp only [Act.put, List.getElem_toArray, List.getElem_cons_succ, List.getElem_cons_zero, List.setIfInBounds_toArray, List.set_cons_zero, List.set_cons_succ]
        refine wpAnyX_done (by kernel_rfl) ?_ _
        go_wp2_with fail
        go_meet
        exact HFIN.out
      case rest =>
      obtain ⟨S', h1, h2, h3⟩ := hcut
      have HF := Lib.hid h1
      have HF2 := Lib.hid h2
      have HF3 := Lib.hid h3
      clear h1 h2 h3
      go_wp2_with fail
      go_ret
      exact ⟨S', by rw [E.out]; rfl, by rw [E2.out]; exact HF.out, HF2.out, HF3.out⟩
end
end Go.Proofs.Ytmnhklfljfglhaa.Sk
