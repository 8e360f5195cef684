/- What Crash of package disk answers. -/
import Derived.Test.YtnbknihaefkllaaDcrash
namespace Go.Proofs.Ytnbknihaefkllaa.Dk
set_option linter.unusedVariables false
set_option linter.unusedSimpArgs false
open Go.RowKit Go.Maps Lift Ik

def crm (k : Nat) (f : FM) : FM := ⟨f.nm, f.bs.take (f.syn + k), (f.bs.take (f.syn + k)).length⟩
def crashM (m : MS) (keep : Int) : MS := { m with fs := m.fs.map (crm keep.toNat) }
theorem used_crash (k : Nat) (l : List FM) : used (l.map (crm k)) ≤ used l := by
  induction l with
  | nil => simp [used]
  | cons a l ih =>
    have e : ∀ (b : FM) (r : List FM), used (b :: r) = b.bs.length + used r := fun b r => by simp [used]
    rw [List.map_cons, e, e]
    have : (crm k a).bs.length ≤ a.bs.length := by simp only [crm, List.length_take]; omega
    omega
/-- A pointer to a file, or nil. -/
def mkV : Option Nat → Value
  | some b => .pointer (some ⟨b, 0, none⟩)
  | none => .pointer none
theorem mkV_inv (v : Value) (y : DataW Unit × List MemPlace) (h : ptrR v = some y) : ∃ o, v = mkV o := by
  unfold ptrR at h
  split at h
  · exact ⟨none, rfl⟩
  · exact ⟨some _, rfl⟩
  · cases h
theorem key_inv (key : Value) (l : Lit) (h : keyOf Try.prog 9 key = some l) : ∃ s : ByteArray, key = .string s := by
  obtain ⟨s, hs, _⟩ := WideMaps.string_of_keyOf Try.underlying9 h
  exact ⟨s, hs⟩
theorem key_is {s : ByteArray} {l : Lit} (h : keyOf Try.prog 9 (.string s) = some l) : l = kl s := by
  obtain ⟨s', hs, hl, _⟩ := WideMaps.string_of_keyOf Try.underlying9 h
  cases hs
  exact hl
/-- The file that the range's step comes to. -/
theorem step_file {fs : List Fi} {x : ByteArray} {o : Option Nat} {y : DataW Unit × List MemPlace} (hv : ptrR (mkV o) = some y) (hat : ∀ zd, (DataW.map (fs.map ent)).atKey (kl x) zd = y.1) : ∃ f, look fs x = some f ∧ o = some f.blk := by
  have h1 := hat .nil
  have h2 := hat (dat 0)
  rw [at_ent] at h1
  cases hl : look fs x with
  | none =>
    have h3 : (DataW.map (fs.map ent)).atKey (kl x) (dat 0) = dat 0 := by
      unfold DataW.atKey
      simp only
      rw [List.find?_eq_none.2]
      intro p hp
      obtain ⟨f, hf, rfl⟩ := List.mem_map.1 hp
      show ¬ ((kl f.nm).sameKey (kl x)) = true
      rw [kl_same, decide_eq_false (look_none.1 hl f hf)]
      simp
    rw [hl] at h1
    rw [h3, ← h1] at h2
    cases h2
  | some f =>
    rw [hl] at h1
    refine ⟨f, rfl, ?_⟩
    obtain ⟨y1, y2⟩ := y
    simp only at h1
    subst h1
    have h4 := ptrR_some hv
    cases o with
    | none => simp [mkV] at h4
    | some b => simp [mkV] at h4; rw [h4]
theorem ranges_keep {w w' : World} {T : Nat → Prop} {b r n : Nat} {D : DataW Unit} {left : Lit → Bool} {cnt : Nat} (h : w.ranges Try.prog 9 ptrR b r n D left cnt) (hk : Keep T w w') (hb : ¬ T b) (hr : ¬ T r) :
    w'.ranges Try.prog 9 ptrR b r n D left cnt := by
  have l1 := h.owns.lt
  have l2 := h.lt
  obtain ⟨es, clock, since, seen, c0, h1, F, h3, h4, h5, rest⟩ := h
  exact ⟨es, clock, since, seen, c0, (hk.block b l1 hb).trans h1, F, h3, h4, (hk.block r l2 hr).trans h5, rest⟩
theorem iter_apart {w : World} {S : Nat → Prop} {M : Option Nat} {fs : List Fi} {f : Fi} {us : List Value} {g b r n : Nat} {D : DataW Unit} {left : Lit → Bool} {cnt : Nat} (h : Files w S M fs) (hb : Box w g Ty.disk us) (hf : f ∈ fs)
    (hr : w.ranges Try.prog 9 ptrR b r n D left cnt) : ¬ Of g f r := by
  obtain ⟨es, clock, since, seen, c0, _, _, _, _, h5, _⟩ := hr
  have o2 := h.ok f hf
  rintro (e | e | e)
  · subst e
    unfold Box at hb
    rw [h5] at hb
    cases hb
  · subst e
    have := o2.box
    unfold Box at this
    rw [h5] at this
    cases this
  · obtain ⟨_, cs, fr, h1⟩ := o2.bytes e
    rw [h5] at h1
    cases h1
/-- One file more has lost its bytes. -/
theorem crash_step {fs fs' : List Fi} {left : Lit → Bool} {k : Nat} {f : Fi} (hp : fs.Pairwise sep) (ht : fs'.map Fi.m = fs.map fun x => if left (kl x.nm) then x.m else crm k x.m) (hf : f ∈ fs') (hl : left (kl f.nm) = true) :
    put1 (fs'.map Fi.m) (crm k f.m) = fs.map fun x => if left (kl x.nm) && !(kl x.nm).sameKey (kl f.nm) then x.m else crm k x.m := by
  have hm : f.m ∈ fs.map fun x => if left (kl x.nm) then x.m else crm k x.m := by rw [← ht]; exact List.mem_map.2 ⟨f, hf, rfl⟩
  obtain ⟨x0, hx0, e0⟩ := List.mem_map.1 hm
  have hn0 : x0.nm = f.nm := by
    have : (if left (kl x0.nm) then x0.m else crm k x0.m).nm = x0.nm := by split <;> rfl
    rw [← this, e0]
    rfl
  rw [hn0, if_pos hl] at e0
  rw [ht]
  unfold put1
  rw [List.map_map]
  refine List.map_congr_left fun x hx => ?_
  show (if (if left (kl x.nm) then x.m else crm k x.m).nm = f.nm then crm k f.m else (if left (kl x.nm) then x.m else crm k x.m)) = _
  have hnx : (if left (kl x.nm) then x.m else crm k x.m).nm = x.nm := by split <;> rfl
  rw [hnx, kl_same]
  by_cases e : x.nm = f.nm
  · have : x = x0 := nm_inj hp hx hx0 (e.trans hn0.symm)
    subst this
    rw [if_pos e, decide_eq_true e, ← e0]
    simp
  · rw [if_neg e, decide_eq_false e]
    simp
theorem Fi.ok.mono {w : World} {S S' : Nat → Prop} {f : Fi} (h : f.ok w S) (hS : ∀ k, S k → S' k) : f.ok w S' := ⟨h.box, h.own, hS _ h.sb, fun k hk => hS _ (h.sv k hk), h.syn, h.len, h.byte, h.nm⟩

/-- A call without results; the disk is then m. -/
def Done (w : World) (g : Nat) (S : Nat → Prop) (m : MS) (e : Ending) (w' : World) : Prop :=
  ∃ S', e = .returned (.tuple #[]) ∧ At w' g S' m ∧ Keep S w w' ∧ ∀ k, S' k → S k ∨ w.heap.size ≤ k
section
variable {w w' : World} {g : Nat} {S S' T : Nat → Prop} {m : MS} {fs : List Fi} {M : Option Nat} {A : Option Addr} {c : Nat}
set_option maxRecDepth 100000 in
theorem crash_none (keep : Int) (h : Lay w g S m fs none A c) : Calls Try.prog (11) #[.pointer (some ⟨g, 0, none⟩), .int .i64 keep] w (Done w g S (crashM m keep)) := by
  obtain ⟨c0, c1, c2, c3, c4, f1, f2, f3, f4⟩ := h.facts
  have H := Lib.hid h
  have hfs : fs = [] := by
    rcases h.files.map with ⟨_, h0⟩ | ⟨b, h0, _⟩
    · exact h0
    · cases h0
  subst hfs
  have ht : Hid (m.fs = []) := Lib.hid (by rw [h.told]; rfl)
  have hrg := run_range_nilMap (P := Try.prog) w 42 9 49 Try.underlying42
  have hnx : ∀ ty, (Instr.next (.pointer (some ⟨w.heap.size, 0, none⟩)) false ty).run Try.prog (w.alloc (.mapIter none 0 #[] 0)) = _ := fun ty => run_next_nilMap w ty 0 0 #[]
  clear h
  go_enter Try.func11, Try.ntmps11
  go_wp2
  refine wp_loop_rounds 1 ?_
  rw [rounds_succ]
  go_wp2
  go_end0
  have hb := Joins.below_alloc1 w (.mapIter none 0 #[] 0)
  refine ⟨S, rfl, ?_, below_keep hb, fun k hk => .inl hk⟩
  have e : crashM m keep = m := by
    unfold crashM
    rw [ht.out, List.map_nil, ← ht.out]
  rw [e]
  exact H.out.toAt.below hb
/-- The disk's blocks in the loop: not the iterator's. -/
def Sx (S : Nat → Prop) (w wr : World) (k : Nat) : Prop := Gr S w wr k ∧ k ≠ w.heap.size
set_option maxRecDepth 100000 in
set_option maxHeartbeats 1600000 in
theorem crash_some (keep : Int) (b : Nat) (hwf : (Lit.int .i64 keep).wf = true) (h : Lay w g S m fs (some b) A c) : Calls Try.prog (11) #[.pointer (some ⟨g, 0, none⟩), .int .i64 keep] w (Done w g S (crashM m keep)) := by
  obtain ⟨c0, c1, c2, c3, c4, f1, f2, f3, f4⟩ := h.facts
  have hkp := i64_of hwf
  obtain ⟨k, hk⟩ : ∃ k, k = keep.toNat := ⟨_, rfl⟩
  have hmx : max keep 0 = (k : Int) := by omega
  have hk63 : k ≤ 9223372036854775807 := by omega
  have HKP := Lib.hid hk
  have H := Lib.hid h
  obtain ⟨hsb, hown⟩ : S b ∧ w.ownsMap Try.prog 9 ptrR b fs.length (.map (fs.map ent)) := by
    rcases h.files.map with ⟨h0, _⟩ | ⟨b', hb', h1⟩
    · cases h0
    · cases hb'; exact h1
  have HSB := Lib.hid hsb
  have HGB : Hid (¬ g = b) := Lib.hid fun e => by
    obtain ⟨es, clock, hh, _⟩ := hown
    have h1 := h.box
    unfold Box at h1
    rw [e, hh] at h1
    cases h1
  clear h hk hsb hkp
  go_enter Try.func11, Try.ntmps11
  go_wp2_with (first
    | (at_range; refine wpList_range_own _ rfl _ 42 rfl 9 49 law Try.underlying42 _ b fs.length _ rfl hown ?_; intro w0 hrg0 hg0 hs0)
    | go_in)
  go_frame
  go_loopw [5] (fun _ wr => ∃ left cnt fs' A' c', wr.ranges Try.prog 9 ptrR b w.heap.size fs.length (.map (fs.map ent)) left cnt ∧ Hid (Lay wr g (Sx S w wr) { m with fs := fs'.map Fi.m } fs' (some b) A' c') ∧ Hid (fs'.map ent = fs.map ent) ∧
      Hid (fs'.map Fi.m = fs.map fun x => if left (kl x.nm) then x.m else crm k x.m) ∧ Hid (Keep S w wr))
    (fun _ wr => wr.rangeLeft b w.heap.size)
  case atStart =>
    have hk0 : Keep (fun _ => False) w w0 := (Keep.refl _ w).grown hg0 fun k hk _ => by cases hk
    have hL0 := H.out.keep hk0 fun _ _ => id
    refine ⟨_, _, fs, A, c, hrg0, Lib.hid ?_, Lib.hid rfl, Lib.hid ?_, Lib.hid (hk0.mono fun _ h => h.elim)⟩
    · have e : ({ m with fs := fs.map Fi.m } : MS) = m := by rw [← H.out.told]
      rw [e]
      exact ⟨hL0.box, ⟨.inl hL0.sg, Nat.ne_of_lt (H.out.lt g H.out.sg)⟩, hL0.files.keep (Keep.refl (fun _ => False) _) (fun _ h => h.elim) (fun k hk => ⟨.inl hk, Nat.ne_of_lt (H.out.lt k hk)⟩), hL0.told,
        hL0.armed.keep (Keep.refl (fun _ => False) _) (fun _ h => h.elim) (fun k hk => ⟨.inl hk, Nat.ne_of_lt (H.out.lt k hk)⟩), hL0.cap, hL0.capm, hL0.wf, fun k hk => hk.1.elim (hL0.lt k) fun h => h.2, hL0.room, hL0.fits, hL0.many⟩
    · refine List.map_congr_left fun x hx => ?_
      have : has (DataW.map (fs.map ent)) (kl x.nm) = true := by
        rw [has_eq, List.any_eq_true]
        exact ⟨ent x, List.mem_map.2 ⟨x, hx, rfl⟩, by show (kl x.nm).sameKey (kl x.nm) = true; rw [kl_same]; simp⟩
      rw [if_pos this]
  case round =>
    obtain ⟨left, cnt, fs', A', c', hrg, hL, hE, hT, hK⟩ := hrel
    clear hown c0 c1 c2 c3 c4 f1 f2 f3 f4
    go_wp2_with (first
      | (at_next; refine wpList_next_ranges _ rfl _ rfl 9 law ptrR Value.string mkV key_inv mkV_inv b w.heap.size fs.length _ _ _ rfl hrg ?_ ?_)
      | go_in)
    · -- nothing is left
      intro hc0 hl0
      go_wp2
      go_end0
      refine ⟨Sx S w wr, rfl, ?_, hK.out, fun k hk => hk.1.imp id fun h => h.1⟩
      have e : crashM m keep = { m with fs := fs'.map Fi.m } := by
        unfold crashM
        rw [hT.out, ← HKP.out, H.out.told, List.map_map]
        congr 1
        refine List.map_congr_left fun x _ => ?_
        rw [hl0]
        rfl
      rw [e]
      exact hL.out.toAt
    · -- a file has come
      intro x o kl1 yd yp w1 cnt1 hkey hlk hv hat hrg1 hlt hg1 hs1 hen
      obtain rfl := key_is hkey
      rw [← hE.out] at hat
      obtain ⟨f, hlf, rfl⟩ := step_file (y := (yd, yp)) hv hat
      obtain ⟨hfm, hfn⟩ := look_mem hlf
      have hk1 : Keep (· = w.heap.size) wr w1 := (Keep.refl _ wr).grown hg1 fun k hk _ => by cases hk; rfl
      have hL1 := hL.out.keep hk1 fun k hk e => hk.2 e
      have HK1 := Lib.hid hk1
      have HL1 := Lib.hid hL1
      have HM := Lib.hid hfm
      have HX := Lib.hid hfn
      have hU := hL1.used_le
      have HFC := Lib.hid fun W hW => fcrash_any (w := W) (S := Sx S w wr) f k hk63 hW
      have HS1 : Hid (w.heap.size < w1.heap.size) := Lib.hid (by have := hrg.lt; omega)
      have HLK := Lib.hid hlk
      have hen' : Sem.run Try.prog (Instr.entry (.pointer (some ⟨w.heap.size, 0, none⟩))) w1 = .ok (.tuple #[.string x, .pointer (some ⟨f.blk, 0, none⟩)]) w1 := hen
      clear hen hkey hv hat hlf hL1 hg1 hfm hfn hs1 hlk
      simp only [mkV]
      obtain ⟨U, hUe⟩ : ∃ U, U = used (fs'.map Fi.m) := ⟨_, rfl⟩
      obtain ⟨l, hle⟩ : ∃ l, l = f.bs.length - (f.syn + k) := ⟨_, rfl⟩
      have hlU : l ≤ U := by
        have := used_mem (l := fs'.map Fi.m) (f := f.m) (List.mem_map.2 ⟨f, HM.out, rfl⟩)
        have e : f.m.bs = f.bs := rfl
        rw [e] at this
        omega
      have hU2 : U ≤ 16777216000 := by rw [hUe]; exact hU
      have hsub : (U : Int) - (l : Int) = ((U - l : Nat) : Int) := by omega
      have hsw : IntKind.i64.wrap ((U - l : Nat) : Int) = ((U - l : Nat) : Int) := by rw [IntKind.wrap_i64]; omega
      have HUE := Lib.hid hUe
      have HLE := Lib.hid hle
      have hgf : Hid (¬ g = f.blk) := Lib.hid fun e => by
        have h1 := (HL1.out.files.ok f HM.out).box
        rw [← e] at h1
        exact typed HL1.out.box h1 (by decide)
      have BX : Hid (Box w1 g Ty.disk [.int .i64 (m.room : Int), .int .i64 (U : Int), .map (some b), .slice A' m.armed.length c', .int .i64 (m.failed : Int)]) := Lib.hid (by rw [HUE.out]; exact HL1.out.box)
      have HFD := Lib.hid (HFC.out w1.drew ((HL1.out.files.ok f HM.out).keep0 (Keep.refl (fun _ => False) w1).drew (fun h => h) (fun _ _ h => h) fun _ => id))
      rw [← HLE.out] at HFD
      clear hU hle hUe HFC
      go_wp2_with fail
      refine wp_region_held_drew (S := fun w' => Hid (Keep (fun j => j = f.blk ∨ j = g) w1 w')) (by kernel_rfl) (Lib.hid (Keep.refl _ _).drew) (fun hS => ?_)
      refine wpAnyH_take (i := 0) (v := ?_) rfl (by kernel_rfl) (by kernel_rfl) (by kernel_rfl) (fun _ _ _ h => h) (Or.inl ⟨by rfl, ?_⟩) hS ?_
      rotate_left
      · intro w hw
        go_simp
        try with_reducible rfl
      try simp only [Act.put, List.getElem_toArray, List.getElem_cons_succ, List.getElem_cons_zero, List.setIfInBounds_toArray, List.set_cons_zero, List.set_cons_succ]
      refine wpAnyH_take (i := 1) (v := ?_) rfl (by kernel_rfl) (by kernel_rfl) (by kernel_rfl) (fun _ _ _ h => h) (Or.inl ⟨by rfl, ?_⟩) hS ?_
      rotate_left
      · intro w hw
        go_simp
        try with_reducible rfl
      try simp only [Act.put, List.getElem_toArray, List.getElem_cons_succ, List.getElem_cons_zero, List.setIfInBounds_toArray, List.set_cons_zero, List.set_cons_succ]
      refine wpAnyH_take (i := 2) (v := ?_) rfl (by kernel_rfl) (by kernel_rfl) (by kernel_rfl) (fun _ _ _ h => h) (Or.inl ⟨by rfl, ?_⟩) hS ?_
      rotate_left
      · intro w hw
        go_simp
        try with_reducible rfl
      try simp only [Act.put, List.getElem_toArray, List.getElem_cons_succ, List.getElem_cons_zero, List.setIfInBounds_toArray, List.set_cons_zero, List.set_cons_succ]
      refine wpAnyH_take (i := 4) (v := ?_) rfl (by kernel_rfl) (by kernel_rfl) (by kernel_rfl) (fun _ _ _ h => h) (Or.inl ⟨by rfl, ?_⟩) hS ?_
      rotate_left
      · intro w hw
        go_simp
        try with_reducible rfl
      try simp only [Act.put, List.getElem_toArray, List.getElem_cons_succ, List.getElem_cons_zero, List.setIfInBounds_toArray, List.set_cons_zero, List.set_cons_succ]
      refine wpAnyH_take (i := 5) (v := ?_) rfl (by kernel_rfl) (by kernel_rfl) (by kernel_rfl) (fun _ _ _ h => h) (Or.inl ⟨by rfl, ?_⟩) hS ?_
      rotate_left
      · intro w hw
        go_simp
        try with_reducible rfl
      try simp only [Act.put, List.getElem_toArray, List.getElem_cons_succ, List.getElem_cons_zero, List.setIfInBounds_toArray, List.set_cons_zero, List.set_cons_succ]
      refine wpAnyH_take (i := 6) (v := ?_) rfl (by kernel_rfl) (by kernel_rfl) (by kernel_rfl) (fun _ _ _ h => h) (Or.inl ⟨by rfl, ?_⟩) hS ?_
      rotate_left
      · intro w hw
        go_simp
        try with_reducible rfl
      try simp only [Act.put, List.getElem_toArray, List.getElem_cons_succ, List.getElem_cons_zero, List.setIfInBounds_toArray, List.set_cons_zero, List.set_cons_succ]
      refine wpAnyH_ready (rs := [3, 7]) (by kernel_rfl) (by simp) ?_
      refine AllReadyH.cons rfl (fun K hK => ?_) (AllReadyH.cons rfl (fun K hK => ?_) AllReadyH.nil)
      · skip
        have q1 : w1.cell? ⟨g, 1, none⟩ = some (.int .i64 (U : Int)) := BX.out.cell 1
        go_simp
        refine hK.out _ _ hS (fun hS => ?_)
        clear hK K q1
        try simp only [Act.put, List.getElem_toArray, List.getElem_cons_succ, List.getElem_cons_zero, List.setIfInBounds_toArray, List.set_cons_zero, List.set_cons_succ]
        refine wpAnyH_ready (rs := [7]) (by kernel_rfl) (by simp) ?_
        refine AllReadyH.cons rfl (fun K hK => ?_) AllReadyH.nil
        go_simp
        refine HFD.out.mono ?_
        rintro e W2 ⟨v', rfl, hok2, hk2, hpl2⟩
        have H2 : Hid (Keep (fun j => j = f.blk ∨ j = g) w1 W2) := Lib.hid (hS.out.trans (T := fun j => j = f.blk) hk2 fun _ _ h => .inl h)
        have HK2 : Hid (Keep (fun j => j = f.blk) w1 W2) := Lib.hid ((Keep.refl (fun j => j = f.blk) w1).drew.trans hk2 fun _ _ h => h)
        have HOK := Lib.hid hok2
        have HPL := Lib.hid hpl2
        clear hok2 hk2 hpl2
        go_wp2_with fail
        refine hK.out _ _ H2 (fun hS => ?_)
        clear hK K
        try simp only [Act.put, List.getElem_toArray, List.getElem_cons_succ, List.getElem_cons_zero, List.setIfInBounds_toArray, List.set_cons_zero, List.set_cons_succ]
        refine wpAnyH_take (i := 8) (v := ?_) rfl (by kernel_rfl) (by kernel_rfl) (by kernel_rfl) (fun _ _ _ h => h) (Or.inl ⟨by rfl, ?_⟩) hS ?_
        rotate_left
        · intro w hw
          go_simp
          try with_reducible rfl
        try simp only [Act.put, List.getElem_toArray, List.getElem_cons_succ, List.getElem_cons_zero, List.setIfInBounds_toArray, List.set_cons_zero, List.set_cons_succ]
        refine wpAnyH_take (i := 9) (v := ?_) rfl (by kernel_rfl) (by kernel_rfl) (by kernel_rfl) (fun _ _ _ h => h) (Or.inl ⟨by rfl, ?_⟩) hS ?_
        rotate_left
        · intro w hw
          go_simp
          try with_reducible rfl
        try simp only [Act.put, List.getElem_toArray, List.getElem_cons_succ, List.getElem_cons_zero, List.setIfInBounds_toArray, List.set_cons_zero, List.set_cons_succ]
        refine wpAnyH_take (i := 10) (v := ?_) rfl (by kernel_rfl) (by kernel_rfl) (by kernel_rfl) (fun _ _ _ h => h) (Or.inl ⟨by rfl, ?_⟩) hS ?_
        rotate_left
        · intro w hw
          go_simp
          try with_reducible rfl
        try simp only [Act.put, List.getElem_toArray, List.getElem_cons_succ, List.getElem_cons_zero, List.setIfInBounds_toArray, List.set_cons_zero, List.set_cons_succ]
        refine wpAnyH_ready (rs := [11]) (by kernel_rfl) (by simp) ?_
        refine AllReadyH.cons rfl (fun K hK => ?_) AllReadyH.nil
        have z1 := (BX.out.keep HK2.out hgf.out).free 1
        have q2 : W2.cell? ⟨g, 1, none⟩ = some (.int .i64 (U : Int)) := (BX.out.keep HK2.out hgf.out).cell 1
        go_simp
        refine hK.out _ _ (Lib.hid (H2.out.setCell (p := ⟨g, 1, none⟩) (.inr (.inr rfl)) _)) (fun hS3 => ?_)
        clear hK K z1 q2
        try simp only [Act.put, List.getElem_toArray, List.getElem_cons_succ, List.getElem_cons_zero, List.setIfInBounds_toArray, List.set_cons_zero, List.set_cons_succ]
        refine wpAnyH_done (by kernel_rfl) ?_ _
        go_wp2_with fail
        have hk4 : Keep (Of g f) w1 (W2.setCell ⟨g, 1, none⟩ (.int .i64 ((U - l : Nat) : Int))) := (HK2.out.mono (T := Of g f) fun j hj => .inr (.inl hj)).setCell (p := ⟨g, 1, none⟩) (.inr (.inl rfl)) _
        have hrg4 := ranges_keep hrg1 hk4 (HL1.out.files.map_apart HL1.out.box HM.out hrg1.owns) (iter_apart HL1.out.files HL1.out.box HM.out hrg1)
        have hsz4 : (W2.setCell ⟨g, 1, none⟩ (.int .i64 ((U - l : Nat) : Int))).heap.size = W2.heap.size := by simp [World.setCell]
        have hu4 : used (put1 (fs'.map Fi.m) (crashed f k v').m) = U - l := by
          have h1 := used_put1 (fs'.map Fi.m) f.m (crashed f k v').m (names_apart HL1.out.files.sep) (List.mem_map.2 ⟨f, HM.out, rfl⟩) rfl
          have e1 : f.m.bs = f.bs := rfl
          have e2 : (crashed f k v').m.bs = f.bs.take (f.syn + k) := rfl
          rw [e1, e2, List.length_take, ← HUE.out] at h1
          have h2 := HLE.out
          omega
        have hws : w.heap.size ≤ w1.heap.size := Nat.le_of_lt HS1.out
        have hL4 := HL1.out.sub (f' := crashed f k v') (S' := Sx S w (W2.setCell ⟨g, 1, none⟩ (.int .i64 ((U - l : Nat) : Int)))) hk4 HM.out rfl rfl
          ((HOK.out.keep0 (T := fun j => j = g) ((Keep.refl (fun j => j = g) W2).setCell (p := ⟨g, 1, none⟩) (.inr rfl) _) (fun e => hgf.out e.symm) (fun j hj e => by
            have h1 := HOK.out.bytes hj
            obtain ⟨_, cs, fr, h1⟩ := h1
            rw [e] at h1
            exact typed (BX.out.keep HK2.out hgf.out) h1 (by decide)) fun _ => id).mono fun j hj => by
              rcases hj with hj | hj
              · refine ⟨hj.1.imp id fun h => ⟨h.1, ?_⟩, hj.2⟩
                have := HL1.out.lt j hj
                have := HK2.out.size
                omega
              · have h1 := hj.1
                have h2 := HS1.out
                have h3 : w1.drew.heap.size = w1.heap.size := rfl
                exact ⟨.inr ⟨by omega, by rw [hsz4]; exact hj.2⟩, by omega⟩)
          (fun j hj => HPL.out j hj) (fun j hj => ⟨hj.1.imp id fun h => ⟨h.1, by have := HL1.out.lt j hj; have := HK2.out.size; omega⟩, hj.2⟩)
          (fun j hj => by
            rw [hsz4]
            rcases hj.1 with h1 | h1
            · have := H.out.lt j h1
              have := HK2.out.size
              omega
            · have := h1.2
              rw [hsz4] at this
              exact this)
          (by
            show Box _ _ _ [_, .int .i64 (used (put1 (fs'.map Fi.m) (crashed f k v').m) : Int), _, _, _]
            rw [hu4]
            exact (BX.out.keep HK2.out hgf.out).set 1 _)
          (by
            show used (put1 (fs'.map Fi.m) (crashed f k v').m) ≤ _
            rw [hu4]
            show U - l ≤ m.room
            have h1 : used (fs'.map Fi.m) ≤ m.room := HL1.out.fits
            have h2 := HUE.out
            omega)
        go_roundw
        case rel =>
          refine ⟨_, cnt1, sub fs' (crashed f k v'), A', c', hrg4, Lib.hid ?_, Lib.hid ?_, Lib.hid ?_, Lib.hid ?_⟩
          · rw [sub_told]
            exact hL4
          · rw [← hE.out]
            unfold sub
            rw [List.map_map]
            refine List.map_congr_left fun z hz => ?_
            show ent (if z.nm = f.nm then crashed f k v' else z) = ent z
            split
            · rename_i e
              have := nm_inj HL1.out.files.sep hz HM.out e
              subst this
              rfl
            · rfl
          · rw [sub_told]
            have := crash_step (k := k) H.out.files.sep hT.out HM.out (by rw [HX.out]; exact HLK.out)
            rw [HX.out] at this
            exact this
          · have h1 : Keep (fun j => j = w.heap.size) wr w1 := HK1.out
            refine (hK.out.trans (T := fun j => j = w.heap.size) h1 fun i hi e => absurd hi (by omega)).trans (T := fun j => Of g f j) hk4 fun i hi hj => ?_
            rcases hj with e | e | e
            · rw [e]; exact H.out.sg
            · have := (HL1.out.files.ok f HM.out).sb
              rw [← e] at this
              exact this.1.elim id fun h => absurd hi (by omega)
            · have := (HL1.out.files.ok f HM.out).sv i e
              exact this.1.elim id fun h => absurd hi (by omega)
        case measure => rw [hrg4.left_eq, hrg.left_eq]; exact hlt
      · skip
        go_simp
        refine HFD.out.mono ?_
        rintro e W2 ⟨v', rfl, hok2, hk2, hpl2⟩
        have H2 : Hid (Keep (fun j => j = f.blk ∨ j = g) w1 W2) := Lib.hid (hS.out.trans (T := fun j => j = f.blk) hk2 fun _ _ h => .inl h)
        have HK2 : Hid (Keep (fun j => j = f.blk) w1 W2) := Lib.hid ((Keep.refl (fun j => j = f.blk) w1).drew.trans hk2 fun _ _ h => h)
        have HOK := Lib.hid hok2
        have HPL := Lib.hid hpl2
        clear hok2 hk2 hpl2
        go_wp2_with fail
        refine hK.out _ _ H2 (fun hS => ?_)
        clear hK K
        try simp only [Act.put, List.getElem_toArray, List.getElem_cons_succ, List.getElem_cons_zero, List.setIfInBounds_toArray, List.set_cons_zero, List.set_cons_succ]
        refine wpAnyH_ready (rs := [3]) (by kernel_rfl) (by simp) ?_
        refine AllReadyH.cons rfl (fun K hK => ?_) AllReadyH.nil
        have q1 : W2.cell? ⟨g, 1, none⟩ = some (.int .i64 (U : Int)) := (BX.out.keep HK2.out hgf.out).cell 1
        go_simp
        refine hK.out _ _ hS (fun hS => ?_)
        clear hK K q1
        try simp only [Act.put, List.getElem_toArray, List.getElem_cons_succ, List.getElem_cons_zero, List.setIfInBounds_toArray, List.set_cons_zero, List.set_cons_succ]
        refine wpAnyH_take (i := 8) (v := ?_) rfl (by kernel_rfl) (by kernel_rfl) (by kernel_rfl) (fun _ _ _ h => h) (Or.inl ⟨by rfl, ?_⟩) hS ?_
        rotate_left
        · intro w hw
          go_simp
          try with_reducible rfl
        try simp only [Act.put, List.getElem_toArray, List.getElem_cons_succ, List.getElem_cons_zero, List.setIfInBounds_toArray, List.set_cons_zero, List.set_cons_succ]
        refine wpAnyH_take (i := 9) (v := ?_) rfl (by kernel_rfl) (by kernel_rfl) (by kernel_rfl) (fun _ _ _ h => h) (Or.inl ⟨by rfl, ?_⟩) hS ?_
        rotate_left
        · intro w hw
          go_simp
          try with_reducible rfl
        try simp only [Act.put, List.getElem_toArray, List.getElem_cons_succ, List.getElem_cons_zero, List.setIfInBounds_toArray, List.set_cons_zero, List.set_cons_succ]
        refine wpAnyH_take (i := 10) (v := ?_) rfl (by kernel_rfl) (by kernel_rfl) (by kernel_rfl) (fun _ _ _ h => h) (Or.inl ⟨by rfl, ?_⟩) hS ?_
        rotate_left
        · intro w hw
          go_simp
          try with_reducible rfl
        try simp only [Act.put, List.getElem_toArray, List.getElem_cons_succ, List.getElem_cons_zero, List.setIfInBounds_toArray, List.set_cons_zero, List.set_cons_succ]
        refine wpAnyH_ready (rs := [11]) (by kernel_rfl) (by simp) ?_
        refine AllReadyH.cons rfl (fun K hK => ?_) AllReadyH.nil
        have z1 := (BX.out.keep HK2.out hgf.out).free 1
        have q2 : W2.cell? ⟨g, 1, none⟩ = some (.int .i64 (U : Int)) := (BX.out.keep HK2.out hgf.out).cell 1
        go_simp
        refine hK.out _ _ (Lib.hid (H2.out.setCell (p := ⟨g, 1, none⟩) (.inr (.inr rfl)) _)) (fun hS3 => ?_)
        clear hK K z1 q2
        try simp only [Act.put, List.getElem_toArray, List.getElem_cons_succ, List.getElem_cons_zero, List.setIfInBounds_toArray, List.set_cons_zero, List.set_cons_succ]
        refine wpAnyH_done (by kernel_rfl) ?_ _
        go_wp2_with fail
        have hk4 : Keep (Of g f) w1 (W2.setCell ⟨g, 1, none⟩ (.int .i64 ((U - l : Nat) : Int))) := (HK2.out.mono (T := Of g f) fun j hj => .inr (.inl hj)).setCell (p := ⟨g, 1, none⟩) (.inr (.inl rfl)) _
        have hrg4 := ranges_keep hrg1 hk4 (HL1.out.files.map_apart HL1.out.box HM.out hrg1.owns) (iter_apart HL1.out.files HL1.out.box HM.out hrg1)
        have hsz4 : (W2.setCell ⟨g, 1, none⟩ (.int .i64 ((U - l : Nat) : Int))).heap.size = W2.heap.size := by simp [World.setCell]
        have hu4 : used (put1 (fs'.map Fi.m) (crashed f k v').m) = U - l := by
          have h1 := used_put1 (fs'.map Fi.m) f.m (crashed f k v').m (names_apart HL1.out.files.sep) (List.mem_map.2 ⟨f, HM.out, rfl⟩) rfl
          have e1 : f.m.bs = f.bs := rfl
          have e2 : (crashed f k v').m.bs = f.bs.take (f.syn + k) := rfl
          rw [e1, e2, List.length_take, ← HUE.out] at h1
          have h2 := HLE.out
          omega
        have hws : w.heap.size ≤ w1.heap.size := Nat.le_of_lt HS1.out
        have hL4 := HL1.out.sub (f' := crashed f k v') (S' := Sx S w (W2.setCell ⟨g, 1, none⟩ (.int .i64 ((U - l : Nat) : Int)))) hk4 HM.out rfl rfl
          ((HOK.out.keep0 (T := fun j => j = g) ((Keep.refl (fun j => j = g) W2).setCell (p := ⟨g, 1, none⟩) (.inr rfl) _) (fun e => hgf.out e.symm) (fun j hj e => by
            have h1 := HOK.out.bytes hj
            obtain ⟨_, cs, fr, h1⟩ := h1
            rw [e] at h1
            exact typed (BX.out.keep HK2.out hgf.out) h1 (by decide)) fun _ => id).mono fun j hj => by
              rcases hj with hj | hj
              · refine ⟨hj.1.imp id fun h => ⟨h.1, ?_⟩, hj.2⟩
                have := HL1.out.lt j hj
                have := HK2.out.size
                omega
              · have h1 := hj.1
                have h2 := HS1.out
                have h3 : w1.drew.heap.size = w1.heap.size := rfl
                exact ⟨.inr ⟨by omega, by rw [hsz4]; exact hj.2⟩, by omega⟩)
          (fun j hj => HPL.out j hj) (fun j hj => ⟨hj.1.imp id fun h => ⟨h.1, by have := HL1.out.lt j hj; have := HK2.out.size; omega⟩, hj.2⟩)
          (fun j hj => by
            rw [hsz4]
            rcases hj.1 with h1 | h1
            · have := H.out.lt j h1
              have := HK2.out.size
              omega
            · have := h1.2
              rw [hsz4] at this
              exact this)
          (by
            show Box _ _ _ [_, .int .i64 (used (put1 (fs'.map Fi.m) (crashed f k v').m) : Int), _, _, _]
            rw [hu4]
            exact (BX.out.keep HK2.out hgf.out).set 1 _)
          (by
            show used (put1 (fs'.map Fi.m) (crashed f k v').m) ≤ _
            rw [hu4]
            show U - l ≤ m.room
            have h1 : used (fs'.map Fi.m) ≤ m.room := HL1.out.fits
            have h2 := HUE.out
            omega)
        go_roundw
        case rel =>
          refine ⟨_, cnt1, sub fs' (crashed f k v'), A', c', hrg4, Lib.hid ?_, Lib.hid ?_, Lib.hid ?_, Lib.hid ?_⟩
          · rw [sub_told]
            exact hL4
          · rw [← hE.out]
            unfold sub
            rw [List.map_map]
            refine List.map_congr_left fun z hz => ?_
            show ent (if z.nm = f.nm then crashed f k v' else z) = ent z
            split
            · rename_i e
              have := nm_inj HL1.out.files.sep hz HM.out e
              subst this
              rfl
            · rfl
          · rw [sub_told]
            have := crash_step (k := k) H.out.files.sep hT.out HM.out (by rw [HX.out]; exact HLK.out)
            rw [HX.out] at this
            exact this
          · have h1 : Keep (fun j => j = w.heap.size) wr w1 := HK1.out
            refine (hK.out.trans (T := fun j => j = w.heap.size) h1 fun i hi e => absurd hi (by omega)).trans (T := fun j => Of g f j) hk4 fun i hi hj => ?_
            rcases hj with e | e | e
            · rw [e]; exact H.out.sg
            · have := (HL1.out.files.ok f HM.out).sb
              rw [← e] at this
              exact this.1.elim id fun h => absurd hi (by omega)
            · have := (HL1.out.files.ok f HM.out).sv i e
              exact this.1.elim id fun h => absurd hi (by omega)
        case measure => rw [hrg4.left_eq, hrg.left_eq]; exact hlt
theorem crash_any (keep : Int) (hwf : (Lit.int .i64 keep).wf = true) (h : At w g S m) : Calls Try.prog (11) #[.pointer (some ⟨g, 0, none⟩), .int .i64 keep] w (Done w g S (crashM m keep)) := by
  obtain ⟨fs, M, A, c, h⟩ := h
  cases M with
  | none => exact crash_none keep h
  | some b => exact crash_some keep b hwf h
end
end Go.Proofs.Ytnbknihaefkllaa.Dk
