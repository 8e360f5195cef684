/- What create of package disk answers. -/
import Derived.Test.YtnbknihaefkllaaDadd
import Derived.Test.YtnbknihaefkllaaShelf
namespace Go.Proofs.Ytnbknihaefkllaa.Dk
set_option linter.unusedVariables false
set_option linter.unusedSimpArgs false
open Go.RowKit Go.Maps Lift Ik

theorem sclone_any (s : ByteArray) (h : s.size ≤ 1000) (w : World) : Calls Try.prog 41 #[.string s] w fun e w' => e = .returned (.string s) ∧ Below w.heap.size w w' := by
  go_enter Try.func41, Try.ntmps41
  go_wp2_with fail
  refine (Try.stringslite_Clone s w (by omega)).mono ?_
  rintro e w' ⟨rfl, hb⟩
  have HB := Lib.hid hb
  clear hb
  go_wp2_with fail
  go_ret
  exact ⟨rfl, HB.out⟩
theorem map_turned {w w' : World} {b : Nat} (h : w.mapTurned w' b) : Keep (· = b) w w' := (Keep.refl _ _).grown h.grown fun k hk _ => by cases hk; rfl
/-- 'd.files[nm] = f', ahead of it and behind it. -/
theorem store_run {w : World} {b n blk : Nat} {fs : List Fi} {nm : ByteArray} (h : w.ownsMap Try.prog 9 ptrR b n (.map (fs.map ent))) (hn : n ≤ 1000) (hl : nm.size ≤ 40) (hno : ∀ x, x ∈ fs → x.nm ≠ nm) (v : Value) (bs : List Nat) (syn : Nat) :
    ∃ w', Sem.run Try.prog (Instr.mapUpdate 42 (.map (some b)) (.string nm) (.pointer (some ⟨blk, 0, none⟩))) w = .ok () w' ∧ w'.ownsMap Try.prog 9 ptrR b (n + 1) (.map ((insF ⟨nm, blk, v, bs, syn⟩ fs).map ent)) ∧ Keep (· = b) w w' := by
  have hkey : keyOf Try.prog 9 (.string nm) = some (kl nm) := WideMaps.keyOf_string_mk Try.underlying9 (by unfold maxLen; omega)
  obtain ⟨w', hrun, ho, ht⟩ := h.store law Try.underlying42 (by unfold maxLen; omega) hkey (show ptrR (.pointer (some ⟨blk, 0, none⟩)) = some (dat blk, []) from rfl)
  rw [put_ent hno] at ho
  rw [insF_ent]
  exact ⟨w', hrun, ho, map_turned ht⟩

/-- A new file stands behind this. -/
def Made1 (w : World) (g : Nat) (S : Nat → Prop) (m : MS) (fs : List Fi) (M : Option Nat) (A : Option Addr) (c : Nat) (nm : ByteArray) (e : Ending) (w' : World) : Prop :=
  ∃ blk b S', e = .returned (.pointer (some ⟨blk, 0, none⟩)) ∧ w.heap.size ≤ blk ∧ Lay w' g S' { m with fs := insM ⟨nm, [], 0⟩ m.fs } (insF ⟨nm, blk, .slice none 0 0, [], 0⟩ fs) (some b) A c ∧ Keep (Hd g M) w w' ∧ (∀ k, S k → S' k) ∧ (∀ k, S' k → S k ∨ w.heap.size ≤ k)

set_option maxRecDepth 100000 in
set_option maxHeartbeats 1000000 in
theorem create_some {w : World} {g : Nat} {S : Nat → Prop} {m : MS} {fs : List Fi} {b : Nat} {A : Option Addr} {c : Nat} (nm : ByteArray) (h : Lay w g S m fs (some b) A c) (hno : ∀ x, x ∈ fs → x.nm ≠ nm) (hl : nm.size ≤ 40) (hn : fs.length + 1 ≤ 1000) :
    Calls Try.prog (15) #[.pointer (some ⟨g, 0, none⟩), .string nm] w (Made1 w g S m fs (some b) A c nm) := by
  obtain ⟨c0, c1, c2, c3, c4, f1, f2, f3, f4⟩ := h.facts
  have H := Lib.hid h
  obtain ⟨b', hb', hsb, hmap⟩ : ∃ b', some b = some b' ∧ S b' ∧ w.ownsMap Try.prog 9 ptrR b' fs.length (.map (fs.map ent)) := by
    rcases h.files.map with ⟨h0, _⟩ | h1
    · cases h0
    · exact h1
  cases hb'
  have HM := Lib.hid hmap
  have HSB := Lib.hid hsb
  clear hmap hsb
  have q : ∀ W : World, Sem.run Try.prog (binOp .eql 42 (.map (some b)) (.map none)) W = .ok (.bool false) W := fun W => run_eql_map_nil W _ _ _ (some b) Try.underlying42
  have HN := Lib.hid hn
  have HNO := Lib.hid hno
  clear h hn hno
  go_enter Try.func15, Try.ntmps15
  go_wp2_with fail
  have HBX : Hid (Box (w.alloc (.cells #[.slice none 0 0, .int .i64 0] 51)) w.heap.size 51 [.slice none 0 0, .int .i64 0]) := Lib.hid (Box.new w _ _)
  have HK2 : Hid (Keep (Hd g (some b)) w (w.alloc (.cells #[.slice none 0 0, .int .i64 0] 51))) := Lib.hid (below_keep (Joins.below_alloc1 w _))
  have HSZ : Hid ((w.alloc (.cells #[.slice none 0 0, .int .i64 0] 51)).heap.size = w.heap.size + 1) := Lib.hid (by simp)
  have HO : Hid ((w.alloc (.cells #[.slice none 0 0, .int .i64 0] 51)).ownsMap Try.prog 9 ptrR b fs.length (.map (fs.map ent))) := Lib.hid (map_keep (T := fun _ => False) HM.out (below_keep (Joins.below_alloc1 w _)) id)
  have BX : Hid (Box (w.alloc (.cells #[.slice none 0 0, .int .i64 0] 51)) g Ty.disk [.int .i64 (m.room : Int), .int .i64 (used m.fs : Int), .map (some b), .slice A m.armed.length c, .int .i64 (m.failed : Int)]) := Lib.hid (H.out.box.below (Joins.below_alloc1 w _) (H.out.lt g H.out.sg))
  generalize (w.alloc (.cells #[.slice none 0 0, .int .i64 0] 51)) = W2 at HBX HK2 HSZ HO BX ⊢
  have HZ : Hid (W2.heap.size - 1 = w.heap.size) := Lib.hid (by have := HSZ.out; omega)
  have HBN : Hid (b < w.heap.size) := Lib.hid HM.out.lt
  have HG : Hid (¬ g = b) := Lib.hid fun e => by
    obtain ⟨es, clock, hh, _⟩ := HO.out
    have h1 := BX.out
    unfold Box at h1
    rw [e, hh] at h1
    cases h1
  clear c0 c1 c2 c3 c4 f1 f2 f3 f4
  refine wp_region_held_drew (S := fun w' => Hid (Keep (fun k => k = b) W2 w')) (by kernel_rfl) (Lib.hid (Keep.refl _ _).drew) (fun hS => ?_)
  refine wpAnyH_take (i := 0) (v := ?_) rfl (by kernel_rfl) (by kernel_rfl) (by kernel_rfl) (fun _ _ _ h => h) (Or.inl ⟨by rfl, ?_⟩) hS ?_
  rotate_left
  · intro w hw
    go_simp
    try with_reducible rfl
  try simp only [Act.put, List.getElem_toArray, List.getElem_cons_succ, List.getElem_cons_zero, List.setIfInBounds_toArray, List.set_cons_zero, List.set_cons_succ]
  refine wpAnyH_take (i := 1) (v := ?_) rfl (by kernel_rfl) (by kernel_rfl) (by kernel_rfl) (fun _ _ _ h => h) (Or.inl ⟨by rfl, ?_⟩) hS ?_
  rotate_left
  · intro w hw
    go_simp
    try with_reducible rfl
  try simp only [Act.put, List.getElem_toArray, List.getElem_cons_succ, List.getElem_cons_zero, List.setIfInBounds_toArray, List.set_cons_zero, List.set_cons_succ]
  refine wpAnyH_take (i := 2) (v := ?_) rfl (by kernel_rfl) (by kernel_rfl) (by kernel_rfl) (fun _ _ _ h => h) (Or.inl ⟨by rfl, ?_⟩) hS ?_
  rotate_left
  · intro w hw
    go_simp
    try with_reducible rfl
  try simp only [Act.put, List.getElem_toArray, List.getElem_cons_succ, List.getElem_cons_zero, List.setIfInBounds_toArray, List.set_cons_zero, List.set_cons_succ]
  refine wpAnyH_take (i := 3) (v := ?_) rfl (by kernel_rfl) (by kernel_rfl) (by kernel_rfl) (fun _ _ _ h => h) (Or.inl ⟨by rfl, ?_⟩) hS ?_
  rotate_left
  · intro w hw
    have c2 : w.cell? ⟨g, 2, none⟩ = some (.map (some b)) := (BX.out.keep hw.out HG.out).cell 2
    go_simp
    try with_reducible rfl
  try simp only [Act.put, List.getElem_toArray, List.getElem_cons_succ, List.getElem_cons_zero, List.setIfInBounds_toArray, List.set_cons_zero, List.set_cons_succ]
  refine wpAnyH_take (i := 4) (v := ?_) rfl (by kernel_rfl) (by kernel_rfl) (by kernel_rfl) (fun _ _ _ h => h) (Or.inl ⟨by rfl, ?_⟩) hS ?_
  rotate_left
  · intro w hw
    go_simp
    try with_reducible rfl
  try simp only [Act.put, List.getElem_toArray, List.getElem_cons_succ, List.getElem_cons_zero, List.setIfInBounds_toArray, List.set_cons_zero, List.set_cons_succ]
  refine wpAnyH_take (i := 6) (v := ?_) rfl (by kernel_rfl) (by kernel_rfl) (by kernel_rfl) (fun _ _ _ h => h) (Or.inl ⟨by rfl, ?_⟩) hS ?_
  rotate_left
  · intro w hw
    go_simp
    try with_reducible rfl
  try simp only [Act.put, List.getElem_toArray, List.getElem_cons_succ, List.getElem_cons_zero, List.setIfInBounds_toArray, List.set_cons_zero, List.set_cons_succ]
  refine wpAnyH_ready (rs := [5]) (by kernel_rfl) (by simp) ?_
  refine AllReadyH.cons rfl (fun K hK => ?_) AllReadyH.nil
  go_simp
  refine (sclone_any nm (by omega) W2.drew).mono ?_
  rintro e W3 ⟨rfl, hb3⟩
  have H3 : Hid (Keep (fun k => k = b) W2 W3) := Lib.hid (hS.out.trans (T := fun _ => False) (below_keep hb3) fun _ _ h => h.elim)
  have HQ3 : Hid (Below W2.heap.size W2 W3) := Lib.hid ((Below.refl _ _).drew.trans hb3)
  obtain ⟨W4, hr4, ho4, hk4⟩ := store_run (blk := W2.heap.size - 1) (map_keep (T := fun _ => False) HO.out (below_keep HQ3.out) id) (by have := HN.out; omega) hl HNO.out (.slice none 0 0) [] 0
  have H4 : Hid (Keep (fun k => k = b) W2 W4) := Lib.hid (H3.out.trans hk4 fun _ _ h => h)
  
  rw [HZ.out] at hr4 ho4
  have HO4 := Lib.hid ho4
  clear hb3 ho4 hk4
  go_wp2_with fail
  refine hK.out _ _ H3 (fun hS3 => ?_)
  clear hK K hS
  try simp only [Act.put, List.getElem_toArray, List.getElem_cons_succ, List.getElem_cons_zero, List.setIfInBounds_toArray, List.set_cons_zero, List.set_cons_succ]
  refine wpAnyH_ready (rs := [7]) (by kernel_rfl) (by simp) ?_
  refine AllReadyH.cons rfl (fun K hK => ?_) AllReadyH.nil
  go_simp
  refine hK.out _ _ H4 (fun hS4 => ?_)
  clear hK K hS3 hr4
  try simp only [Act.put, List.getElem_toArray, List.getElem_cons_succ, List.getElem_cons_zero, List.setIfInBounds_toArray, List.set_cons_zero, List.set_cons_succ]
  refine wpAnyH_done (by kernel_rfl) ?_ _
  go_wp2_with fail
  go_ret

  have hkW : Keep (Hd g (some b)) w W4 := HK2.out.trans H4.out fun i hi e => .inr (by rw [e])
  refine ⟨w.heap.size, b, Gr S w W4, rfl, by omega, ?_, hkW, fun k hk => .inl hk, fun k hk => hk.imp id fun h => h.1⟩
  have hz4 : w.heap.size < W4.heap.size := by
    have h1 := HSZ.out
    have h2 := H4.out.size
    omega
  exact H.out.add (f0 := ⟨nm, w.heap.size, .slice none 0 0, [], 0⟩) hkW ⟨HBX.out.keep H4.out (by have := HBN.out; omega), World.ownsRow_nil _ _ _ _, .inr ⟨by simp only; omega, hz4⟩, fun k hk => by simp [Value.ownBlock] at hk, Nat.le_refl _, by simp, by simp, hl⟩
    (by simp only; omega) rfl HNO.out HO4.out (.inl HSB.out) (fun k hk => .inl hk) (fun k hk => hk.elim (fun h => Nat.lt_of_lt_of_le (H.out.lt k h) hkW.size) fun h => h.2) (BX.out.keep H4.out HG.out) rfl HN.out

set_option maxRecDepth 100000 in
set_option maxHeartbeats 1000000 in
theorem create_none {w : World} {g : Nat} {S : Nat → Prop} {m : MS} {fs : List Fi} {A : Option Addr} {c : Nat} (nm : ByteArray) (h : Lay w g S m fs none A c) (hno : ∀ x, x ∈ fs → x.nm ≠ nm) (hl : nm.size ≤ 40) (hn : fs.length + 1 ≤ 1000) :
    Calls Try.prog (15) #[.pointer (some ⟨g, 0, none⟩), .string nm] w (Made1 w g S m fs none A c nm) := by
  obtain ⟨c0, c1, c2, c3, c4, f1, f2, f3, f4⟩ := h.facts
  have H := Lib.hid h
  obtain rfl : fs = [] := by
    rcases h.files.map with ⟨_, h0⟩ | ⟨b, h0, _⟩
    · exact h0
    · cases h0
  have hmm := @run_makeMap Try.prog
  have hb0 : Box (w.alloc (.map #[] 0)) g Ty.disk _ := h.box.alloc _
  have c2' := hb0.cell 2
  have f2' := hb0.free 2
  simp only [List.getElem?_cons_succ, List.getElem?_cons_zero] at c2'
  have q : ∀ W : World, Sem.run Try.prog (binOp .eql 42 (.map none) (.map none)) W = .ok (.bool true) W := fun W => run_eql_map_nil W _ _ _ none Try.underlying42
  have HN := Lib.hid hn
  have HNO := Lib.hid hno
  clear h hn hno
  go_enter Try.func15, Try.ntmps15
  go_wp2_with fail
  have hgl : g < w.heap.size := H.out.lt g H.out.sg
  have HS1 : ((w.alloc (.map #[] 0)).setCell ⟨g, 2, none⟩ (.map (some w.heap.size))).heap.size = w.heap.size + 1 := by simp [World.setCell]
  have HBX : Hid (Box (((w.alloc (.map #[] 0)).setCell ⟨g, 2, none⟩ (.map (some w.heap.size))).alloc (.cells #[.slice none 0 0, .int .i64 0] 51)) (w.heap.size + 1) 51 [.slice none 0 0, .int .i64 0]) := Lib.hid (by have := Box.new ((w.alloc (.map #[] 0)).setCell ⟨g, 2, none⟩ (.map (some w.heap.size))) 51 [.slice none 0 0, .int .i64 0]; rw [HS1] at this; exact this)
  have HK2 : Hid (Keep (Hd g none) w (((w.alloc (.map #[] 0)).setCell ⟨g, 2, none⟩ (.map (some w.heap.size))).alloc (.cells #[.slice none 0 0, .int .i64 0] 51))) := Lib.hid ((((Keep.refl _ w).alloc _).setCell (p := ⟨g, 2, none⟩) (.inr (.inl rfl)) _).alloc _)
  have HSZ : Hid ((((w.alloc (.map #[] 0)).setCell ⟨g, 2, none⟩ (.map (some w.heap.size))).alloc (.cells #[.slice none 0 0, .int .i64 0] 51)).heap.size = w.heap.size + 1 + 1) := Lib.hid (by simp [World.setCell])
  have hm0 := World.ownsMap_made (H := Unit) w Try.prog 9 ptrR
  have HO : Hid ((((w.alloc (.map #[] 0)).setCell ⟨g, 2, none⟩ (.map (some w.heap.size))).alloc (.cells #[.slice none 0 0, .int .i64 0] 51)).ownsMap Try.prog 9 ptrR w.heap.size ([] : List Fi).length (.map (([] : List Fi).map ent))) := Lib.hid ((hm0.setCell (a := ⟨g, 2, none⟩) (by simp only; omega) _).alloc _)
  have BX : Hid (Box (((w.alloc (.map #[] 0)).setCell ⟨g, 2, none⟩ (.map (some w.heap.size))).alloc (.cells #[.slice none 0 0, .int .i64 0] 51)) g Ty.disk [.int .i64 (m.room : Int), .int .i64 (used m.fs : Int), .map (some w.heap.size), .slice A m.armed.length c, .int .i64 (m.failed : Int)]) := Lib.hid ((hb0.set 2 _).alloc _)
  clear hm0 hb0 HS1 c2' f2'
  generalize (((w.alloc (.map #[] 0)).setCell ⟨g, 2, none⟩ (.map (some w.heap.size))).alloc (.cells #[.slice none 0 0, .int .i64 0] 51)) = W2 at HBX HK2 HSZ HO BX ⊢
  generalize hbw : w.heap.size = b at HBX HSZ HO BX hgl ⊢
  have HBW := Lib.hid hbw
  clear hbw
  have HZ : Hid (W2.heap.size - 1 = b + 1) := Lib.hid (by have := HSZ.out; omega)
  have HM : Hid True := Lib.hid trivial
  have HG : Hid (¬ g = b) := Lib.hid fun e => by
    obtain ⟨es, clock, hh, _⟩ := HO.out
    have h1 := BX.out
    unfold Box at h1
    rw [e, hh] at h1
    cases h1
  clear c0 c1 c2 c3 c4 f1 f2 f3 f4
  refine wp_region_held_drew (S := fun w' => Hid (Keep (fun k => k = b) W2 w')) (by kernel_rfl) (Lib.hid (Keep.refl _ _).drew) (fun hS => ?_)
  refine wpAnyH_take (i := 0) (v := ?_) rfl (by kernel_rfl) (by kernel_rfl) (by kernel_rfl) (fun _ _ _ h => h) (Or.inl ⟨by rfl, ?_⟩) hS ?_
  rotate_left
  · intro w hw
    go_simp
    try with_reducible rfl
  try simp only [Act.put, List.getElem_toArray, List.getElem_cons_succ, List.getElem_cons_zero, List.setIfInBounds_toArray, List.set_cons_zero, List.set_cons_succ]
  refine wpAnyH_take (i := 1) (v := ?_) rfl (by kernel_rfl) (by kernel_rfl) (by kernel_rfl) (fun _ _ _ h => h) (Or.inl ⟨by rfl, ?_⟩) hS ?_
  rotate_left
  · intro w hw
    go_simp
    try with_reducible rfl
  try simp only [Act.put, List.getElem_toArray, List.getElem_cons_succ, List.getElem_cons_zero, List.setIfInBounds_toArray, List.set_cons_zero, List.set_cons_succ]
  refine wpAnyH_take (i := 2) (v := ?_) rfl (by kernel_rfl) (by kernel_rfl) (by kernel_rfl) (fun _ _ _ h => h) (Or.inl ⟨by rfl, ?_⟩) hS ?_
  rotate_left
  · intro w hw
    go_simp
    try with_reducible rfl
  try simp only [Act.put, List.getElem_toArray, List.getElem_cons_succ, List.getElem_cons_zero, List.setIfInBounds_toArray, List.set_cons_zero, List.set_cons_succ]
  refine wpAnyH_take (i := 3) (v := ?_) rfl (by kernel_rfl) (by kernel_rfl) (by kernel_rfl) (fun _ _ _ h => h) (Or.inl ⟨by rfl, ?_⟩) hS ?_
  rotate_left
  · intro w hw
    have c2 : w.cell? ⟨g, 2, none⟩ = some (.map (some b)) := (BX.out.keep hw.out HG.out).cell 2
    go_simp
    try with_reducible rfl
  try simp only [Act.put, List.getElem_toArray, List.getElem_cons_succ, List.getElem_cons_zero, List.setIfInBounds_toArray, List.set_cons_zero, List.set_cons_succ]
  refine wpAnyH_take (i := 4) (v := ?_) rfl (by kernel_rfl) (by kernel_rfl) (by kernel_rfl) (fun _ _ _ h => h) (Or.inl ⟨by rfl, ?_⟩) hS ?_
  rotate_left
  · intro w hw
    go_simp
    try with_reducible rfl
  try simp only [Act.put, List.getElem_toArray, List.getElem_cons_succ, List.getElem_cons_zero, List.setIfInBounds_toArray, List.set_cons_zero, List.set_cons_succ]
  refine wpAnyH_take (i := 6) (v := ?_) rfl (by kernel_rfl) (by kernel_rfl) (by kernel_rfl) (fun _ _ _ h => h) (Or.inl ⟨by rfl, ?_⟩) hS ?_
  rotate_left
  · intro w hw
    go_simp
    try with_reducible rfl
  try simp only [Act.put, List.getElem_toArray, List.getElem_cons_succ, List.getElem_cons_zero, List.setIfInBounds_toArray, List.set_cons_zero, List.set_cons_succ]
  refine wpAnyH_ready (rs := [5]) (by kernel_rfl) (by simp) ?_
  refine AllReadyH.cons rfl (fun K hK => ?_) AllReadyH.nil
  go_simp
  refine (sclone_any nm (by omega) W2.drew).mono ?_
  rintro e W3 ⟨rfl, hb3⟩
  have H3 : Hid (Keep (fun k => k = b) W2 W3) := Lib.hid (hS.out.trans (T := fun _ => False) (below_keep hb3) fun _ _ h => h.elim)
  have HQ3 : Hid (Below W2.heap.size W2 W3) := Lib.hid ((Below.refl _ _).drew.trans hb3)
  obtain ⟨W4, hr4, ho4, hk4⟩ := store_run (blk := W2.heap.size - 1) (map_keep (T := fun _ => False) HO.out (below_keep HQ3.out) id) (by have := HN.out; omega) hl HNO.out (.slice none 0 0) [] 0
  have H4 : Hid (Keep (fun k => k = b) W2 W4) := Lib.hid (H3.out.trans hk4 fun _ _ h => h)
  
  rw [HZ.out] at hr4 ho4
  have HO4 := Lib.hid ho4
  clear hb3 ho4 hk4
  go_wp2_with fail
  refine hK.out _ _ H3 (fun hS3 => ?_)
  clear hK K hS
  try simp only [Act.put, List.getElem_toArray, List.getElem_cons_succ, List.getElem_cons_zero, List.setIfInBounds_toArray, List.set_cons_zero, List.set_cons_succ]
  refine wpAnyH_ready (rs := [7]) (by kernel_rfl) (by simp) ?_
  refine AllReadyH.cons rfl (fun K hK => ?_) AllReadyH.nil
  go_simp
  refine hK.out _ _ H4 (fun hS4 => ?_)
  clear hK K hS3 hr4
  try simp only [Act.put, List.getElem_toArray, List.getElem_cons_succ, List.getElem_cons_zero, List.setIfInBounds_toArray, List.set_cons_zero, List.set_cons_succ]
  refine wpAnyH_done (by kernel_rfl) ?_ _
  go_wp2_with fail
  go_ret
  have hbw := HBW.out
  have hkW : Keep (Hd g none) w W4 := HK2.out.trans H4.out fun i hi e => by omega
  refine ⟨(b + 1), b, Gr S w W4, rfl, by omega, ?_, hkW, fun k hk => .inl hk, fun k hk => hk.imp id fun h => h.1⟩
  have hz4 : (b + 1) < W4.heap.size := by
    have h1 := HSZ.out
    have h2 := H4.out.size
    omega
  exact H.out.add (f0 := ⟨nm, (b + 1), .slice none 0 0, [], 0⟩) hkW ⟨HBX.out.keep H4.out (by omega), World.ownsRow_nil _ _ _ _, .inr ⟨by simp only; omega, hz4⟩, fun k hk => by simp [Value.ownBlock] at hk, Nat.le_refl _, by simp, by simp, hl⟩
    (by simp only; omega) rfl HNO.out HO4.out (.inr ⟨by omega, by have := hz4; omega⟩) (fun k hk => .inl hk) (fun k hk => hk.elim (fun h => Nat.lt_of_lt_of_le (H.out.lt k h) hkW.size) fun h => h.2) (BX.out.keep H4.out HG.out) rfl HN.out
theorem create_any {w : World} {g : Nat} {S : Nat → Prop} {m : MS} {fs : List Fi} {M : Option Nat} {A : Option Addr} {c : Nat} (nm : ByteArray) (h : Lay w g S m fs M A c) (hno : ∀ x, x ∈ fs → x.nm ≠ nm) (hl : nm.size ≤ 40) (hn : fs.length + 1 ≤ 1000) :
    Calls Try.prog (15) #[.pointer (some ⟨g, 0, none⟩), .string nm] w (Made1 w g S m fs M A c nm) := by
  cases M with
  | none => exact create_none nm h hno hl hn
  | some b => exact create_some nm h hno hl hn
end Go.Proofs.Ytnbknihaefkllaa.Dk
