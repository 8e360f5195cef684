/- What the laws of this seat are proved from, part 3 of 5: texts laid one behind the other. -/
import Derived.Test.YtnbknihaefkllaaGreatDoorM2
import Derived.Test.YtnbknihaefkllaaGreatDoorM1
import Derived.Lib.SlBytesConst
/- What create of package disk answers. -/
namespace Go.Proofs.YtnbknihaefkllaaGreatDoor.Dk
set_option linter.unusedVariables false
set_option linter.unusedSimpArgs false
open Go.RowKit Go.Maps Lift Ik

theorem sclone_any (s : ByteArray) (h : s.size ≤ 1000) (w : World) : Calls Tryz.prog 48 #[.string s] w fun e w' => e = .returned (.string s) ∧ Below w.heap.size w w' := by
  go_enter Tryz.func48, Tryz.ntmps48
  go_wp2_with fail
  refine (Tryz.stringslite_Clone s w (by omega)).mono ?_
  rintro e w' ⟨rfl, hb⟩
  have HB := Lib.hid hb
  clear hb
  go_wp2_with fail
  go_ret
  exact ⟨rfl, HB.out⟩
theorem map_turned {w w' : World} {b : Nat} (h : w.mapTurned w' b) : Keep (· = b) w w' := (Keep.refl _ _).grown h.grown fun k hk _ => by cases hk; rfl
/-- 'd.files[nm] = f', ahead of it and behind it. -/
theorem store_run {w : World} {b n blk : Nat} {fs : List Fi} {nm : ByteArray} (h : w.ownsMap Tryz.prog 9 ptrR b n (.map (fs.map ent))) (hn : n ≤ 1000) (hl : nm.size ≤ 40) (hno : ∀ x, x ∈ fs → x.nm ≠ nm) (v : Value) (bs : List Nat) (syn : Nat) :
    ∃ w', Sem.run Tryz.prog (Instr.mapUpdate 52 (.map (some b)) (.string nm) (.pointer (some ⟨blk, 0, none⟩))) w = .ok () w' ∧ w'.ownsMap Tryz.prog 9 ptrR b (n + 1) (.map ((insF ⟨nm, blk, v, bs, syn⟩ fs).map ent)) ∧ Keep (· = b) w w' := by
  have hkey : keyOf Tryz.prog 9 (.string nm) = some (kl nm) := WideMaps.keyOf_string_mk Tryz.underlying9 (by unfold maxLen; omega)
  obtain ⟨w', hrun, ho, ht⟩ := h.store law Tryz.underlying52 (by unfold maxLen; omega) hkey (show ptrR (.pointer (some ⟨blk, 0, none⟩)) = some (dat blk, []) from rfl)
  rw [put_ent hno] at ho
  rw [insF_ent]
  exact ⟨w', hrun, ho, map_turned ht⟩

/-- A new file stands behind this. -/
def Made1 (w : World) (g : Nat) (S : Nat → Prop) (m : MS) (fs : List Fi) (M : Option Nat) (A : Option Addr) (c : Nat) (nm : ByteArray) (e : Ending) (w' : World) : Prop :=
  ∃ blk b S', e = .returned (.pointer (some ⟨blk, 0, none⟩)) ∧ w.heap.size ≤ blk ∧ Lay w' g S' { m with fs := insM ⟨nm, [], 0⟩ m.fs } (insF ⟨nm, blk, .slice none 0 0, [], 0⟩ fs) (some b) A c ∧ Keep (Hd g M) w w' ∧ (∀ k, S k → S' k) ∧ (∀ k, S' k → S k ∨ w.heap.size ≤ k)

set_option maxRecDepth 100000 in
set_option maxHeartbeats 1000000 in
theorem create_some {w : World} {g : Nat} {S : Nat → Prop} {m : MS} {fs : List Fi} {b : Nat} {A : Option Addr} {c : Nat} (nm : ByteArray) (h : Lay w g S m fs (some b) A c) (hno : ∀ x, x ∈ fs → x.nm ≠ nm) (hl : nm.size ≤ 40) (hn : fs.length + 1 ≤ 1000) :
    Calls Tryz.prog (25) #[.pointer (some ⟨g, 0, none⟩), .string nm] w (Made1 w g S m fs (some b) A c nm) := by
  obtain ⟨c0, c1, c2, c3, c4, f1, f2, f3, f4⟩ := h.facts
  have H := Lib.hid h
  obtain ⟨b', hb', hsb, hmap⟩ : ∃ b', some b = some b' ∧ S b' ∧ w.ownsMap Tryz.prog 9 ptrR b' fs.length (.map (fs.map ent)) := by
    rcases h.files.map with ⟨h0, _⟩ | h1
    · cases h0
    · exact h1
  cases hb'
  have HM := Lib.hid hmap
  have HSB := Lib.hid hsb
  clear hmap hsb
  have q : ∀ W : World, Sem.run Tryz.prog (binOp .eql 52 (.map (some b)) (.map none)) W = .ok (.bool false) W := fun W => run_eql_map_nil W _ _ _ (some b) Tryz.underlying52
  have HN := Lib.hid hn
  have HNO := Lib.hid hno
  clear h hn hno
  go_enter Tryz.func25, Tryz.ntmps25
  go_wp2_with fail
  have HBX : Hid (Box (w.alloc (.cells #[.slice none 0 0, .int .i64 0] 61)) w.heap.size 61 [.slice none 0 0, .int .i64 0]) := Lib.hid (Box.new w _ _)
  have HK2 : Hid (Keep (Hd g (some b)) w (w.alloc (.cells #[.slice none 0 0, .int .i64 0] 61))) := Lib.hid (below_keep (Joins.below_alloc1 w _))
  have HSZ : Hid ((w.alloc (.cells #[.slice none 0 0, .int .i64 0] 61)).heap.size = w.heap.size + 1) := Lib.hid (by simp)
  have HO : Hid ((w.alloc (.cells #[.slice none 0 0, .int .i64 0] 61)).ownsMap Tryz.prog 9 ptrR b fs.length (.map (fs.map ent))) := Lib.hid (map_keep (T := fun _ => False) HM.out (below_keep (Joins.below_alloc1 w _)) id)
  have BX : Hid (Box (w.alloc (.cells #[.slice none 0 0, .int .i64 0] 61)) g Ty.disk [.int .i64 (m.room : Int), .int .i64 (used m.fs : Int), .map (some b), .slice A m.armed.length c, .int .i64 (m.failed : Int)]) := Lib.hid (H.out.box.below (Joins.below_alloc1 w _) (H.out.lt g H.out.sg))
  generalize (w.alloc (.cells #[.slice none 0 0, .int .i64 0] 61)) = W2 at HBX HK2 HSZ HO BX ⊢
  have HZ : Hid (W2.heap.size - 1 = w.heap.size) := Lib.hid (by have := HSZ.out; omega)
  have HBN : Hid (b < w.heap.size) := Lib.hid HM.out.lt
  have HG : Hid (¬ g = b) := Lib.hid fun e => by
    obtain ⟨es, clock, hh, _⟩ := HO.out
    have h1 := BX.out
    unfold Box at h1
    rw [e, hh] at h1
    cases h1
  clear c0 c1 c2 c3 c4 f1 f2 f3 f4
  refine wp_region_held_drew (S := fun w' => Hid (Keep (fun k => k = b) W2 w')) (by kernel_rfl) (Lib.hid (Keep.refl _ _).drew) (fun hS => ?_)
  refine wpAnyH_take (i := 0) (v := ?_) rfl (by kernel_rfl) (by kernel_rfl) (by kernel_rfl) (fun _ _ _ h => h) (Or.inl ⟨by rfl, ?_⟩) hS ?_
  rotate_left
  · intro w hw
    go_simp
    try with_reducible rfl
  try simp only [Act.put, List.getElem_toArray, List.getElem_cons_succ, List.getElem_cons_zero, List.setIfInBounds_toArray, List.set_cons_zero, List.set_cons_succ]
  refine wpAnyH_take (i := 1) (v := ?_) rfl (by kernel_rfl) (by kernel_rfl) (by kernel_rfl) (fun _ _ _ h => h) (Or.inl ⟨by rfl, ?_⟩) hS ?_
  rotate_left
  · intro w hw
    go_simp
    try with_reducible rfl
  try simp only [Act.put, List.getElem_toArray, List.getElem_cons_succ, List.getElem_cons_zero, List.setIfInBounds_toArray, List.set_cons_zero, List.set_cons_succ]
  refine wpAnyH_take (i := 2) (v := ?_) rfl (by kernel_rfl) (by kernel_rfl) (by kernel_rfl) (fun _ _ _ h => h) (Or.inl ⟨by rfl, ?_⟩) hS ?_
  rotate_left
  · intro w hw
    go_simp
    try with_reducible rfl
  try simp only [Act.put, List.getElem_toArray, List.getElem_cons_succ, List.getElem_cons_zero, List.setIfInBounds_toArray, List.set_cons_zero, List.set_cons_succ]
  refine wpAnyH_take (i := 3) (v := ?_) rfl (by kernel_rfl) (by kernel_rfl) (by kernel_rfl) (fun _ _ _ h => h) (Or.inl ⟨by rfl, ?_⟩) hS ?_
  rotate_left
  · intro w hw
    have c2 : w.cell? ⟨g, 2, none⟩ = some (.map (some b)) := (BX.out.keep hw.out HG.out).cell 2
    go_simp
    try with_reducible rfl
  try simp only [Act.put, List.getElem_toArray, List.getElem_cons_succ, List.getElem_cons_zero, List.setIfInBounds_toArray, List.set_cons_zero, List.set_cons_succ]
  refine wpAnyH_take (i := 4) (v := ?_) rfl (by kernel_rfl) (by kernel_rfl) (by kernel_rfl) (fun _ _ _ h => h) (Or.inl ⟨by rfl, ?_⟩) hS ?_
  rotate_left
  · intro w hw
    go_simp
    try with_reducible rfl
  try simp only [Act.put, List.getElem_toArray, List.getElem_cons_succ, List.getElem_cons_zero, List.setIfInBounds_toArray, List.set_cons_zero, List.set_cons_succ]
  refine wpAnyH_take (i := 6) (v := ?_) rfl (by kernel_rfl) (by kernel_rfl) (by kernel_rfl) (fun _ _ _ h => h) (Or.inl ⟨by rfl, ?_⟩) hS ?_
  rotate_left
  · intro w hw
    go_simp
    try with_reducible rfl
  try simp only [Act.put, List.getElem_toArray, List.getElem_cons_succ, List.getElem_cons_zero, List.setIfInBounds_toArray, List.set_cons_zero, List.set_cons_succ]
  refine wpAnyH_ready (rs := [5]) (by kernel_rfl) (by simp) ?_
  refine AllReadyH.cons rfl (fun K hK => ?_) AllReadyH.nil
  go_simp
  refine (sclone_any nm (by omega) W2.drew).mono ?_
  rintro e W3 ⟨rfl, hb3⟩
  have H3 : Hid (Keep (fun k => k = b) W2 W3) := Lib.hid (hS.out.trans (T := fun _ => False) (below_keep hb3) fun _ _ h => h.elim)
  have HQ3 : Hid (Below W2.heap.size W2 W3) := Lib.hid ((Below.refl _ _).drew.trans hb3)
  obtain ⟨W4, hr4, ho4, hk4⟩ := store_run (blk := W2.heap.size - 1) (map_keep (T := fun _ => False) HO.out (below_keep HQ3.out) id) (by have := HN.out; omega) hl HNO.out (.slice none 0 0) [] 0
  have H4 : Hid (Keep (fun k => k = b) W2 W4) := Lib.hid (H3.out.trans hk4 fun _ _ h => h)
  
  rw [HZ.out] at hr4 ho4
  have HO4 := Lib.hid ho4
  clear hb3 ho4 hk4
  go_wp2_with fail
  refine hK.out _ _ H3 (fun hS3 => ?_)
  clear hK K hS
  try simp only [Act.put, List.getElem_toArray, List.getElem_cons_succ, List.getElem_cons_zero, List.setIfInBounds_toArray, List.set_cons_zero, List.set_cons_succ]
  refine wpAnyH_ready (rs := [7]) (by kernel_rfl) (by simp) ?_
  refine AllReadyH.cons rfl (fun K hK => ?_) AllReadyH.nil
  go_simp
  refine hK.out _ _ H4 (fun hS4 => ?_)
  clear hK K hS3 hr4
  try simp only [Act.put, List.getElem_toArray, List.getElem_cons_succ, List.getElem_cons_zero, List.setIfInBounds_toArray, List.set_cons_zero, List.set_cons_succ]
  refine wpAnyH_done (by kernel_rfl) ?_ _
  go_wp2_with fail
  go_ret

  have hkW : Keep (Hd g (some b)) w W4 := HK2.out.trans H4.out fun i hi e => .inr (by rw [e])
  refine ⟨w.heap.size, b, Gr S w W4, rfl, by omega, ?_, hkW, fun k hk => .inl hk, fun k hk => hk.imp id fun h => h.1⟩
  have hz4 : w.heap.size < W4.heap.size := by
    have h1 := HSZ.out
    have h2 := H4.out.size
    omega
  exact H.out.add (f0 := ⟨nm, w.heap.size, .slice none 0 0, [], 0⟩) hkW ⟨HBX.out.keep H4.out (by have := HBN.out; omega), World.ownsRow_nil _ _ _ _, .inr ⟨by simp only; omega, hz4⟩, fun k hk => by simp [Value.ownBlock] at hk, Nat.le_refl _, by simp, by simp, hl⟩
    (by simp only; omega) rfl HNO.out HO4.out (.inl HSB.out) (fun k hk => .inl hk) (fun k hk => hk.elim (fun h => Nat.lt_of_lt_of_le (H.out.lt k h) hkW.size) fun h => h.2) (BX.out.keep H4.out HG.out) rfl HN.out

set_option maxRecDepth 100000 in
set_option maxHeartbeats 1000000 in
theorem create_none {w : World} {g : Nat} {S : Nat → Prop} {m : MS} {fs : List Fi} {A : Option Addr} {c : Nat} (nm : ByteArray) (h : Lay w g S m fs none A c) (hno : ∀ x, x ∈ fs → x.nm ≠ nm) (hl : nm.size ≤ 40) (hn : fs.length + 1 ≤ 1000) :
    Calls Tryz.prog (25) #[.pointer (some ⟨g, 0, none⟩), .string nm] w (Made1 w g S m fs none A c nm) := by
  obtain ⟨c0, c1, c2, c3, c4, f1, f2, f3, f4⟩ := h.facts
  have H := Lib.hid h
  obtain rfl : fs = [] := by
    rcases h.files.map with ⟨_, h0⟩ | ⟨b, h0, _⟩
    · exact h0
    · cases h0
  have hmm := @run_makeMap Tryz.prog
  have hb0 : Box (w.alloc (.map #[] 0)) g Ty.disk _ := h.box.alloc _
  have c2' := hb0.cell 2
  have f2' := hb0.free 2
  simp only [List.getElem?_cons_succ, List.getElem?_cons_zero] at c2'
  have q : ∀ W : World, Sem.run Tryz.prog (binOp .eql 52 (.map none) (.map none)) W = .ok (.bool true) W := fun W => run_eql_map_nil W _ _ _ none Tryz.underlying52
  have HN := Lib.hid hn
  have HNO := Lib.hid hno
  clear h hn hno
  go_enter Tryz.func25, Tryz.ntmps25
  go_wp2_with fail
  have hgl : g < w.heap.size := H.out.lt g H.out.sg
  have HS1 : ((w.alloc (.map #[] 0)).setCell ⟨g, 2, none⟩ (.map (some w.heap.size))).heap.size = w.heap.size + 1 := by simp [World.setCell]
  have HBX : Hid (Box (((w.alloc (.map #[] 0)).setCell ⟨g, 2, none⟩ (.map (some w.heap.size))).alloc (.cells #[.slice none 0 0, .int .i64 0] 61)) (w.heap.size + 1) 61 [.slice none 0 0, .int .i64 0]) := Lib.hid (by have := Box.new ((w.alloc (.map #[] 0)).setCell ⟨g, 2, none⟩ (.map (some w.heap.size))) 61 [.slice none 0 0, .int .i64 0]; rw [HS1] at this; exact this)
  have HK2 : Hid (Keep (Hd g none) w (((w.alloc (.map #[] 0)).setCell ⟨g, 2, none⟩ (.map (some w.heap.size))).alloc (.cells #[.slice none 0 0, .int .i64 0] 61))) := Lib.hid ((((Keep.refl _ w).alloc _).setCell (p := ⟨g, 2, none⟩) (.inr (.inl rfl)) _).alloc _)
  have HSZ : Hid ((((w.alloc (.map #[] 0)).setCell ⟨g, 2, none⟩ (.map (some w.heap.size))).alloc (.cells #[.slice none 0 0, .int .i64 0] 61)).heap.size = w.heap.size + 1 + 1) := Lib.hid (by simp [World.setCell])
  have hm0 := World.ownsMap_made (H := Unit) w Tryz.prog 9 ptrR
  have HO : Hid ((((w.alloc (.map #[] 0)).setCell ⟨g, 2, none⟩ (.map (some w.heap.size))).alloc (.cells #[.slice none 0 0, .int .i64 0] 61)).ownsMap Tryz.prog 9 ptrR w.heap.size ([] : List Fi).length (.map (([] : List Fi).map ent))) := Lib.hid ((hm0.setCell (a := ⟨g, 2, none⟩) (by simp only; omega) _).alloc _)
  have BX : Hid (Box (((w.alloc (.map #[] 0)).setCell ⟨g, 2, none⟩ (.map (some w.heap.size))).alloc (.cells #[.slice none 0 0, .int .i64 0] 61)) g Ty.disk [.int .i64 (m.room : Int), .int .i64 (used m.fs : Int), .map (some w.heap.size), .slice A m.armed.length c, .int .i64 (m.failed : Int)]) := Lib.hid ((hb0.set 2 _).alloc _)
  clear hm0 hb0 HS1 c2' f2'
  generalize (((w.alloc (.map #[] 0)).setCell ⟨g, 2, none⟩ (.map (some w.heap.size))).alloc (.cells #[.slice none 0 0, .int .i64 0] 61)) = W2 at HBX HK2 HSZ HO BX ⊢
  generalize hbw : w.heap.size = b at HBX HSZ HO BX hgl ⊢
  have HBW := Lib.hid hbw
  clear hbw
  have HZ : Hid (W2.heap.size - 1 = b + 1) := Lib.hid (by have := HSZ.out; omega)
  have HM : Hid True := Lib.hid trivial
  have HG : Hid (¬ g = b) := Lib.hid fun e => by
    obtain ⟨es, clock, hh, _⟩ := HO.out
    have h1 := BX.out
    unfold Box at h1
    rw [e, hh] at h1
    cases h1
  clear c0 c1 c2 c3 c4 f1 f2 f3 f4
  refine wp_region_held_drew (S := fun w' => Hid (Keep (fun k => k = b) W2 w')) (by kernel_rfl) (Lib.hid (Keep.refl _ _).drew) (fun hS => ?_)
  refine wpAnyH_take (i := 0) (v := ?_) rfl (by kernel_rfl) (by kernel_rfl) (by kernel_rfl) (fun _ _ _ h => h) (Or.inl ⟨by rfl, ?_⟩) hS ?_
  rotate_left
  · intro w hw
    go_simp
    try with_reducible rfl
  try simp only [Act.put, List.getElem_toArray, List.getElem_cons_succ, List.getElem_cons_zero, List.setIfInBounds_toArray, List.set_cons_zero, List.set_cons_succ]
  refine wpAnyH_take (i := 1) (v := ?_) rfl (by kernel_rfl) (by kernel_rfl) (by kernel_rfl) (fun _ _ _ h => h) (Or.inl ⟨by rfl, ?_⟩) hS ?_
  rotate_left
  · intro w hw
    go_simp
    try with_reducible rfl
  try simp only [Act.put, List.getElem_toArray, List.getElem_cons_succ, List.getElem_cons_zero, List.setIfInBounds_toArray, List.set_cons_zero, List.set_cons_succ]
  refine wpAnyH_take (i := 2) (v := ?_) rfl (by kernel_rfl) (by kernel_rfl) (by kernel_rfl) (fun _ _ _ h => h) (Or.inl ⟨by rfl, ?_⟩) hS ?_
  rotate_left
  · intro w hw
    go_simp
    try with_reducible rfl
  try simp only [Act.put, List.getElem_toArray, List.getElem_cons_succ, List.getElem_cons_zero, List.setIfInBounds_toArray, List.set_cons_zero, List.set_cons_succ]
  refine wpAnyH_take (i := 3) (v := ?_) rfl (by kernel_rfl) (by kernel_rfl) (by kernel_rfl) (fun _ _ _ h => h) (Or.inl ⟨by rfl, ?_⟩) hS ?_
  rotate_left
  · intro w hw
    have c2 : w.cell? ⟨g, 2, none⟩ = some (.map (some b)) := (BX.out.keep hw.out HG.out).cell 2
    go_simp
    try with_reducible rfl
  try simp only [Act.put, List.getElem_toArray, List.getElem_cons_succ, List.getElem_cons_zero, List.setIfInBounds_toArray, List.set_cons_zero, List.set_cons_succ]
  refine wpAnyH_take (i := 4) (v := ?_) rfl (by kernel_rfl) (by kernel_rfl) (by kernel_rfl) (fun _ _ _ h => h) (Or.inl ⟨by rfl, ?_⟩) hS ?_
  rotate_left
  · intro w hw
    go_simp
    try with_reducible rfl
  try simp only [Act.put, List.getElem_toArray, List.getElem_cons_succ, List.getElem_cons_zero, List.setIfInBounds_toArray, List.set_cons_zero, List.set_cons_succ]
  refine wpAnyH_take (i := 6) (v := ?_) rfl (by kernel_rfl) (by kernel_rfl) (by kernel_rfl) (fun _ _ _ h => h) (Or.inl ⟨by rfl, ?_⟩) hS ?_
  rotate_left
  · intro w hw
    go_simp
    try with_reducible rfl
  try simp only [Act.put, List.getElem_toArray, List.getElem_cons_succ, List.getElem_cons_zero, List.setIfInBounds_toArray, List.set_cons_zero, List.set_cons_succ]
  refine wpAnyH_ready (rs := [5]) (by kernel_rfl) (by simp) ?_
  refine AllReadyH.cons rfl (fun K hK => ?_) AllReadyH.nil
  go_simp
  refine (sclone_any nm (by omega) W2.drew).mono ?_
  rintro e W3 ⟨rfl, hb3⟩
  have H3 : Hid (Keep (fun k => k = b) W2 W3) := Lib.hid (hS.out.trans (T := fun _ => False) (below_keep hb3) fun _ _ h => h.elim)
  have HQ3 : Hid (Below W2.heap.size W2 W3) := Lib.hid ((Below.refl _ _).drew.trans hb3)
  obtain ⟨W4, hr4, ho4, hk4⟩ := store_run (blk := W2.heap.size - 1) (map_keep (T := fun _ => False) HO.out (below_keep HQ3.out) id) (by have := HN.out; omega) hl HNO.out (.slice none 0 0) [] 0
  have H4 : Hid (Keep (fun k => k = b) W2 W4) := Lib.hid (H3.out.trans hk4 fun _ _ h => h)
  
  rw [HZ.out] at hr4 ho4
  have HO4 := Lib.hid ho4
  clear hb3 ho4 hk4
  go_wp2_with fail
  refine hK.out _ _ H3 (fun hS3 => ?_)
  clear hK K hS
  try simp only [Act.put, List.getElem_toArray, List.getElem_cons_succ, List.getElem_cons_zero, List.setIfInBounds_toArray, List.set_cons_zero, List.set_cons_succ]
  refine wpAnyH_ready (rs := [7]) (by kernel_rfl) (by simp) ?_
  refine AllReadyH.cons rfl (fun K hK => ?_) AllReadyH.nil
  go_simp
  refine hK.out _ _ H4 (fun hS4 => ?_)
  clear hK K hS3 hr4
  try simp only [Act.put, List.getElem_toArray, List.getElem_cons_succ, List.getElem_cons_zero, List.setIfInBounds_toArray, List.set_cons_zero, List.set_cons_succ]
  refine wpAnyH_done (by kernel_rfl) ?_ _
  go_wp2_with fail
  go_ret
  have hbw := HBW.out
  have hkW : Keep (Hd g none) w W4 := HK2.out.trans H4.out fun i hi e => by omega
  refine ⟨(b + 1), b, Gr S w W4, rfl, by omega, ?_, hkW, fun k hk => .inl hk, fun k hk => hk.imp id fun h => h.1⟩
  have hz4 : (b + 1) < W4.heap.size := by
    have h1 := HSZ.out
    have h2 := H4.out.size
    omega
  exact H.out.add (f0 := ⟨nm, (b + 1), .slice none 0 0, [], 0⟩) hkW ⟨HBX.out.keep H4.out (by omega), World.ownsRow_nil _ _ _ _, .inr ⟨by simp only; omega, hz4⟩, fun k hk => by simp [Value.ownBlock] at hk, Nat.le_refl _, by simp, by simp, hl⟩
    (by simp only; omega) rfl HNO.out HO4.out (.inr ⟨by omega, by have := hz4; omega⟩) (fun k hk => .inl hk) (fun k hk => hk.elim (fun h => Nat.lt_of_lt_of_le (H.out.lt k h) hkW.size) fun h => h.2) (BX.out.keep H4.out HG.out) rfl HN.out
theorem create_any {w : World} {g : Nat} {S : Nat → Prop} {m : MS} {fs : List Fi} {M : Option Nat} {A : Option Addr} {c : Nat} (nm : ByteArray) (h : Lay w g S m fs M A c) (hno : ∀ x, x ∈ fs → x.nm ≠ nm) (hl : nm.size ≤ 40) (hn : fs.length + 1 ≤ 1000) :
    Calls Tryz.prog (25) #[.pointer (some ⟨g, 0, none⟩), .string nm] w (Made1 w g S m fs M A c nm) := by
  cases M with
  | none => exact create_none nm h hno hl hn
  | some b => exact create_some nm h hno hl hn
end Go.Proofs.YtnbknihaefkllaaGreatDoor.Dk
/- What Append of package disk answers. -/
namespace Go.Proofs.YtnbknihaefkllaaGreatDoor.Dk
set_option linter.unusedVariables false
set_option linter.unusedSimpArgs false
open Go.RowKit Go.Maps Lift Ik

def lenOf (o : Option FM) : Nat := match o with | some f => f.bs.length | none => 0
def appendM (m : MS) (nm : ByteArray) (b : List Nat) : Nat × MS :=
  if bad m [nm] ≠ 0 then (bad m [nm], (hit m).2)
  else if 16777216 < lenOf (get m.fs nm) + b.length ∨ (get m.fs nm).isNone = true ∧ 1000 ≤ m.fs.length then (3, (hit m).2)
  else if m.room < used m.fs + b.length then (7, (hit m).2)
  else (0, { (hit m).2 with fs := match get m.fs nm with | some f => put1 m.fs ⟨f.nm, f.bs ++ b, f.syn⟩ | none => insM ⟨nm, b, 0⟩ m.fs })
section
variable {w w' : World} {g : Nat} {S S' T : Nat → Prop} {m : MS} {fs : List Fi} {M : Option Nat} {A : Option Addr} {c : Nat}
theorem begin1 (nm : ByteArray) (h : Lay w g S m fs M A c) (hf : m.failed ≤ 1000000) :
    Calls Tryz.prog (24) #[.pointer (some ⟨g, 0, none⟩), .slice (some ⟨w.heap.size, 0, none⟩) 1 1] (w.alloc (.cells #[.string nm] 9)) fun e w' => ∃ A' c', e = .returned (.int .i64 (bad m [nm] : Nat)) ∧ Keep (· = g) w w' ∧ Lay w' g S (hit m).2 fs M A' c' := by
  have hk0 : Keep (fun _ => False) w (w.alloc (.cells #[.string nm] 9)) := below_keep (Joins.below_alloc1 w _)
  refine (begin_any g S m fs M A (some ⟨w.heap.size, 0, none⟩) c 1 [nm] _ (h.keep hk0 fun _ _ => id) hf (names1 nm (h.lt g h.sg)) (by simp) (by decide)).mono ?_
  rintro e w' ⟨A', c', he, hk, hL⟩
  exact ⟨A', c', he, (below_keep (S := (· = g)) (Joins.below_alloc1 w _)).trans hk fun _ _ h => h, hL⟩
theorem len_run (h : Files w S M fs) (ty : TypeId) : Sem.run Tryz.prog (Builtin.len_ #[52] ty #[.map M]) w = .ok (.int .i64 (fs.length : Int)) w := by
  rcases h.map with ⟨rfl, rfl⟩ | ⟨b, rfl, hs, hm⟩
  · exact Maps.len_nil Tryz.underlying52 ty
  · have := hm.len Tryz.underlying52 ty
    rw [this]
    simp [Maps.size]
/-- Bytes are laid behind a file's: what becomes of the disk. -/
theorem Lay.wrote {W5 : World} {f : Fi} {v' : Value} {b : List Nat} (h : Lay w g S m fs M A c) (hf : f ∈ fs) (hown : W5.ownsRow 0 5 1 v' (f.bs.length + b.length) ((f.bs ++ b).map vb)) (hon : Onto f.v v' w W5)
    (hlen : f.bs.length + b.length ≤ 16777216) (hb : ∀ x, x ∈ b → x < 256) (hr : used m.fs + b.length ≤ m.room) :
    ∃ S', At ((W5.setCell ⟨f.blk, 0, none⟩ v').setCell ⟨g, 1, none⟩ (.int .i64 ((used m.fs : Int) + (b.length : Int)))) g S' { m with fs := put1 m.fs ⟨f.nm, f.bs ++ b, f.syn⟩ } ∧
      Keep S w ((W5.setCell ⟨f.blk, 0, none⟩ v').setCell ⟨g, 1, none⟩ (.int .i64 ((used m.fs : Int) + (b.length : Int)))) ∧ (∀ k, S k → S' k) ∧ ∀ k, S' k → S k ∨ w.heap.size ≤ k := by
  have ok := h.files.ok f hf
  have hgb : g ≠ f.blk := fun e => by
    have h1 := ok.box
    rw [← e] at h1
    exact typed h.box h1 (by decide)
  have n1 : ¬ f.v.ownBlock = some f.blk := fun e => by
    obtain ⟨_, cs, fr, h1⟩ := ok.bytes e
    exact typed ok.box h1 (by decide)
  have n2 : ¬ f.v.ownBlock = some g := fun e => by
    obtain ⟨_, cs, fr, h1⟩ := ok.bytes e
    exact typed h.box h1 (by decide)
  have bf5 : Box W5 f.blk Ty.file [f.v, .int .i64 (f.syn : Int)] := ok.box.keep hon.keep n1
  have bg5 := h.box.keep hon.keep n2
  have hk : Keep (Of g f) w ((W5.setCell ⟨f.blk, 0, none⟩ v').setCell ⟨g, 1, none⟩ (.int .i64 ((used m.fs : Int) + (b.length : Int)))) :=
    ((hon.keep.mono (T := Of g f) fun k hk => .inr (.inr hk)).setCell (p := ⟨f.blk, 0, none⟩) (.inr (.inr (.inl rfl))) _).setCell (p := ⟨g, 1, none⟩) (.inr (.inl rfl)) _
  have hk5 : Keep (fun k => k = f.blk ∨ k = g) W5 ((W5.setCell ⟨f.blk, 0, none⟩ v').setCell ⟨g, 1, none⟩ (.int .i64 ((used m.fs : Int) + (b.length : Int)))) :=
    ((Keep.refl _ W5).setCell (p := ⟨f.blk, 0, none⟩) (.inr (.inl rfl)) _).setCell (p := ⟨g, 1, none⟩) (.inr (.inr rfl)) _
  have hsz : ((W5.setCell ⟨f.blk, 0, none⟩ v').setCell ⟨g, 1, none⟩ (.int .i64 ((used m.fs : Int) + (b.length : Int)))).heap.size = W5.heap.size := by simp [World.setCell]
  have hu : used (put1 m.fs ⟨f.nm, f.bs ++ b, f.syn⟩) = used m.fs + b.length := by
    have := used_put1 m.fs f.m ⟨f.nm, f.bs ++ b, f.syn⟩ (by rw [h.told]; exact names_apart h.files.sep) (by rw [h.told]; exact List.mem_map.2 ⟨f, hf, rfl⟩) rfl
    have e : f.m.bs = f.bs := rfl
    rw [e] at this
    simp only [List.length_append] at this
    omega
  have hlt5 : ∀ k, v'.ownBlock = some k → k < W5.heap.size := fun k hk => (hown.lt k hk).2
  refine ⟨Gr S w W5, ?_, hk.mono fun k hk => ?_, fun k hk => .inl hk, fun k hk => hk.imp id fun h => h.1⟩
  · refine (h.sub (f' := ⟨f.nm, f.blk, v', f.bs ++ b, f.syn⟩) (S' := Gr S w W5) hk hf rfl rfl ⟨?_, ?_, .inl ok.sb, fun k hk => ?_, ?_, ?_, ?_, ok.nm⟩ (fun k hk => hon.place k hk) (fun k hk => .inl hk) (fun k hk => ?_) ?_ ?_).toAt
    · exact (bf5.set 0 v').setOther (p := ⟨g, 1, none⟩) (fun e => hgb e.symm) _
    · have := own_keep hown hk5 fun k hk e => by
        rcases e with e | e
        · rw [e] at hk; exact own_apart hown bf5 (by decide) hk
        · rw [e] at hk; exact own_apart hown bg5 (by decide) hk
      rw [List.length_append]
      exact this
    · rcases hon.place k hk with h1 | h1
      · exact .inl (ok.sv k h1)
      · exact .inr ⟨h1, hlt5 k hk⟩
    · have := ok.syn
      simp only [List.length_append]
      omega
    · simp only [List.length_append]
      omega
    · intro x hx
      rcases List.mem_append.1 hx with h1 | h1
      · exact ok.byte x h1
      · exact hb x h1
    · rw [hsz]
      rcases hk with h1 | h1
      · exact Nat.lt_of_lt_of_le (h.lt k h1) hon.keep.size
      · exact h1.2
    · show Box _ _ _ [_, .int .i64 (used (put1 m.fs ⟨f.nm, f.bs ++ b, f.syn⟩) : Int), _, _, _]
      rw [hu, Int.natCast_add]
      exact (bg5.setOther (p := ⟨f.blk, 0, none⟩) hgb v').set 1 _
    · show used (put1 m.fs ⟨f.nm, f.bs ++ b, f.syn⟩) ≤ _
      rw [hu]
      exact hr
  · rcases hk with h1 | h1 | h1
    · rw [h1]; exact h.sg
    · rw [h1]; exact ok.sb
    · exact ok.sv k h1

set_option maxRecDepth 100000 in
set_option maxHeartbeats 1600000 in
theorem append_any (nm : ByteArray) (Ab : Option Addr) (cb : Nat) (bs : List Nat) (h : At w g S m) (hf : m.failed ≤ 1000000) (hb : LiesP w (fun k => ¬ S k ∧ k < w.heap.size) Ab (bs.map vb)) (hc : bs.length ≤ cb) (hbl : bs.length ≤ 1099511627776) (hb8 : ∀ x, x ∈ bs → x < 256) :
    Calls Tryz.prog (7) #[.pointer (some ⟨g, 0, none⟩), .string nm, .slice Ab bs.length cb] w (Told w g S (appendM m nm bs)) := by
  obtain ⟨fs, M, A, c, h⟩ := h
  have HF := Lib.hid (begin1 nm h hf)
  have HT := Lib.hid h.told
  have HS := Lib.hid h.sg
  have HB := Lib.hid hb
  have HB8 := Lib.hid hb8
  have HFS := Lib.hid (hit_fs m)
  clear h hb hb8
  go_enter Tryz.func7, Tryz.ntmps7
  go_wp2_with fail
  refine HF.out.mono ?_
  rintro e W1 ⟨A1, c1, rfl, hk1, hL1⟩
  obtain ⟨p0, p1, p2, _⟩ := hL1.facts
  have HK := Lib.hid hk1
  have HL := Lib.hid hL1
  have hroom := hL1.room
  have hused := hL1.used_le
  by_cases hb0 : bad m [nm] = 0
  · have hlk := look_run hL1.files nm ((bad_zero hb0).2 nm (by simp))
    have hnm := (bad_zero hb0).2 nm (by simp)
    have hlen := len_run hL1.files
    have HB1 : Hid (LiesP W1 (fun k => ¬ S k ∧ k < W1.heap.size) Ab (bs.map vb)) := Lib.hid (HB.out.later (fun k hk => hk1.block k hk.2 fun e => hk.1 (by rw [e]; exact HS.out)) fun k hk => ⟨hk.1, Nat.lt_of_lt_of_le hk.2 hk1.size⟩)
    have hmany : fs.length = m.fs.length := by rw [HT.out, List.length_map]
    rw [hb0]
    have HB0 := Lib.hid hb0
    have hfs2 : (hit m).2.fs = m.fs := (hit_fs m).1
    have hrm2 : (hit m).2.room = m.room := (hit_fs m).2
    rw [hfs2] at p1 hused
    rw [hrm2] at p0 hroom
    obtain ⟨U, hU⟩ : ∃ U, U = used m.fs := ⟨_, rfl⟩
    obtain ⟨R, hR⟩ : ∃ R, R = m.room := ⟨_, rfl⟩
    rw [← hU] at p1 hused
    rw [← hR] at p0 hroom
    have HU := Lib.hid hU
    have HRR := Lib.hid hR
    have HM' := Lib.hid hmany
    have HFS2 := Lib.hid hfs2
    have HRM2 := Lib.hid hrm2
    clear hk1 hL1 HF hb0 hfs2 hrm2 hU hR hmany
    rcases hfo : look fs nm with _ | f
    · rw [hfo] at hlk
      have hg : Hid (get m.fs nm = none) := Lib.hid (by rw [HT.out, look_get, hfo]; rfl)
      have HNO := Lib.hid (look_none.1 hfo)
      clear hfo
      have hlk' : Sem.run Tryz.prog (Instr.lookup 52 (.map M) (.string nm) false) W1 = .ok (.pointer none) W1 := hlk
      clear hlk
      by_cases k1 : 16777216 < bs.length
      · have d1 : decide ((16777216 : Int) < (bs.length : Int)) = true := by simp; omega
        have E : Hid (appendM m nm bs = (3, (hit m).2)) := Lib.hid (by
          unfold appendM
          rw [if_neg (by have := HB0.out; omega), hg.out, if_pos (.inl (by show 16777216 < 0 + bs.length; omega))])
        clear k1
        go_wp2_with fail
        go_ret
        exact ⟨S, by rw [E.out]; rfl, by rw [E.out]; exact HL.out.toAt, HK.out.mono fun k hk => by rw [hk]; exact HS.out, fun k hk => .inl hk⟩
      · have d1 : decide ((16777216 : Int) < (bs.length : Int)) = false := by simp; omega
        by_cases k2 : 1000 ≤ fs.length
        · have d2 : decide ((1000 : Int) ≤ (fs.length : Int)) = true := by simp; omega
          have E : Hid (appendM m nm bs = (3, (hit m).2)) := Lib.hid (by
            unfold appendM
            rw [if_neg (by have := HB0.out; omega), hg.out, if_pos (.inr ⟨rfl, by have := HM'.out; omega⟩)])
          clear k1 k2
          go_wp2_with fail
          go_ret
          exact ⟨S, by rw [E.out]; rfl, by rw [E.out]; exact HL.out.toAt, HK.out.mono fun k hk => by rw [hk]; exact HS.out, fun k hk => .inl hk⟩
        · have d2 : decide ((1000 : Int) ≤ (fs.length : Int)) = false := by simp; omega
          by_cases k3 : R < U + bs.length
          · have d3 : decide ((R : Int) < (U : Int) + (bs.length : Int)) = true := by simp; omega
            have E : Hid (appendM m nm bs = (7, (hit m).2)) := Lib.hid (by
              unfold appendM
              rw [if_neg (by have := HB0.out; omega), hg.out, if_neg (by have := HM'.out; show ¬ (16777216 < 0 + bs.length ∨ _ ∧ 1000 ≤ m.fs.length); omega), if_pos (by have := HU.out; have := HRR.out; omega)])
            clear k1 k2 k3
            go_wp2_with fail
            go_quiet (fail)
            go_wp2_with fail
            go_ret
            exact ⟨S, by rw [E.out]; rfl, by rw [E.out]; exact (HL.out.drew _).toAt, (HK.out.mono fun k hk => by rw [hk]; exact HS.out).trans (T := fun _ => False) (below_keep (Joins.below_draws _ _ _)) (fun _ _ h => h.elim), fun k hk => .inl hk⟩
          · have d3 : decide ((R : Int) < (U : Int) + (bs.length : Int)) = false := by simp; omega
            have E : Hid (appendM m nm bs = (0, { (hit m).2 with fs := insM ⟨nm, bs, 0⟩ m.fs })) := Lib.hid (by
              unfold appendM
              rw [if_neg (by have := HB0.out; omega), hg.out, if_neg (by have := HM'.out; show ¬ (16777216 < 0 + bs.length ∨ _ ∧ 1000 ≤ m.fs.length); omega), if_neg (by have := HU.out; have := HRR.out; omega)])
            have hl0 : 0 + bs.length ≤ 16777216 := by omega
            have HL0 := Lib.hid hl0
            have HC := Lib.hid fun n => create_any (w := W1.drewN n) nm (HL.out.drew n) HNO.out hnm (by omega)
            have HFIT : Hid (U + bs.length ≤ R) := Lib.hid (by omega)
            clear k1 k2 k3 hl0
            go_wp2_with fail
            go_quiet (fail)
            go_wp2_with fail
            refine (HC.out _).mono ?_
            rintro e W4 ⟨blk, b, S4, rfl, hblk, hL4, hk4, hS4, hS4'⟩
            have HL4 := Lib.hid hL4
            have HK4 := Lib.hid ((HK.out.mono (T := S) fun k hk => by rw [hk]; exact HS.out).trans (T := S) ((below_keep (S := S) (Joins.below_draws W1.heap.size W1 _)).trans (T := Hd g M) hk4 fun k _ hk => by
              rcases hk with e | e
              · rw [e]; exact HS.out
              · rcases HL.out.files.map with ⟨h0, _⟩ | ⟨b', hM, hs, _⟩
                · rw [h0] at e; cases e
                · rw [hM] at e; cases e; exact hs) fun _ _ h => h)
            have hbk : ∀ k, ¬ S k ∧ k < W1.heap.size → W4.heap[k]? = W1.heap[k]? := fun k hk => by
              refine (hk4.block k (by simpa using hk.2) fun e => ?_).trans rfl
              rcases e with e | e
              · exact hk.1 (by rw [e]; exact HS.out)
              · rcases HL.out.files.map with ⟨h0, _⟩ | ⟨b', hM, hs, _⟩
                · rw [h0] at e; cases e
                · rw [hM] at e; cases e; exact hk.1 hs
            have HBK : Hid (LiesP W4 (fun k => k < W4.heap.size) Ab (bs.map vb)) := Lib.hid (HB1.out.later hbk fun k hk => by
              have := hk4.size
              have h2 := hk.2
              simp at this
              omega)
            have HSS := Lib.hid hS4
            have HSS' := Lib.hid hS4'
            have HU4 : Hid (used { (hit m).2 with fs := insM ⟨nm, [], 0⟩ (hit m).2.fs : MS }.fs = U) := Lib.hid (by
              show used (insM ⟨nm, [], 0⟩ (hit m).2.fs) = U
              rw [used_insM, HFS2.out, HU.out]
              rfl)
            clear hL4 hk4 hS4 hS4' hbk HC hblk
            obtain ⟨f, hfe⟩ : ∃ f : Fi, f = ⟨nm, blk, .slice none 0 0, [], 0⟩ := ⟨_, rfl⟩
            have HFE := Lib.hid hfe
            have HLEN : Hid (f.bs.length + bs.length ≤ 16777216) := Lib.hid (by rw [hfe]; exact HL0.out)
            rw [← hfe] at HL4
            have HM : Hid (f ∈ insF f fs) := Lib.hid ((insF_mem _ _ _).2 (.inl rfl))
            obtain rfl : blk = f.blk := by rw [hfe]
            clear hfe
            obtain ⟨s0, s1, s2, _, _, y01, _⟩ := HL4.out.facts
            rw [HU4.out] at s1
            clear s2
            obtain ⟨f0, f1, z0, z1⟩ := (HL4.out.files.ok f HM.out).box.facts2
            have hok := HL4.out.files.ok f HM.out
            obtain ⟨Av, cv, hv, hcv, hcvm, _⟩ := own_parts hok.own
            have hown := hok.own
            rw [hv] at f0 hown
            obtain ⟨v5, W5, hr5, hown5, hon5⟩ := run_append_onto (P := Tryz.prog) (w := W4) (m := bs.length) (c := cb) (cs := bs.map vb) 24 24 5 (.int .u8 0) 1 1 Tryz.underlying24 (by kernel_rfl) rfl (by decide)
              (fun u hu => by simp at hu; obtain ⟨_, _, rfl⟩ := hu; rfl) hown (HBK.out.lies (B := W4.heap.size) fun k hk => hk) (by simp) (by have := HLEN.out; unfold maxLen; omega) (by have := HLEN.out; omega) (Nat.zero_le _)
            obtain ⟨A5, c5, rfl, _, _, _⟩ := own_parts hown5
            rw [← hv] at hon5
            rw [← List.map_append] at hown5
            have hgb : g ≠ f.blk := fun e => by
              have h1 := hok.box
              rw [← e] at h1
              exact typed HL4.out.box h1 (by decide)
            have n1 : ¬ f.v.ownBlock = some f.blk := fun e => by
              obtain ⟨_, cs, fr, h1⟩ := hok.bytes e
              exact typed hok.box h1 (by decide)
            have n2 : ¬ f.v.ownBlock = some g := fun e => by
              obtain ⟨_, cs, fr, h1⟩ := hok.bytes e
              exact typed HL4.out.box h1 (by decide)
            obtain ⟨y0, y1, x0, x1⟩ := Box.facts2 (hok.box.keep hon5.keep n1)
            have bg5 := (HL4.out.box.keep hon5.keep n2).setOther (p := ⟨f.blk, 0, none⟩) hgb (.slice A5 (f.bs.length + bs.length) c5)
            have r1 := bg5.cell 1
            have r2 := bg5.free 1
            simp only [List.getElem?_cons_succ, List.getElem?_cons_zero] at r1
            have HW := Lib.hid (HL4.out.wrote HM.out hown5 hon5 HLEN.out HB8.out (by rw [HU4.out]; show U + bs.length ≤ (hit m).2.room; rw [HRM2.out, ← HRR.out]; exact HFIT.out))
            have HR5 := Lib.hid hr5
            obtain ⟨n5, hn5⟩ : ∃ n, n = f.bs.length := ⟨_, rfl⟩
            obtain ⟨b5, hb5⟩ : ∃ b, b = f.blk := ⟨_, rfl⟩
            rw [← hn5] at f0 hcv HW HR5 r1 r2
            rw [← hb5] at f0 f1 z0 z1 y0 y1 x0 x1 r1 r2 hgb HW ⊢
            have HB5 := Lib.hid hb5
            clear hown hown5 hon5 hr5 hok hv n1 n2 bg5 hn5 hb5
            rw [HU4.out] at HW r1
            go_wp2_with (at_builtin; refine wpList_append_run rfl _ _ 24 rfl rfl rfl HR5.out ?_)
            go_ret
            obtain ⟨S', hA, hK5, hS1, hS2⟩ := HW.out
            have hs1 : w.heap.size ≤ W1.heap.size := HK.out.size
            have hsd : ∀ k, S4 k → S k ∨ w.heap.size ≤ k := fun k hk => (HSS'.out k hk).imp id fun h => by simp at h; omega
            refine ⟨S', by rw [E.out]; rfl, ?_, HK4.out.trans hK5 fun i hi h4 => (hsd i h4).elim id fun h => absurd hi (Nat.not_lt_of_le h), fun k hk => (hS2 k hk).elim (hsd k) fun h => .inr (Nat.le_trans HK4.out.size h)⟩
            rw [E.out]
            have hfe := HFE.out
            have e : put1 (insM ⟨nm, [], 0⟩ (hit m).2.fs) ⟨f.nm, f.bs ++ bs, f.syn⟩ = insM ⟨nm, bs, 0⟩ m.fs := by
              rw [HFS2.out, hfe]
              exact put_ins (f := ⟨nm, [], 0⟩) (f' := ⟨nm, bs, 0⟩) rfl (get_none.1 hg.out)
            have hA' := hA
            rw [e] at hA'
            exact hA'
    · obtain ⟨hm, hnmf⟩ := look_mem hfo
      rw [hfo] at hlk
      have hg : Hid (get m.fs nm = some f.m) := Lib.hid (by rw [HT.out, look_get, hfo]; rfl)
      clear hfo
      have hlk' : Sem.run Tryz.prog (Instr.lookup 52 (.map M) (.string nm) false) W1 = .ok (.pointer (some ⟨f.blk, 0, none⟩)) W1 := hlk
      have HM := Lib.hid hm
      have HNM := Lib.hid hnmf
      obtain ⟨f0, _, _, _⟩ := (HL.out.files.ok f hm).box.facts2
      obtain ⟨Av, cv, hv, hcv, hcvm, _⟩ := own_parts (HL.out.files.ok f hm).own
      have hfl := (HL.out.files.ok f hm).len
      rw [hv] at f0
      obtain ⟨L, hL⟩ : ∃ L, L = f.bs.length := ⟨_, rfl⟩
      obtain ⟨b0, hb0⟩ : ∃ b, b = f.blk := ⟨_, rfl⟩
      rw [← hL] at f0 hcv hfl
      rw [← hb0] at f0 hlk'
      have HLL := Lib.hid hL
      have HB00 := Lib.hid hb0
      clear hlk hm hnmf hv hL hb0
      by_cases k1 : 16777216 < L + bs.length
      · have d1 : decide ((16777216 : Int) < (L : Int) + (bs.length : Int)) = true := by simp; omega
        have E : Hid (appendM m nm bs = (3, (hit m).2)) := Lib.hid (by
          unfold appendM
          rw [if_neg (by have := HB0.out; omega), hg.out, if_pos (.inl (by show 16777216 < f.bs.length + bs.length; rw [← HLL.out]; omega))])
        clear k1
        go_wp2_with fail
        go_ret
        exact ⟨S, by rw [E.out]; rfl, by rw [E.out]; exact HL.out.toAt, HK.out.mono fun k hk => by rw [hk]; exact HS.out, fun k hk => .inl hk⟩
      · have d1 : decide ((16777216 : Int) < (L : Int) + (bs.length : Int)) = false := by simp; omega
        by_cases k3 : R < U + bs.length
        · have d3 : decide ((R : Int) < (U : Int) + (bs.length : Int)) = true := by simp; omega
          have E : Hid (appendM m nm bs = (7, (hit m).2)) := Lib.hid (by
            unfold appendM
            rw [if_neg (by have := HB0.out; omega), hg.out, if_neg (by show ¬ (16777216 < f.bs.length + bs.length ∨ false = true ∧ 1000 ≤ m.fs.length); rw [← HLL.out]; simp; omega), if_pos (by have := HU.out; have := HRR.out; omega)])
          clear k1 k3
          go_wp2_with fail
          go_quiet (fail)
          go_wp2_with fail
          go_ret
          exact ⟨S, by rw [E.out]; rfl, by rw [E.out]; exact (HL.out.drew _).toAt, (HK.out.mono fun k hk => by rw [hk]; exact HS.out).trans (T := fun _ => False) (below_keep (Joins.below_draws _ _ _)) (fun _ _ h => h.elim), fun k hk => .inl hk⟩
        · have d3 : decide ((R : Int) < (U : Int) + (bs.length : Int)) = false := by simp; omega
          have E : Hid (appendM m nm bs = (0, { (hit m).2 with fs := put1 m.fs ⟨f.nm, f.bs ++ bs, f.syn⟩ })) := Lib.hid (by
            unfold appendM
            rw [if_neg (by have := HB0.out; omega), hg.out, if_neg (by show ¬ (16777216 < f.bs.length + bs.length ∨ false = true ∧ 1000 ≤ m.fs.length); rw [← HLL.out]; simp; omega), if_neg (by have := HU.out; have := HRR.out; omega)]
            rfl)
          have HLEN : Hid (f.bs.length + bs.length ≤ 16777216) := Lib.hid (by rw [← HLL.out]; omega)
          have HFIT : Hid (U + bs.length ≤ R) := Lib.hid (by omega)
          clear k1 k3
          go_wp2_with fail
          go_quiet (fail)
          rename_i nq
          have HL4 := Lib.hid (HL.out.drew nq)
          have HK4 : Hid (Keep S w (W1.drewN nq)) := Lib.hid ((HK.out.mono (T := S) fun k hk => by rw [hk]; exact HS.out).trans (T := S) (below_keep (S := S) (Joins.below_draws W1.heap.size W1 nq)) fun _ _ h => h)
          have HBK : Hid (LiesP (W1.drewN nq) (fun k => k < (W1.drewN nq).heap.size) Ab (bs.map vb)) := Lib.hid (HB1.out.later (fun k hk => by simp) fun k hk => by simpa using hk.2)
          rw [HB00.out]
          clear p0 p1 p2 f0 hlk' hlen hcv hcvm hfl
          generalize W1.drewN nq = W4 at HL4 HK4 HBK ⊢
          have HU4 : Hid (used (hit m).2.fs = U) := Lib.hid (by rw [HFS2.out, HU.out])
          obtain ⟨s0, s1, s2, _, _, y01, _⟩ := HL4.out.facts
          rw [HU4.out] at s1
          clear s2
          obtain ⟨f0, f1, z0, z1⟩ := (HL4.out.files.ok f HM.out).box.facts2
          have hok := HL4.out.files.ok f HM.out
          obtain ⟨Av, cv, hv, hcv, hcvm, _⟩ := own_parts hok.own
          have hown := hok.own
          rw [hv] at f0 hown
          obtain ⟨v5, W5, hr5, hown5, hon5⟩ := run_append_onto (P := Tryz.prog) (w := W4) (m := bs.length) (c := cb) (cs := bs.map vb) 24 24 5 (.int .u8 0) 1 1 Tryz.underlying24 (by kernel_rfl) rfl (by decide)
            (fun u hu => by simp at hu; obtain ⟨_, _, rfl⟩ := hu; rfl) hown (HBK.out.lies (B := W4.heap.size) fun k hk => hk) (by simp) (by have := HLEN.out; unfold maxLen; omega) (by have := HLEN.out; omega) (Nat.zero_le _)
          obtain ⟨A5, c5, rfl, _, _, _⟩ := own_parts hown5
          rw [← hv] at hon5
          rw [← List.map_append] at hown5
          have hgb : g ≠ f.blk := fun e => by
            have h1 := hok.box
            rw [← e] at h1
            exact typed HL4.out.box h1 (by decide)
          have n1 : ¬ f.v.ownBlock = some f.blk := fun e => by
            obtain ⟨_, cs, fr, h1⟩ := hok.bytes e
            exact typed hok.box h1 (by decide)
          have n2 : ¬ f.v.ownBlock = some g := fun e => by
            obtain ⟨_, cs, fr, h1⟩ := hok.bytes e
            exact typed HL4.out.box h1 (by decide)
          obtain ⟨y0, y1, x0, x1⟩ := Box.facts2 (hok.box.keep hon5.keep n1)
          have bg5 := (HL4.out.box.keep hon5.keep n2).setOther (p := ⟨f.blk, 0, none⟩) hgb (.slice A5 (f.bs.length + bs.length) c5)
          have r1 := bg5.cell 1
          have r2 := bg5.free 1
          simp only [List.getElem?_cons_succ, List.getElem?_cons_zero] at r1
          have HW := Lib.hid (HL4.out.wrote HM.out hown5 hon5 HLEN.out HB8.out (by rw [HU4.out]; rw [HRM2.out, ← HRR.out]; exact HFIT.out))
          have HR5 := Lib.hid hr5
          obtain ⟨n5, hn5⟩ : ∃ n, n = f.bs.length := ⟨_, rfl⟩
          obtain ⟨b5, hb5⟩ : ∃ b, b = f.blk := ⟨_, rfl⟩
          rw [← hn5] at f0 hcv HW HR5 r1 r2
          rw [← hb5] at f0 f1 z0 z1 y0 y1 x0 x1 r1 r2 hgb HW ⊢
          have HB5 := Lib.hid hb5
          clear hown hown5 hon5 hr5 hok hv n1 n2 bg5 hn5 hb5
          rw [HU4.out] at HW r1
          go_wp2_with (at_builtin; refine wpList_append_run rfl _ _ 24 rfl rfl rfl HR5.out ?_)
          go_ret
          obtain ⟨S', hA, hK5, hS1, hS2⟩ := HW.out
          refine ⟨S', by rw [E.out]; rfl, ?_, HK4.out.trans hK5 fun _ _ h => h, fun k hk => (hS2 k hk).imp id fun h => Nat.le_trans HK4.out.size h⟩
          rw [E.out]
          have hA' := hA
          rw [HFS2.out] at hA'
          exact hA'
  · have E : Hid (appendM m nm bs = (bad m [nm], (hit m).2)) := Lib.hid (by unfold appendM; rw [if_pos hb0])
    have d1 : ((bad m [nm] : Int) != 0) = true := by rw [bne_iff_ne]; omega
    clear hk1 hL1 HF hb0
    go_wp2_with fail
    go_ret
    exact ⟨S, by rw [E.out]; rfl, by rw [E.out]; exact HL.out.toAt, HK.out.mono fun k hk => by rw [hk]; exact HS.out, fun k hk => .inl hk⟩
end
end Go.Proofs.YtnbknihaefkllaaGreatDoor.Dk
/- What crash of a file answers. -/
namespace Go.Proofs.YtnbknihaefkllaaGreatDoor.Dk
set_option linter.unusedVariables false
set_option linter.unusedSimpArgs false
open Go.RowKit Go.Maps Lift Ik

def crashed (f : Fi) (k : Nat) (v : Value) : Fi := ⟨f.nm, f.blk, v, f.bs.take (f.syn + k), (f.bs.take (f.syn + k)).length⟩
section
variable {w w' : World} {g : Nat} {S S' T : Nat → Prop}
set_option maxRecDepth 100000 in
set_option maxHeartbeats 1000000 in
theorem fcrash_any (f : Fi) (k : Nat) (hk : k ≤ 9223372036854775807) (h : f.ok w S) :
    Calls Tryz.prog (38) #[.pointer (some ⟨f.blk, 0, none⟩), .int .i64 (k : Int)] w fun e w' => ∃ v', e = .returned (.int .i64 ((f.bs.length - (f.syn + k) : Nat) : Int)) ∧
      (crashed f k v').ok w' (Gr S w w') ∧ Keep (· = f.blk) w w' ∧ ∀ j, v'.ownBlock = some j → f.v.ownBlock = some j ∨ w.heap.size ≤ j := by
  obtain ⟨f0, f1, z0, z1⟩ := h.box.facts2
  obtain ⟨Av, cv, hv, hcv, hcvm, hlies⟩ := own_parts h.own
  have hsyn := h.syn
  have hlen := h.len
  have H := Lib.hid h
  rw [hv] at f0
  obtain ⟨b, hb⟩ : ∃ b, b = f.blk := ⟨_, rfl⟩
  obtain ⟨n, hn⟩ : ∃ n, n = f.bs.length := ⟨_, rfl⟩
  obtain ⟨s, hs⟩ : ∃ s, s = f.syn := ⟨_, rfl⟩
  rw [← hn] at f0 hcv hsyn hlen
  rw [← hs] at f1 hsyn
  rw [← hb] at f0 f1 z0 z1 ⊢
  obtain ⟨l, hl⟩ : ∃ l, l = n - (s + k) := ⟨_, rfl⟩
  have hmax : max ((n : Int) - (s : Int) - (k : Int)) 0 = (l : Int) := by omega
  have HL := Lib.hid hl
  have HN := Lib.hid hn
  have HS := Lib.hid hs
  have HB := Lib.hid hb
  have HV := Lib.hid hv
  have hown := h.own
  rw [hv] at hown
  have hnone : Hid (Av = none → f.bs.length = 0 ∧ cv = 0) := Lib.hid fun e => by subst e; exact own_none hown
  have H0 := Lib.hid hlies
  clear h hv hlies hb hn hs hown
  by_cases k0 : l = 0
  · subst k0
    clear hl
    go_enter Tryz.func38, Tryz.ntmps38
    go_wp2_with fail
    go_quiet (fail)
    go_wp2_with fail
    go_ret
    have hb := HB.out
    have hn := HN.out
    have hs := HS.out
    have htk : f.bs.take (f.syn + k) = f.bs := List.take_of_length_le (by have := HL.out; omega)
    have key : ∀ nq : Nat, (crashed f k f.v).ok ((w.drewN nq).setCell ⟨b, 1, none⟩ (.int .i64 (n : Int))) (Gr S w ((w.drewN nq).setCell ⟨b, 1, none⟩ (.int .i64 (n : Int)))) ∧ Keep (· = f.blk) w ((w.drewN nq).setCell ⟨b, 1, none⟩ (.int .i64 (n : Int))) := by
      intro nq
      have hd := Joins.below_draws w.heap.size w nq
      have hk1 : Keep (· = f.blk) w ((w.drewN nq).setCell ⟨b, 1, none⟩ (.int .i64 (n : Int))) := (below_keep hd).setCell (p := ⟨b, 1, none⟩) (.inr hb) _
      refine ⟨?_, hk1⟩
      unfold crashed
      rw [htk]
      refine ⟨?_, own_keep H.out.own hk1 (fun j hj => syn_not (f := f) H.out j hj), .inl H.out.sb, fun j hj => .inl (H.out.sv j hj), Nat.le_refl _, H.out.len, H.out.byte, H.out.nm⟩
      rw [← hb, ← hn]
      exact (show Box (w.drewN nq) b Ty.file [f.v, .int .i64 (f.syn : Int)] by rw [hb]; exact H.out.box.at_block (by simp)).set 1 _
    exact ⟨f.v, by have := HL.out; rw [show f.bs.length - (f.syn + k) = 0 by omega]; rfl, (key _).1, (key _).2.mono fun i hi => hi.trans hb.symm, fun j hj => .inl hj⟩
  · have d1 : decide ((0 : Int) < (l : Int)) = true := by simp; omega
    clear hl
    go_enter Tryz.func38, Tryz.ntmps38
    go_wp2_with fail
    go_quiet (fail)
    rename_i nq
    have BX : Hid (Box (w.drewN nq) b Ty.file [.slice Av n cv, .int .i64 (s : Int)]) := Lib.hid ((show Box w b Ty.file [.slice Av n cv, .int .i64 (s : Int)] by rw [HB.out, HN.out, ← HV.out, HS.out]; exact H.out.box).at_block (by simp))
    have HLS : Hid (Lies (w.drewN nq) (w.drewN nq).heap.size Av (f.bs.map vb)) := Lib.hid ((H0.out.below (Joins.below_draws _ w nq)).up (by simp))
    have HD : Hid (Below w.heap.size w (w.drewN nq)) := Lib.hid (Joins.below_draws _ w nq)
    clear f0 f1 z0 z1
    generalize w.drewN nq = W at BX HLS HD ⊢
    obtain ⟨f0, f1, z0, z1⟩ := BX.out.facts2
    have hsl : l ≤ n := by have := HL.out; omega
    obtain ⟨q, hq⟩ : ∃ q, q = n - l := ⟨_, rfl⟩
    have hqi : (n : Int) - (l : Int) = (q : Int) := by omega
    have hqw : IntKind.i64.wrap (q : Int) = (q : Int) := by rw [IntKind.wrap_i64]; omega
    have hup := upto_at Av n cv q (by omega) hcv hcvm
    have hxl : (f.bs.take (f.syn + k)).length = q := by have := HL.out; have := HN.out; have := HS.out; rw [List.length_take]; omega
    have hcl := clone_at Av cv (f.bs.take (f.syn + k)) W.drew (HLS.out.front (by rw [List.map_take]; exact List.take_prefix _ _)) (by rw [hxl]; omega) (fun e => by have := hnone.out e; have := HN.out; omega)
    rw [hxl] at hcl
    have HCL := Lib.hid hcl
    have HXL := Lib.hid hxl
    have HQ := Lib.hid hq
    clear hcl hxl hq
    go_wp2_with fail
    refine wp_region_held_drew (S := fun w' => Hid (Keep (fun k => k = b) W w')) (by kernel_rfl) (Lib.hid (Keep.refl _ _).drew) (fun hS => ?_)
    refine wpAnyH_take (i := 0) (v := ?_) rfl (by kernel_rfl) (by kernel_rfl) (by kernel_rfl) (fun _ _ _ h => h) (Or.inl ⟨by rfl, ?_⟩) hS ?_
    rotate_left
    · intro w hw
      go_simp
      try with_reducible rfl
    try simp only [Act.put, List.getElem_toArray, List.getElem_cons_succ, List.getElem_cons_zero, List.setIfInBounds_toArray, List.set_cons_zero, List.set_cons_succ]
    refine wpAnyH_take (i := 1) (v := ?_) rfl (by kernel_rfl) (by kernel_rfl) (by kernel_rfl) (fun _ _ _ h => h) (Or.inl ⟨by rfl, ?_⟩) hS ?_
    rotate_left
    · intro w hw
      go_simp
      try with_reducible rfl
    try simp only [Act.put, List.getElem_toArray, List.getElem_cons_succ, List.getElem_cons_zero, List.setIfInBounds_toArray, List.set_cons_zero, List.set_cons_succ]
    refine wpAnyH_take (i := 2) (v := ?_) rfl (by kernel_rfl) (by kernel_rfl) (by kernel_rfl) (fun _ _ _ h => h) (Or.inl ⟨by rfl, ?_⟩) hS ?_
    rotate_left
    · intro w hw
      go_simp
      try with_reducible rfl
    try simp only [Act.put, List.getElem_toArray, List.getElem_cons_succ, List.getElem_cons_zero, List.setIfInBounds_toArray, List.set_cons_zero, List.set_cons_succ]
    refine wpAnyH_take (i := 3) (v := ?_) rfl (by kernel_rfl) (by kernel_rfl) (by kernel_rfl) (fun _ _ _ h => h) (Or.inl ⟨by rfl, ?_⟩) hS ?_
    rotate_left
    · intro w hw
      go_simp
      try with_reducible rfl
    try simp only [Act.put, List.getElem_toArray, List.getElem_cons_succ, List.getElem_cons_zero, List.setIfInBounds_toArray, List.set_cons_zero, List.set_cons_succ]
    refine wpAnyH_take (i := 5) (v := ?_) rfl (by kernel_rfl) (by kernel_rfl) (by kernel_rfl) (fun _ _ _ h => h) (Or.inl ⟨by rfl, ?_⟩) hS ?_
    rotate_left
    · intro w hw
      go_simp
      try with_reducible rfl
    try simp only [Act.put, List.getElem_toArray, List.getElem_cons_succ, List.getElem_cons_zero, List.setIfInBounds_toArray, List.set_cons_zero, List.set_cons_succ]
    refine wpAnyH_take (i := 6) (v := ?_) rfl (by kernel_rfl) (by kernel_rfl) (by kernel_rfl) (fun _ _ _ h => h) (Or.inl ⟨by rfl, ?_⟩) hS ?_
    rotate_left
    · intro w hw
      go_simp
      try with_reducible rfl
    try simp only [Act.put, List.getElem_toArray, List.getElem_cons_succ, List.getElem_cons_zero, List.setIfInBounds_toArray, List.set_cons_zero, List.set_cons_succ]
    refine wpAnyH_take (i := 7) (v := ?_) rfl (by kernel_rfl) (by kernel_rfl) (by kernel_rfl) (fun _ _ _ h => h) (Or.inl ⟨by rfl, ?_⟩) hS ?_
    rotate_left
    · intro w hw
      go_simp
      try with_reducible rfl
    try simp only [Act.put, List.getElem_toArray, List.getElem_cons_succ, List.getElem_cons_zero, List.setIfInBounds_toArray, List.set_cons_zero, List.set_cons_succ]
    refine wpAnyH_take (i := 10) (v := ?_) rfl (by kernel_rfl) (by kernel_rfl) (by kernel_rfl) (fun _ _ _ h => h) (Or.inl ⟨by rfl, ?_⟩) hS ?_
    rotate_left
    · intro w hw
      go_simp
      try with_reducible rfl
    try simp only [Act.put, List.getElem_toArray, List.getElem_cons_succ, List.getElem_cons_zero, List.setIfInBounds_toArray, List.set_cons_zero, List.set_cons_succ]
    refine wpAnyH_ready (rs := [4, 8]) (by kernel_rfl) (by simp) ?_
    refine AllReadyH.cons rfl (fun K hK => ?_) (AllReadyH.cons rfl (fun K hK => ?_) AllReadyH.nil)
    · go_simp
      refine hK.out _ _ hS (fun hS => ?_)
      clear hK K
      try simp only [Act.put, List.getElem_toArray, List.getElem_cons_succ, List.getElem_cons_zero, List.setIfInBounds_toArray, List.set_cons_zero, List.set_cons_succ]
      refine wpAnyH_ready (rs := [8]) (by kernel_rfl) (by simp) ?_
      refine AllReadyH.cons rfl (fun K hK => ?_) AllReadyH.nil
      go_simp
      refine hK.out _ _ hS (fun hS => ?_)
      clear hK K
      try simp only [Act.put, List.getElem_toArray, List.getElem_cons_succ, List.getElem_cons_zero, List.setIfInBounds_toArray, List.set_cons_zero, List.set_cons_succ]
      refine wpAnyH_take (i := 9) (v := ?_) rfl (by kernel_rfl) (by kernel_rfl) (by kernel_rfl) (fun _ _ _ h => h) (Or.inl ⟨by rfl, ?_⟩) hS ?_
      rotate_left
      · intro w hw
        go_simp
        try with_reducible rfl
      try simp only [Act.put, List.getElem_toArray, List.getElem_cons_succ, List.getElem_cons_zero, List.setIfInBounds_toArray, List.set_cons_zero, List.set_cons_succ]
      refine wpAnyH_take (i := 11) (v := ?_) rfl (by kernel_rfl) (by kernel_rfl) (by kernel_rfl) (fun _ _ _ h => h) (Or.inl ⟨by rfl, ?_⟩) hS ?_
      rotate_left
      · intro w hw
        go_simp
        try with_reducible rfl
      try simp only [Act.put, List.getElem_toArray, List.getElem_cons_succ, List.getElem_cons_zero, List.setIfInBounds_toArray, List.set_cons_zero, List.set_cons_succ]
      refine wpAnyH_take (i := 12) (v := ?_) rfl (by kernel_rfl) (by kernel_rfl) (by kernel_rfl) (fun _ _ _ h => h) (Or.inl ⟨by rfl, ?_⟩) hS ?_
      rotate_left
      · intro w hw
        go_simp
        try with_reducible rfl
      try simp only [Act.put, List.getElem_toArray, List.getElem_cons_succ, List.getElem_cons_zero, List.setIfInBounds_toArray, List.set_cons_zero, List.set_cons_succ]
      refine wpAnyH_ready (rs := [13]) (by kernel_rfl) (by simp) ?_
      refine AllReadyH.cons rfl (fun K hK => ?_) AllReadyH.nil
      go_simp
      refine (HCL.out).mono ?_
      intro e W2 hm2
      obtain ⟨v2, rfl, hown2, hb2⟩ := hm2
      have hp2 := hown2
      rw [HXL.out] at hp2
      obtain ⟨A2, c2, rfl, _, _, _⟩ := own_parts hp2
      obtain ⟨g0, g1, y0, y1⟩ := Box.facts2 ((show Box W.drew b Ty.file [.slice Av n cv, .int .i64 (s : Int)] from BX.out).below hb2 (by simpa using BX.out.lt))
      have H2 : Hid (Keep (fun k => k = b) W W2) := Lib.hid (hS.out.trans (T := fun _ => False) (below_keep hb2) fun _ _ h => h.elim)
      have HB2 : Hid (Below W.heap.size W W2) := Lib.hid ((Below.refl _ _).drew.trans hb2)
      have HO2 := Lib.hid hown2
      clear hown2 hb2
      go_wp2_with fail
      refine hK.out _ _ H2 (fun hS => ?_)
      clear hK K
      try simp only [Act.put, List.getElem_toArray, List.getElem_cons_succ, List.getElem_cons_zero, List.setIfInBounds_toArray, List.set_cons_zero, List.set_cons_succ]
      refine wpAnyH_take (i := 14) (v := ?_) rfl (by kernel_rfl) (by kernel_rfl) (by kernel_rfl) (fun _ _ _ h => h) (Or.inl ⟨by rfl, ?_⟩) hS ?_
      rotate_left
      · intro w hw
        go_simp
        try with_reducible rfl
      try simp only [Act.put, List.getElem_toArray, List.getElem_cons_succ, List.getElem_cons_zero, List.setIfInBounds_toArray, List.set_cons_zero, List.set_cons_succ]
      refine wpAnyH_take (i := 15) (v := ?_) rfl (by kernel_rfl) (by kernel_rfl) (by kernel_rfl) (fun _ _ _ h => h) (Or.inl ⟨by rfl, ?_⟩) hS ?_
      rotate_left
      · intro w hw
        go_simp
        try with_reducible rfl
      try simp only [Act.put, List.getElem_toArray, List.getElem_cons_succ, List.getElem_cons_zero, List.setIfInBounds_toArray, List.set_cons_zero, List.set_cons_succ]
      refine wpAnyH_ready (rs := [16]) (by kernel_rfl) (by simp) ?_
      refine AllReadyH.cons rfl (fun K hK => ?_) AllReadyH.nil
      go_simp
      refine hK.out _ _ (Lib.hid (H2.out.setCell (p := ⟨b, 0, none⟩) (.inr rfl) _)) (fun hS => ?_)
      clear hK K
      try simp only [Act.put, List.getElem_toArray, List.getElem_cons_succ, List.getElem_cons_zero, List.setIfInBounds_toArray, List.set_cons_zero, List.set_cons_succ]
      refine wpAnyH_done (by kernel_rfl) ?_ _
      go_wp2_with fail
      go_ret
      have hb := HB.out
      have hn := HN.out
      have hs := HS.out
      have hl := HL.out
      have hq := HQ.out
      have hxl := HXL.out
      have hd := HD.out
      have hb2 := HB2.out
      have ho2 := HO2.out
      have hbx : Box W2 b Ty.file [.slice Av n cv, .int .i64 (s : Int)] := BX.out.below hb2 BX.out.lt
      have hk2 : Keep (· = f.blk) W2 ((W2.setCell ⟨b, 0, none⟩ (.slice A2 q c2)).setCell ⟨b, 1, none⟩ (.int .i64 (q : Int))) := ((Keep.refl _ W2).setCell (p := ⟨b, 0, none⟩) (.inr hb) _).setCell (p := ⟨b, 1, none⟩) (.inr hb) _
      have hsz : ((W2.setCell ⟨b, 0, none⟩ (.slice A2 q c2)).setCell ⟨b, 1, none⟩ (.int .i64 (q : Int))).heap.size = W2.heap.size := by simp [World.setCell]
      have hpl : ∀ j, (Value.slice A2 q c2).ownBlock = some j → W.heap.size ≤ j ∧ j < W2.heap.size := fun j hj => ho2.lt j hj
      refine ⟨.slice A2 q c2, by rw [show f.bs.length - (f.syn + k) = l by omega]; rfl, ?_, (((below_keep (S := (· = f.blk)) hd).trans (T := fun _ => False) (below_keep hb2) fun _ _ h => h.elim).trans hk2 fun _ _ h => h).mono fun i hi => hi.trans hb.symm, fun j hj => .inr (Nat.le_trans hd.size (hpl j hj).1)⟩
      refine ⟨?_, ?_, .inl H.out.sb, fun j hj => .inr ⟨Nat.le_trans hd.size (hpl j hj).1, by rw [hsz]; exact (hpl j hj).2⟩, Nat.le_refl _, ?_, fun x hx => H.out.byte x (List.mem_of_mem_take hx), H.out.nm⟩
      · show Box _ f.blk _ [_, .int .i64 (((f.bs.take (f.syn + k)).length : Nat) : Int)]
        rw [hxl, ← hb]
        exact (hbx.set 0 _).set 1 _
      · refine own_keep (Joins.ownsRow_le ho2 (Nat.zero_le _)) hk2 fun j hj e => ?_
        have h1 := (hpl j hj).1
        have h2 := H.out.box.lt
        have h3 := hd.size
        omega
      · show (f.bs.take (f.syn + k)).length ≤ _
        rw [hxl]
        omega
    · go_simp
      refine hK.out _ _ hS (fun hS => ?_)
      clear hK K
      try simp only [Act.put, List.getElem_toArray, List.getElem_cons_succ, List.getElem_cons_zero, List.setIfInBounds_toArray, List.set_cons_zero, List.set_cons_succ]
      refine wpAnyH_take (i := 9) (v := ?_) rfl (by kernel_rfl) (by kernel_rfl) (by kernel_rfl) (fun _ _ _ h => h) (Or.inl ⟨by rfl, ?_⟩) hS ?_
      rotate_left
      · intro w hw
        go_simp
        try with_reducible rfl
      try simp only [Act.put, List.getElem_toArray, List.getElem_cons_succ, List.getElem_cons_zero, List.setIfInBounds_toArray, List.set_cons_zero, List.set_cons_succ]
      refine wpAnyH_take (i := 11) (v := ?_) rfl (by kernel_rfl) (by kernel_rfl) (by kernel_rfl) (fun _ _ _ h => h) (Or.inl ⟨by rfl, ?_⟩) hS ?_
      rotate_left
      · intro w hw
        go_simp
        try with_reducible rfl
      try simp only [Act.put, List.getElem_toArray, List.getElem_cons_succ, List.getElem_cons_zero, List.setIfInBounds_toArray, List.set_cons_zero, List.set_cons_succ]
      refine wpAnyH_ready (rs := [4]) (by kernel_rfl) (by simp) ?_
      refine AllReadyH.cons rfl (fun K hK => ?_) AllReadyH.nil
      go_simp
      refine hK.out _ _ hS (fun hS => ?_)
      clear hK K
      try simp only [Act.put, List.getElem_toArray, List.getElem_cons_succ, List.getElem_cons_zero, List.setIfInBounds_toArray, List.set_cons_zero, List.set_cons_succ]
      refine wpAnyH_take (i := 12) (v := ?_) rfl (by kernel_rfl) (by kernel_rfl) (by kernel_rfl) (fun _ _ _ h => h) (Or.inl ⟨by rfl, ?_⟩) hS ?_
      rotate_left
      · intro w hw
        go_simp
        try with_reducible rfl
      try simp only [Act.put, List.getElem_toArray, List.getElem_cons_succ, List.getElem_cons_zero, List.setIfInBounds_toArray, List.set_cons_zero, List.set_cons_succ]
      refine wpAnyH_ready (rs := [13]) (by kernel_rfl) (by simp) ?_
      refine AllReadyH.cons rfl (fun K hK => ?_) AllReadyH.nil
      go_simp
      refine (HCL.out).mono ?_
      intro e W2 hm2
      obtain ⟨v2, rfl, hown2, hb2⟩ := hm2
      have hp2 := hown2
      rw [HXL.out] at hp2
      obtain ⟨A2, c2, rfl, _, _, _⟩ := own_parts hp2
      obtain ⟨g0, g1, y0, y1⟩ := Box.facts2 ((show Box W.drew b Ty.file [.slice Av n cv, .int .i64 (s : Int)] from BX.out).below hb2 (by simpa using BX.out.lt))
      have H2 : Hid (Keep (fun k => k = b) W W2) := Lib.hid (hS.out.trans (T := fun _ => False) (below_keep hb2) fun _ _ h => h.elim)
      have HB2 : Hid (Below W.heap.size W W2) := Lib.hid ((Below.refl _ _).drew.trans hb2)
      have HO2 := Lib.hid hown2
      clear hown2 hb2
      go_wp2_with fail
      refine hK.out _ _ H2 (fun hS => ?_)
      clear hK K
      try simp only [Act.put, List.getElem_toArray, List.getElem_cons_succ, List.getElem_cons_zero, List.setIfInBounds_toArray, List.set_cons_zero, List.set_cons_succ]
      refine wpAnyH_take (i := 14) (v := ?_) rfl (by kernel_rfl) (by kernel_rfl) (by kernel_rfl) (fun _ _ _ h => h) (Or.inl ⟨by rfl, ?_⟩) hS ?_
      rotate_left
      · intro w hw
        go_simp
        try with_reducible rfl
      try simp only [Act.put, List.getElem_toArray, List.getElem_cons_succ, List.getElem_cons_zero, List.setIfInBounds_toArray, List.set_cons_zero, List.set_cons_succ]
      refine wpAnyH_take (i := 15) (v := ?_) rfl (by kernel_rfl) (by kernel_rfl) (by kernel_rfl) (fun _ _ _ h => h) (Or.inl ⟨by rfl, ?_⟩) hS ?_
      rotate_left
      · intro w hw
        go_simp
        try with_reducible rfl
      try simp only [Act.put, List.getElem_toArray, List.getElem_cons_succ, List.getElem_cons_zero, List.setIfInBounds_toArray, List.set_cons_zero, List.set_cons_succ]
      refine wpAnyH_ready (rs := [16]) (by kernel_rfl) (by simp) ?_
      refine AllReadyH.cons rfl (fun K hK => ?_) AllReadyH.nil
      go_simp
      refine hK.out _ _ (Lib.hid (H2.out.setCell (p := ⟨b, 0, none⟩) (.inr rfl) _)) (fun hS => ?_)
      clear hK K
      try simp only [Act.put, List.getElem_toArray, List.getElem_cons_succ, List.getElem_cons_zero, List.setIfInBounds_toArray, List.set_cons_zero, List.set_cons_succ]
      refine wpAnyH_done (by kernel_rfl) ?_ _
      go_wp2_with fail
      go_ret
      have hb := HB.out
      have hn := HN.out
      have hs := HS.out
      have hl := HL.out
      have hq := HQ.out
      have hxl := HXL.out
      have hd := HD.out
      have hb2 := HB2.out
      have ho2 := HO2.out
      have hbx : Box W2 b Ty.file [.slice Av n cv, .int .i64 (s : Int)] := BX.out.below hb2 BX.out.lt
      have hk2 : Keep (· = f.blk) W2 ((W2.setCell ⟨b, 0, none⟩ (.slice A2 q c2)).setCell ⟨b, 1, none⟩ (.int .i64 (q : Int))) := ((Keep.refl _ W2).setCell (p := ⟨b, 0, none⟩) (.inr hb) _).setCell (p := ⟨b, 1, none⟩) (.inr hb) _
      have hsz : ((W2.setCell ⟨b, 0, none⟩ (.slice A2 q c2)).setCell ⟨b, 1, none⟩ (.int .i64 (q : Int))).heap.size = W2.heap.size := by simp [World.setCell]
      have hpl : ∀ j, (Value.slice A2 q c2).ownBlock = some j → W.heap.size ≤ j ∧ j < W2.heap.size := fun j hj => ho2.lt j hj
      refine ⟨.slice A2 q c2, by rw [show f.bs.length - (f.syn + k) = l by omega]; rfl, ?_, (((below_keep (S := (· = f.blk)) hd).trans (T := fun _ => False) (below_keep hb2) fun _ _ h => h.elim).trans hk2 fun _ _ h => h).mono fun i hi => hi.trans hb.symm, fun j hj => .inr (Nat.le_trans hd.size (hpl j hj).1)⟩
      refine ⟨?_, ?_, .inl H.out.sb, fun j hj => .inr ⟨Nat.le_trans hd.size (hpl j hj).1, by rw [hsz]; exact (hpl j hj).2⟩, Nat.le_refl _, ?_, fun x hx => H.out.byte x (List.mem_of_mem_take hx), H.out.nm⟩
      · show Box _ f.blk _ [_, .int .i64 (((f.bs.take (f.syn + k)).length : Nat) : Int)]
        rw [hxl, ← hb]
        exact (hbx.set 0 _).set 1 _
      · refine own_keep (Joins.ownsRow_le ho2 (Nat.zero_le _)) hk2 fun j hj e => ?_
        have h1 := (hpl j hj).1
        have h2 := H.out.box.lt
        have h3 := hd.size
        omega
      · show (f.bs.take (f.syn + k)).length ≤ _
        rw [hxl]
        omega
end
end Go.Proofs.YtnbknihaefkllaaGreatDoor.Dk
/- What Crash of package disk answers. -/
namespace Go.Proofs.YtnbknihaefkllaaGreatDoor.Dk
set_option linter.unusedVariables false
set_option linter.unusedSimpArgs false
open Go.RowKit Go.Maps Lift Ik

def crm (k : Nat) (f : FM) : FM := ⟨f.nm, f.bs.take (f.syn + k), (f.bs.take (f.syn + k)).length⟩
def crashM (m : MS) (keep : Int) : MS := { m with fs := m.fs.map (crm keep.toNat) }
theorem used_crash (k : Nat) (l : List FM) : used (l.map (crm k)) ≤ used l := by
  induction l with
  | nil => simp [used]
  | cons a l ih =>
    have e : ∀ (b : FM) (r : List FM), used (b :: r) = b.bs.length + used r := fun b r => by simp [used]
    rw [List.map_cons, e, e]
    have : (crm k a).bs.length ≤ a.bs.length := by simp only [crm, List.length_take]; omega
    omega
/-- A pointer to a file, or nil. -/
def mkV : Option Nat → Value
  | some b => .pointer (some ⟨b, 0, none⟩)
  | none => .pointer none
theorem mkV_inv (v : Value) (y : DataW Unit × List MemPlace) (h : ptrR v = some y) : ∃ o, v = mkV o := by
  unfold ptrR at h
  split at h
  · exact ⟨none, rfl⟩
  · exact ⟨some _, rfl⟩
  · cases h
theorem key_inv (key : Value) (l : Lit) (h : keyOf Tryz.prog 9 key = some l) : ∃ s : ByteArray, key = .string s := by
  obtain ⟨s, hs, _⟩ := WideMaps.string_of_keyOf Tryz.underlying9 h
  exact ⟨s, hs⟩
theorem key_is {s : ByteArray} {l : Lit} (h : keyOf Tryz.prog 9 (.string s) = some l) : l = kl s := by
  obtain ⟨s', hs, hl, _⟩ := WideMaps.string_of_keyOf Tryz.underlying9 h
  cases hs
  exact hl
/-- The file that the range's step comes to. -/
theorem step_file {fs : List Fi} {x : ByteArray} {o : Option Nat} {y : DataW Unit × List MemPlace} (hv : ptrR (mkV o) = some y) (hat : ∀ zd, (DataW.map (fs.map ent)).atKey (kl x) zd = y.1) : ∃ f, look fs x = some f ∧ o = some f.blk := by
  have h1 := hat .nil
  have h2 := hat (dat 0)
  rw [at_ent] at h1
  cases hl : look fs x with
  | none =>
    have h3 : (DataW.map (fs.map ent)).atKey (kl x) (dat 0) = dat 0 := by
      unfold DataW.atKey
      simp only
      rw [List.find?_eq_none.2]
      intro p hp
      obtain ⟨f, hf, rfl⟩ := List.mem_map.1 hp
      show ¬ ((kl f.nm).sameKey (kl x)) = true
      rw [kl_same, decide_eq_false (look_none.1 hl f hf)]
      simp
    rw [hl] at h1
    rw [h3, ← h1] at h2
    cases h2
  | some f =>
    rw [hl] at h1
    refine ⟨f, rfl, ?_⟩
    obtain ⟨y1, y2⟩ := y
    simp only at h1
    subst h1
    have h4 := ptrR_some hv
    cases o with
    | none => simp [mkV] at h4
    | some b => simp [mkV] at h4; rw [h4]
theorem ranges_keep {w w' : World} {T : Nat → Prop} {b r n : Nat} {D : DataW Unit} {left : Lit → Bool} {cnt : Nat} (h : w.ranges Tryz.prog 9 ptrR b r n D left cnt) (hk : Keep T w w') (hb : ¬ T b) (hr : ¬ T r) :
    w'.ranges Tryz.prog 9 ptrR b r n D left cnt := by
  have l1 := h.owns.lt
  have l2 := h.lt
  obtain ⟨es, clock, since, seen, c0, h1, F, h3, h4, h5, rest⟩ := h
  exact ⟨es, clock, since, seen, c0, (hk.block b l1 hb).trans h1, F, h3, h4, (hk.block r l2 hr).trans h5, rest⟩
theorem iter_apart {w : World} {S : Nat → Prop} {M : Option Nat} {fs : List Fi} {f : Fi} {us : List Value} {g b r n : Nat} {D : DataW Unit} {left : Lit → Bool} {cnt : Nat} (h : Files w S M fs) (hb : Box w g Ty.disk us) (hf : f ∈ fs)
    (hr : w.ranges Tryz.prog 9 ptrR b r n D left cnt) : ¬ Of g f r := by
  obtain ⟨es, clock, since, seen, c0, _, _, _, _, h5, _⟩ := hr
  have o2 := h.ok f hf
  rintro (e | e | e)
  · subst e
    unfold Box at hb
    rw [h5] at hb
    cases hb
  · subst e
    have := o2.box
    unfold Box at this
    rw [h5] at this
    cases this
  · obtain ⟨_, cs, fr, h1⟩ := o2.bytes e
    rw [h5] at h1
    cases h1
/-- One file more has lost its bytes. -/
theorem crash_step {fs fs' : List Fi} {left : Lit → Bool} {k : Nat} {f : Fi} (hp : fs.Pairwise sep) (ht : fs'.map Fi.m = fs.map fun x => if left (kl x.nm) then x.m else crm k x.m) (hf : f ∈ fs') (hl : left (kl f.nm) = true) :
    put1 (fs'.map Fi.m) (crm k f.m) = fs.map fun x => if left (kl x.nm) && !(kl x.nm).sameKey (kl f.nm) then x.m else crm k x.m := by
  have hm : f.m ∈ fs.map fun x => if left (kl x.nm) then x.m else crm k x.m := by rw [← ht]; exact List.mem_map.2 ⟨f, hf, rfl⟩
  obtain ⟨x0, hx0, e0⟩ := List.mem_map.1 hm
  have hn0 : x0.nm = f.nm := by
    have : (if left (kl x0.nm) then x0.m else crm k x0.m).nm = x0.nm := by split <;> rfl
    rw [← this, e0]
    rfl
  rw [hn0, if_pos hl] at e0
  rw [ht]
  unfold put1
  rw [List.map_map]
  refine List.map_congr_left fun x hx => ?_
  show (if (if left (kl x.nm) then x.m else crm k x.m).nm = f.nm then crm k f.m else (if left (kl x.nm) then x.m else crm k x.m)) = _
  have hnx : (if left (kl x.nm) then x.m else crm k x.m).nm = x.nm := by split <;> rfl
  rw [hnx, kl_same]
  by_cases e : x.nm = f.nm
  · have : x = x0 := nm_inj hp hx hx0 (e.trans hn0.symm)
    subst this
    rw [if_pos e, decide_eq_true e, ← e0]
    simp
  · rw [if_neg e, decide_eq_false e]
    simp
theorem Fi.ok.mono {w : World} {S S' : Nat → Prop} {f : Fi} (h : f.ok w S) (hS : ∀ k, S k → S' k) : f.ok w S' := ⟨h.box, h.own, hS _ h.sb, fun k hk => hS _ (h.sv k hk), h.syn, h.len, h.byte, h.nm⟩

/-- A call without results; the disk is then m. -/
def Done (w : World) (g : Nat) (S : Nat → Prop) (m : MS) (e : Ending) (w' : World) : Prop :=
  ∃ S', e = .returned (.tuple #[]) ∧ At w' g S' m ∧ Keep S w w' ∧ ∀ k, S' k → S k ∨ w.heap.size ≤ k
section
variable {w w' : World} {g : Nat} {S S' T : Nat → Prop} {m : MS} {fs : List Fi} {M : Option Nat} {A : Option Addr} {c : Nat}
set_option maxRecDepth 100000 in
theorem crash_none (keep : Int) (h : Lay w g S m fs none A c) : Calls Tryz.prog (19) #[.pointer (some ⟨g, 0, none⟩), .int .i64 keep] w (Done w g S (crashM m keep)) := by
  obtain ⟨c0, c1, c2, c3, c4, f1, f2, f3, f4⟩ := h.facts
  have H := Lib.hid h
  have hfs : fs = [] := by
    rcases h.files.map with ⟨_, h0⟩ | ⟨b, h0, _⟩
    · exact h0
    · cases h0
  subst hfs
  have ht : Hid (m.fs = []) := Lib.hid (by rw [h.told]; rfl)
  have hrg := run_range_nilMap (P := Tryz.prog) w 52 9 59 Tryz.underlying52
  have hnx : ∀ ty, (Instr.next (.pointer (some ⟨w.heap.size, 0, none⟩)) false ty).run Tryz.prog (w.alloc (.mapIter none 0 #[] 0)) = _ := fun ty => run_next_nilMap w ty 0 0 #[]
  clear h
  go_enter Tryz.func19, Tryz.ntmps19
  go_wp2
  refine wp_loop_rounds 1 ?_
  rw [rounds_succ]
  go_wp2
  go_end0
  have hb := Joins.below_alloc1 w (.mapIter none 0 #[] 0)
  refine ⟨S, rfl, ?_, below_keep hb, fun k hk => .inl hk⟩
  have e : crashM m keep = m := by
    unfold crashM
    rw [ht.out, List.map_nil, ← ht.out]
  rw [e]
  exact H.out.toAt.below hb
/-- The disk's blocks in the loop: not the iterator's. -/
def Sx (S : Nat → Prop) (w wr : World) (k : Nat) : Prop := Gr S w wr k ∧ k ≠ w.heap.size
set_option maxRecDepth 100000 in
set_option maxHeartbeats 1600000 in
theorem crash_some (keep : Int) (b : Nat) (hwf : (Lit.int .i64 keep).wf = true) (h : Lay w g S m fs (some b) A c) : Calls Tryz.prog (19) #[.pointer (some ⟨g, 0, none⟩), .int .i64 keep] w (Done w g S (crashM m keep)) := by
  obtain ⟨c0, c1, c2, c3, c4, f1, f2, f3, f4⟩ := h.facts
  have hkp := i64_of hwf
  obtain ⟨k, hk⟩ : ∃ k, k = keep.toNat := ⟨_, rfl⟩
  have hmx : max keep 0 = (k : Int) := by omega
  have hk63 : k ≤ 9223372036854775807 := by omega
  have HKP := Lib.hid hk
  have H := Lib.hid h
  obtain ⟨hsb, hown⟩ : S b ∧ w.ownsMap Tryz.prog 9 ptrR b fs.length (.map (fs.map ent)) := by
    rcases h.files.map with ⟨h0, _⟩ | ⟨b', hb', h1⟩
    · cases h0
    · cases hb'; exact h1
  have HSB := Lib.hid hsb
  have HGB : Hid (¬ g = b) := Lib.hid fun e => by
    obtain ⟨es, clock, hh, _⟩ := hown
    have h1 := h.box
    unfold Box at h1
    rw [e, hh] at h1
    cases h1
  clear h hk hsb hkp
  go_enter Tryz.func19, Tryz.ntmps19
  go_wp2_with (first
    | (at_range; refine wpList_range_own _ rfl _ 52 rfl 9 59 law Tryz.underlying52 _ b fs.length _ rfl hown ?_; intro w0 hrg0 hg0 hs0)
    | go_in)
  go_frame
  go_loopw [5] (fun _ wr => ∃ left cnt fs' A' c', wr.ranges Tryz.prog 9 ptrR b w.heap.size fs.length (.map (fs.map ent)) left cnt ∧ Hid (Lay wr g (Sx S w wr) { m with fs := fs'.map Fi.m } fs' (some b) A' c') ∧ Hid (fs'.map ent = fs.map ent) ∧
      Hid (fs'.map Fi.m = fs.map fun x => if left (kl x.nm) then x.m else crm k x.m) ∧ Hid (Keep S w wr))
    (fun _ wr => wr.rangeLeft b w.heap.size)
  case atStart =>
    have hk0 : Keep (fun _ => False) w w0 := (Keep.refl _ w).grown hg0 fun k hk _ => by cases hk
    have hL0 := H.out.keep hk0 fun _ _ => id
    refine ⟨_, _, fs, A, c, hrg0, Lib.hid ?_, Lib.hid rfl, Lib.hid ?_, Lib.hid (hk0.mono fun _ h => h.elim)⟩
    · have e : ({ m with fs := fs.map Fi.m } : MS) = m := by rw [← H.out.told]
      rw [e]
      exact ⟨hL0.box, ⟨.inl hL0.sg, Nat.ne_of_lt (H.out.lt g H.out.sg)⟩, hL0.files.keep (Keep.refl (fun _ => False) _) (fun _ h => h.elim) (fun k hk => ⟨.inl hk, Nat.ne_of_lt (H.out.lt k hk)⟩), hL0.told,
        hL0.armed.keep (Keep.refl (fun _ => False) _) (fun _ h => h.elim) (fun k hk => ⟨.inl hk, Nat.ne_of_lt (H.out.lt k hk)⟩), hL0.cap, hL0.capm, hL0.wf, fun k hk => hk.1.elim (hL0.lt k) fun h => h.2, hL0.room, hL0.fits, hL0.many⟩
    · refine List.map_congr_left fun x hx => ?_
      have : has (DataW.map (fs.map ent)) (kl x.nm) = true := by
        rw [has_eq, List.any_eq_true]
        exact ⟨ent x, List.mem_map.2 ⟨x, hx, rfl⟩, by show (kl x.nm).sameKey (kl x.nm) = true; rw [kl_same]; simp⟩
      rw [if_pos this]
  case round =>
    obtain ⟨left, cnt, fs', A', c', hrg, hL, hE, hT, hK⟩ := hrel
    clear hown c0 c1 c2 c3 c4 f1 f2 f3 f4
    go_wp2_with (first
      | (at_next; refine wpList_next_ranges _ rfl _ rfl 9 law ptrR Value.string mkV key_inv mkV_inv b w.heap.size fs.length _ _ _ rfl hrg ?_ ?_)
      | go_in)
    · -- nothing is left
      intro hc0 hl0
      go_wp2
      go_end0
      refine ⟨Sx S w wr, rfl, ?_, hK.out, fun k hk => hk.1.imp id fun h => h.1⟩
      have e : crashM m keep = { m with fs := fs'.map Fi.m } := by
        unfold crashM
        rw [hT.out, ← HKP.out, H.out.told, List.map_map]
        congr 1
        refine List.map_congr_left fun x _ => ?_
        rw [hl0]
        rfl
      rw [e]
      exact hL.out.toAt
    · -- a file has come
      intro x o kl1 yd yp w1 cnt1 hkey hlk hv hat hrg1 hlt hg1 hs1 hen
      obtain rfl := key_is hkey
      rw [← hE.out] at hat
      obtain ⟨f, hlf, rfl⟩ := step_file (y := (yd, yp)) hv hat
      obtain ⟨hfm, hfn⟩ := look_mem hlf
      have hk1 : Keep (· = w.heap.size) wr w1 := (Keep.refl _ wr).grown hg1 fun k hk _ => by cases hk; rfl
      have hL1 := hL.out.keep hk1 fun k hk e => hk.2 e
      have HK1 := Lib.hid hk1
      have HL1 := Lib.hid hL1
      have HM := Lib.hid hfm
      have HX := Lib.hid hfn
      have hU := hL1.used_le
      have HFC := Lib.hid fun W hW => fcrash_any (w := W) (S := Sx S w wr) f k hk63 hW
      have HS1 : Hid (w.heap.size < w1.heap.size) := Lib.hid (by have := hrg.lt; omega)
      have HLK := Lib.hid hlk
      have hen' : Sem.run Tryz.prog (Instr.entry (.pointer (some ⟨w.heap.size, 0, none⟩))) w1 = .ok (.tuple #[.string x, .pointer (some ⟨f.blk, 0, none⟩)]) w1 := hen
      clear hen hkey hv hat hlf hL1 hg1 hfm hfn hs1 hlk
      simp only [mkV]
      obtain ⟨U, hUe⟩ : ∃ U, U = used (fs'.map Fi.m) := ⟨_, rfl⟩
      obtain ⟨l, hle⟩ : ∃ l, l = f.bs.length - (f.syn + k) := ⟨_, rfl⟩
      have hlU : l ≤ U := by
        have := used_mem (l := fs'.map Fi.m) (f := f.m) (List.mem_map.2 ⟨f, HM.out, rfl⟩)
        have e : f.m.bs = f.bs := rfl
        rw [e] at this
        omega
      have hU2 : U ≤ 16777216000 := by rw [hUe]; exact hU
      have hsub : (U : Int) - (l : Int) = ((U - l : Nat) : Int) := by omega
      have hsw : IntKind.i64.wrap ((U - l : Nat) : Int) = ((U - l : Nat) : Int) := by rw [IntKind.wrap_i64]; omega
      have HUE := Lib.hid hUe
      have HLE := Lib.hid hle
      have hgf : Hid (¬ g = f.blk) := Lib.hid fun e => by
        have h1 := (HL1.out.files.ok f HM.out).box
        rw [← e] at h1
        exact typed HL1.out.box h1 (by decide)
      have BX : Hid (Box w1 g Ty.disk [.int .i64 (m.room : Int), .int .i64 (U : Int), .map (some b), .slice A' m.armed.length c', .int .i64 (m.failed : Int)]) := Lib.hid (by rw [HUE.out]; exact HL1.out.box)
      have HFD := Lib.hid (HFC.out w1.drew ((HL1.out.files.ok f HM.out).keep0 (Keep.refl (fun _ => False) w1).drew (fun h => h) (fun _ _ h => h) fun _ => id))
      rw [← HLE.out] at HFD
      clear hU hle hUe HFC
      go_wp2_with fail
      refine wp_region_held_drew (S := fun w' => Hid (Keep (fun j => j = f.blk ∨ j = g) w1 w')) (by kernel_rfl) (Lib.hid (Keep.refl _ _).drew) (fun hS => ?_)
      refine wpAnyH_take (i := 0) (v := ?_) rfl (by kernel_rfl) (by kernel_rfl) (by kernel_rfl) (fun _ _ _ h => h) (Or.inl ⟨by rfl, ?_⟩) hS ?_
      rotate_left
      · intro w hw
        go_simp
        try with_reducible rfl
      try simp only [Act.put, List.getElem_toArray, List.getElem_cons_succ, List.getElem_cons_zero, List.setIfInBounds_toArray, List.set_cons_zero, List.set_cons_succ]
      refine wpAnyH_take (i := 1) (v := ?_) rfl (by kernel_rfl) (by kernel_rfl) (by kernel_rfl) (fun _ _ _ h => h) (Or.inl ⟨by rfl, ?_⟩) hS ?_
      rotate_left
      · intro w hw
        go_simp
        try with_reducible rfl
      try simp only [Act.put, List.getElem_toArray, List.getElem_cons_succ, List.getElem_cons_zero, List.setIfInBounds_toArray, List.set_cons_zero, List.set_cons_succ]
      refine wpAnyH_take (i := 2) (v := ?_) rfl (by kernel_rfl) (by kernel_rfl) (by kernel_rfl) (fun _ _ _ h => h) (Or.inl ⟨by rfl, ?_⟩) hS ?_
      rotate_left
      · intro w hw
        go_simp
        try with_reducible rfl
      try simp only [Act.put, List.getElem_toArray, List.getElem_cons_succ, List.getElem_cons_zero, List.setIfInBounds_toArray, List.set_cons_zero, List.set_cons_succ]
      refine wpAnyH_take (i := 4) (v := ?_) rfl (by kernel_rfl) (by kernel_rfl) (by kernel_rfl) (fun _ _ _ h => h) (Or.inl ⟨by rfl, ?_⟩) hS ?_
      rotate_left
      · intro w hw
        go_simp
        try with_reducible rfl
      try simp only [Act.put, List.getElem_toArray, List.getElem_cons_succ, List.getElem_cons_zero, List.setIfInBounds_toArray, List.set_cons_zero, List.set_cons_succ]
      refine wpAnyH_take (i := 5) (v := ?_) rfl (by kernel_rfl) (by kernel_rfl) (by kernel_rfl) (fun _ _ _ h => h) (Or.inl ⟨by rfl, ?_⟩) hS ?_
      rotate_left
      · intro w hw
        go_simp
        try with_reducible rfl
      try simp only [Act.put, List.getElem_toArray, List.getElem_cons_succ, List.getElem_cons_zero, List.setIfInBounds_toArray, List.set_cons_zero, List.set_cons_succ]
      refine wpAnyH_take (i := 6) (v := ?_) rfl (by kernel_rfl) (by kernel_rfl) (by kernel_rfl) (fun _ _ _ h => h) (Or.inl ⟨by rfl, ?_⟩) hS ?_
      rotate_left
      · intro w hw
        go_simp
        try with_reducible rfl
      try simp only [Act.put, List.getElem_toArray, List.getElem_cons_succ, List.getElem_cons_zero, List.setIfInBounds_toArray, List.set_cons_zero, List.set_cons_succ]
      refine wpAnyH_ready (rs := [3, 7]) (by kernel_rfl) (by simp) ?_
      refine AllReadyH.cons rfl (fun K hK => ?_) (AllReadyH.cons rfl (fun K hK => ?_) AllReadyH.nil)
      · skip
        have q1 : w1.cell? ⟨g, 1, none⟩ = some (.int .i64 (U : Int)) := BX.out.cell 1
        go_simp
        refine hK.out _ _ hS (fun hS => ?_)
        clear hK K q1
        try simp only [Act.put, List.getElem_toArray, List.getElem_cons_succ, List.getElem_cons_zero, List.setIfInBounds_toArray, List.set_cons_zero, List.set_cons_succ]
        refine wpAnyH_ready (rs := [7]) (by kernel_rfl) (by simp) ?_
        refine AllReadyH.cons rfl (fun K hK => ?_) AllReadyH.nil
        go_simp
        refine HFD.out.mono ?_
        rintro e W2 ⟨v', rfl, hok2, hk2, hpl2⟩
        have H2 : Hid (Keep (fun j => j = f.blk ∨ j = g) w1 W2) := Lib.hid (hS.out.trans (T := fun j => j = f.blk) hk2 fun _ _ h => .inl h)
        have HK2 : Hid (Keep (fun j => j = f.blk) w1 W2) := Lib.hid ((Keep.refl (fun j => j = f.blk) w1).drew.trans hk2 fun _ _ h => h)
        have HOK := Lib.hid hok2
        have HPL := Lib.hid hpl2
        clear hok2 hk2 hpl2
        go_wp2_with fail
        refine hK.out _ _ H2 (fun hS => ?_)
        clear hK K
        try simp only [Act.put, List.getElem_toArray, List.getElem_cons_succ, List.getElem_cons_zero, List.setIfInBounds_toArray, List.set_cons_zero, List.set_cons_succ]
        refine wpAnyH_take (i := 8) (v := ?_) rfl (by kernel_rfl) (by kernel_rfl) (by kernel_rfl) (fun _ _ _ h => h) (Or.inl ⟨by rfl, ?_⟩) hS ?_
        rotate_left
        · intro w hw
          go_simp
          try with_reducible rfl
        try simp only [Act.put, List.getElem_toArray, List.getElem_cons_succ, List.getElem_cons_zero, List.setIfInBounds_toArray, List.set_cons_zero, List.set_cons_succ]
        refine wpAnyH_take (i := 9) (v := ?_) rfl (by kernel_rfl) (by kernel_rfl) (by kernel_rfl) (fun _ _ _ h => h) (Or.inl ⟨by rfl, ?_⟩) hS ?_
        rotate_left
        · intro w hw
          go_simp
          try with_reducible rfl
        try simp only [Act.put, List.getElem_toArray, List.getElem_cons_succ, List.getElem_cons_zero, List.setIfInBounds_toArray, List.set_cons_zero, List.set_cons_succ]
        refine wpAnyH_take (i := 10) (v := ?_) rfl (by kernel_rfl) (by kernel_rfl) (by kernel_rfl) (fun _ _ _ h => h) (Or.inl ⟨by rfl, ?_⟩) hS ?_
        rotate_left
        · intro w hw
          go_simp
          try with_reducible rfl
        try simp only [Act.put, List.getElem_toArray, List.getElem_cons_succ, List.getElem_cons_zero, List.setIfInBounds_toArray, List.set_cons_zero, List.set_cons_succ]
        refine wpAnyH_ready (rs := [11]) (by kernel_rfl) (by simp) ?_
        refine AllReadyH.cons rfl (fun K hK => ?_) AllReadyH.nil
        have z1 := (BX.out.keep HK2.out hgf.out).free 1
        have q2 : W2.cell? ⟨g, 1, none⟩ = some (.int .i64 (U : Int)) := (BX.out.keep HK2.out hgf.out).cell 1
        go_simp
        refine hK.out _ _ (Lib.hid (H2.out.setCell (p := ⟨g, 1, none⟩) (.inr (.inr rfl)) _)) (fun hS3 => ?_)
        clear hK K z1 q2
        try simp only [Act.put, List.getElem_toArray, List.getElem_cons_succ, List.getElem_cons_zero, List.setIfInBounds_toArray, List.set_cons_zero, List.set_cons_succ]
        refine wpAnyH_done (by kernel_rfl) ?_ _
        go_wp2_with fail
        have hk4 : Keep (Of g f) w1 (W2.setCell ⟨g, 1, none⟩ (.int .i64 ((U - l : Nat) : Int))) := (HK2.out.mono (T := Of g f) fun j hj => .inr (.inl hj)).setCell (p := ⟨g, 1, none⟩) (.inr (.inl rfl)) _
        have hrg4 := ranges_keep hrg1 hk4 (HL1.out.files.map_apart HL1.out.box HM.out hrg1.owns) (iter_apart HL1.out.files HL1.out.box HM.out hrg1)
        have hsz4 : (W2.setCell ⟨g, 1, none⟩ (.int .i64 ((U - l : Nat) : Int))).heap.size = W2.heap.size := by simp [World.setCell]
        have hu4 : used (put1 (fs'.map Fi.m) (crashed f k v').m) = U - l := by
          have h1 := used_put1 (fs'.map Fi.m) f.m (crashed f k v').m (names_apart HL1.out.files.sep) (List.mem_map.2 ⟨f, HM.out, rfl⟩) rfl
          have e1 : f.m.bs = f.bs := rfl
          have e2 : (crashed f k v').m.bs = f.bs.take (f.syn + k) := rfl
          rw [e1, e2, List.length_take, ← HUE.out] at h1
          have h2 := HLE.out
          omega
        have hws : w.heap.size ≤ w1.heap.size := Nat.le_of_lt HS1.out
        have hL4 := HL1.out.sub (f' := crashed f k v') (S' := Sx S w (W2.setCell ⟨g, 1, none⟩ (.int .i64 ((U - l : Nat) : Int)))) hk4 HM.out rfl rfl
          ((HOK.out.keep0 (T := fun j => j = g) ((Keep.refl (fun j => j = g) W2).setCell (p := ⟨g, 1, none⟩) (.inr rfl) _) (fun e => hgf.out e.symm) (fun j hj e => by
            have h1 := HOK.out.bytes hj
            obtain ⟨_, cs, fr, h1⟩ := h1
            rw [e] at h1
            exact typed (BX.out.keep HK2.out hgf.out) h1 (by decide)) fun _ => id).mono fun j hj => by
              rcases hj with hj | hj
              · refine ⟨hj.1.imp id fun h => ⟨h.1, ?_⟩, hj.2⟩
                have := HL1.out.lt j hj
                have := HK2.out.size
                omega
              · have h1 := hj.1
                have h2 := HS1.out
                have h3 : w1.drew.heap.size = w1.heap.size := rfl
                exact ⟨.inr ⟨by omega, by rw [hsz4]; exact hj.2⟩, by omega⟩)
          (fun j hj => HPL.out j hj) (fun j hj => ⟨hj.1.imp id fun h => ⟨h.1, by have := HL1.out.lt j hj; have := HK2.out.size; omega⟩, hj.2⟩)
          (fun j hj => by
            rw [hsz4]
            rcases hj.1 with h1 | h1
            · have := H.out.lt j h1
              have := HK2.out.size
              omega
            · have := h1.2
              rw [hsz4] at this
              exact this)
          (by
            show Box _ _ _ [_, .int .i64 (used (put1 (fs'.map Fi.m) (crashed f k v').m) : Int), _, _, _]
            rw [hu4]
            exact (BX.out.keep HK2.out hgf.out).set 1 _)
          (by
            show used (put1 (fs'.map Fi.m) (crashed f k v').m) ≤ _
            rw [hu4]
            show U - l ≤ m.room
            have h1 : used (fs'.map Fi.m) ≤ m.room := HL1.out.fits
            have h2 := HUE.out
            omega)
        go_roundw
        case rel =>
          refine ⟨_, cnt1, sub fs' (crashed f k v'), A', c', hrg4, Lib.hid ?_, Lib.hid ?_, Lib.hid ?_, Lib.hid ?_⟩
          · rw [sub_told]
            exact hL4
          · rw [← hE.out]
            unfold sub
            rw [List.map_map]
            refine List.map_congr_left fun z hz => ?_
            show ent (if z.nm = f.nm then crashed f k v' else z) = ent z
            split
            · rename_i e
              have := nm_inj HL1.out.files.sep hz HM.out e
              subst this
              rfl
            · rfl
          · rw [sub_told]
            have := crash_step (k := k) H.out.files.sep hT.out HM.out (by rw [HX.out]; exact HLK.out)
            rw [HX.out] at this
            exact this
          · have h1 : Keep (fun j => j = w.heap.size) wr w1 := HK1.out
            refine (hK.out.trans (T := fun j => j = w.heap.size) h1 fun i hi e => absurd hi (by omega)).trans (T := fun j => Of g f j) hk4 fun i hi hj => ?_
            rcases hj with e | e | e
            · rw [e]; exact H.out.sg
            · have := (HL1.out.files.ok f HM.out).sb
              rw [← e] at this
              exact this.1.elim id fun h => absurd hi (by omega)
            · have := (HL1.out.files.ok f HM.out).sv i e
              exact this.1.elim id fun h => absurd hi (by omega)
        case measure => rw [hrg4.left_eq, hrg.left_eq]; exact hlt
      · skip
        go_simp
        refine HFD.out.mono ?_
        rintro e W2 ⟨v', rfl, hok2, hk2, hpl2⟩
        have H2 : Hid (Keep (fun j => j = f.blk ∨ j = g) w1 W2) := Lib.hid (hS.out.trans (T := fun j => j = f.blk) hk2 fun _ _ h => .inl h)
        have HK2 : Hid (Keep (fun j => j = f.blk) w1 W2) := Lib.hid ((Keep.refl (fun j => j = f.blk) w1).drew.trans hk2 fun _ _ h => h)
        have HOK := Lib.hid hok2
        have HPL := Lib.hid hpl2
        clear hok2 hk2 hpl2
        go_wp2_with fail
        refine hK.out _ _ H2 (fun hS => ?_)
        clear hK K
        try simp only [Act.put, List.getElem_toArray, List.getElem_cons_succ, List.getElem_cons_zero, List.setIfInBounds_toArray, List.set_cons_zero, List.set_cons_succ]
        refine wpAnyH_ready (rs := [3]) (by kernel_rfl) (by simp) ?_
        refine AllReadyH.cons rfl (fun K hK => ?_) AllReadyH.nil
        have q1 : W2.cell? ⟨g, 1, none⟩ = some (.int .i64 (U : Int)) := (BX.out.keep HK2.out hgf.out).cell 1
        go_simp
        refine hK.out _ _ hS (fun hS => ?_)
        clear hK K q1
        try simp only [Act.put, List.getElem_toArray, List.getElem_cons_succ, List.getElem_cons_zero, List.setIfInBounds_toArray, List.set_cons_zero, List.set_cons_succ]
        refine wpAnyH_take (i := 8) (v := ?_) rfl (by kernel_rfl) (by kernel_rfl) (by kernel_rfl) (fun _ _ _ h => h) (Or.inl ⟨by rfl, ?_⟩) hS ?_
        rotate_left
        · intro w hw
          go_simp
          try with_reducible rfl
        try simp only [Act.put, List.getElem_toArray, List.getElem_cons_succ, List.getElem_cons_zero, List.setIfInBounds_toArray, List.set_cons_zero, List.set_cons_succ]
        refine wpAnyH_take (i := 9) (v := ?_) rfl (by kernel_rfl) (by kernel_rfl) (by kernel_rfl) (fun _ _ _ h => h) (Or.inl ⟨by rfl, ?_⟩) hS ?_
        rotate_left
        · intro w hw
          go_simp
          try with_reducible rfl
        try simp only [Act.put, List.getElem_toArray, List.getElem_cons_succ, List.getElem_cons_zero, List.setIfInBounds_toArray, List.set_cons_zero, List.set_cons_succ]
        refine wpAnyH_take (i := 10) (v := ?_) rfl (by kernel_rfl) (by kernel_rfl) (by kernel_rfl) (fun _ _ _ h => h) (Or.inl ⟨by rfl, ?_⟩) hS ?_
        rotate_left
        · intro w hw
          go_simp
          try with_reducible rfl
        try simp only [Act.put, List.getElem_toArray, List.getElem_cons_succ, List.getElem_cons_zero, List.setIfInBounds_toArray, List.set_cons_zero, List.set_cons_succ]
        refine wpAnyH_ready (rs := [11]) (by kernel_rfl) (by simp) ?_
        refine AllReadyH.cons rfl (fun K hK => ?_) AllReadyH.nil
        have z1 := (BX.out.keep HK2.out hgf.out).free 1
        have q2 : W2.cell? ⟨g, 1, none⟩ = some (.int .i64 (U : Int)) := (BX.out.keep HK2.out hgf.out).cell 1
        go_simp
        refine hK.out _ _ (Lib.hid (H2.out.setCell (p := ⟨g, 1, none⟩) (.inr (.inr rfl)) _)) (fun hS3 => ?_)
        clear hK K z1 q2
        try simp only [Act.put, List.getElem_toArray, List.getElem_cons_succ, List.getElem_cons_zero, List.setIfInBounds_toArray, List.set_cons_zero, List.set_cons_succ]
        refine wpAnyH_done (by kernel_rfl) ?_ _
        go_wp2_with fail
        have hk4 : Keep (Of g f) w1 (W2.setCell ⟨g, 1, none⟩ (.int .i64 ((U - l : Nat) : Int))) := (HK2.out.mono (T := Of g f) fun j hj => .inr (.inl hj)).setCell (p := ⟨g, 1, none⟩) (.inr (.inl rfl)) _
        have hrg4 := ranges_keep hrg1 hk4 (HL1.out.files.map_apart HL1.out.box HM.out hrg1.owns) (iter_apart HL1.out.files HL1.out.box HM.out hrg1)
        have hsz4 : (W2.setCell ⟨g, 1, none⟩ (.int .i64 ((U - l : Nat) : Int))).heap.size = W2.heap.size := by simp [World.setCell]
        have hu4 : used (put1 (fs'.map Fi.m) (crashed f k v').m) = U - l := by
          have h1 := used_put1 (fs'.map Fi.m) f.m (crashed f k v').m (names_apart HL1.out.files.sep) (List.mem_map.2 ⟨f, HM.out, rfl⟩) rfl
          have e1 : f.m.bs = f.bs := rfl
          have e2 : (crashed f k v').m.bs = f.bs.take (f.syn + k) := rfl
          rw [e1, e2, List.length_take, ← HUE.out] at h1
          have h2 := HLE.out
          omega
        have hws : w.heap.size ≤ w1.heap.size := Nat.le_of_lt HS1.out
        have hL4 := HL1.out.sub (f' := crashed f k v') (S' := Sx S w (W2.setCell ⟨g, 1, none⟩ (.int .i64 ((U - l : Nat) : Int)))) hk4 HM.out rfl rfl
          ((HOK.out.keep0 (T := fun j => j = g) ((Keep.refl (fun j => j = g) W2).setCell (p := ⟨g, 1, none⟩) (.inr rfl) _) (fun e => hgf.out e.symm) (fun j hj e => by
            have h1 := HOK.out.bytes hj
            obtain ⟨_, cs, fr, h1⟩ := h1
            rw [e] at h1
            exact typed (BX.out.keep HK2.out hgf.out) h1 (by decide)) fun _ => id).mono fun j hj => by
              rcases hj with hj | hj
              · refine ⟨hj.1.imp id fun h => ⟨h.1, ?_⟩, hj.2⟩
                have := HL1.out.lt j hj
                have := HK2.out.size
                omega
              · have h1 := hj.1
                have h2 := HS1.out
                have h3 : w1.drew.heap.size = w1.heap.size := rfl
                exact ⟨.inr ⟨by omega, by rw [hsz4]; exact hj.2⟩, by omega⟩)
          (fun j hj => HPL.out j hj) (fun j hj => ⟨hj.1.imp id fun h => ⟨h.1, by have := HL1.out.lt j hj; have := HK2.out.size; omega⟩, hj.2⟩)
          (fun j hj => by
            rw [hsz4]
            rcases hj.1 with h1 | h1
            · have := H.out.lt j h1
              have := HK2.out.size
              omega
            · have := h1.2
              rw [hsz4] at this
              exact this)
          (by
            show Box _ _ _ [_, .int .i64 (used (put1 (fs'.map Fi.m) (crashed f k v').m) : Int), _, _, _]
            rw [hu4]
            exact (BX.out.keep HK2.out hgf.out).set 1 _)
          (by
            show used (put1 (fs'.map Fi.m) (crashed f k v').m) ≤ _
            rw [hu4]
            show U - l ≤ m.room
            have h1 : used (fs'.map Fi.m) ≤ m.room := HL1.out.fits
            have h2 := HUE.out
            omega)
        go_roundw
        case rel =>
          refine ⟨_, cnt1, sub fs' (crashed f k v'), A', c', hrg4, Lib.hid ?_, Lib.hid ?_, Lib.hid ?_, Lib.hid ?_⟩
          · rw [sub_told]
            exact hL4
          · rw [← hE.out]
            unfold sub
            rw [List.map_map]
            refine List.map_congr_left fun z hz => ?_
            show ent (if z.nm = f.nm then crashed f k v' else z) = ent z
            split
            · rename_i e
              have := nm_inj HL1.out.files.sep hz HM.out e
              subst this
              rfl
            · rfl
          · rw [sub_told]
            have := crash_step (k := k) H.out.files.sep hT.out HM.out (by rw [HX.out]; exact HLK.out)
            rw [HX.out] at this
            exact this
          · have h1 : Keep (fun j => j = w.heap.size) wr w1 := HK1.out
            refine (hK.out.trans (T := fun j => j = w.heap.size) h1 fun i hi e => absurd hi (by omega)).trans (T := fun j => Of g f j) hk4 fun i hi hj => ?_
            rcases hj with e | e | e
            · rw [e]; exact H.out.sg
            · have := (HL1.out.files.ok f HM.out).sb
              rw [← e] at this
              exact this.1.elim id fun h => absurd hi (by omega)
            · have := (HL1.out.files.ok f HM.out).sv i e
              exact this.1.elim id fun h => absurd hi (by omega)
        case measure => rw [hrg4.left_eq, hrg.left_eq]; exact hlt
theorem crash_any (keep : Int) (hwf : (Lit.int .i64 keep).wf = true) (h : At w g S m) : Calls Tryz.prog (19) #[.pointer (some ⟨g, 0, none⟩), .int .i64 keep] w (Done w g S (crashM m keep)) := by
  obtain ⟨fs, M, A, c, h⟩ := h
  cases M with
  | none => exact crash_none keep h
  | some b => exact crash_some keep b hwf h
end
end Go.Proofs.YtnbknihaefkllaaGreatDoor.Dk
/- What Fail of package disk answers. -/
namespace Go.Proofs.YtnbknihaefkllaaGreatDoor.Dk
set_option linter.unusedVariables false
set_option linter.unusedSimpArgs false
open Go.RowKit Go.Maps Lift Ik

/-- What slices.Clone answers at whole numbers. -/
theorem iclone_some (ad : Addr) (c : Nat) (xs : List Int) (w : World) (hl : Lies w w.heap.size (some ad) (xs.map (Value.int .i64))) (hm : xs.length ≤ 1000000000) :
    Calls Tryz.prog 29 #[.slice (some ad) xs.length c] w fun e w' => ∃ v, e = .returned v ∧ w'.ownsRow w.heap.size 3 1 v xs.length (xs.map (Value.int .i64)) ∧ Below w.heap.size w w' := by
  have HL := Lib.hid hl
  have q22 : ∀ W : World, Sem.run Tryz.prog (binOp .eql 23 (.slice (some ad) xs.length c) (.slice none 0 0)) W = .ok (.bool false) W := fun W => Lib.run_eql_slice_nil W _ _ (some ad) xs.length c 0 0 Tryz.underlying23
  clear hl
  have hb0 := Joins.below_alloc1 w (.cells #[] 3)
  have hown : (w.alloc (.cells #[] 3)).ownsRow w.heap.size 3 1 (.slice (some ⟨w.heap.size, 0, none⟩) 0 0) 0 [] :=
    ⟨rfl, .inr ⟨w.heap.size, 0, #[], rfl, Nat.le_refl _, heap_alloc_new w _, Nat.le_refl _, by decide, rfl, rfl⟩⟩
  obtain ⟨v2, W2, hr2, hown2, hb2, hs2⟩ := run_append_lies (P := Tryz.prog) (m := xs.length) (c := c) 23 23 3 (.int .i64 0) 1 8 Tryz.underlying23 (by kernel_rfl) rfl (by decide)
      (fun u hu => by simp at hu; obtain ⟨_, _, rfl⟩ := hu; rfl) hown (HL.out.below hb0) (by simp) (by unfold maxLen; omega) (by omega) hb0.size
  rw [Nat.zero_add, List.nil_append] at hown2
  have HO := Lib.hid hown2
  have HB := Lib.hid (hb0.trans hb2)
  have HR := Lib.hid hr2
  clear hown hown2 hb0 hb2 hr2
  go_enter Tryz.func29, Tryz.ntmps29
  go_wp2_with (at_builtin; refine wpList_append_run rfl _ _ 23 rfl rfl rfl HR.out ?_)
  go_ret
  exact ⟨_, rfl, HO.out, HB.out⟩
theorem iclone_nil (w : World) : Calls Tryz.prog 29 #[.slice none 0 0] w fun e w' => e = .returned (.slice none 0 0) ∧ w = w' := by
  have q22 : ∀ W : World, Sem.run Tryz.prog (binOp .eql 23 (.slice none 0 0) (.slice none 0 0)) W = .ok (.bool true) W := fun W => Lib.run_eql_slice_nil W _ _ none 0 0 0 0 Tryz.underlying23
  go_enter Tryz.func29, Tryz.ntmps29
  go_wp2_with fail
  go_ret
  exact ⟨rfl, rfl⟩
theorem iclone_at (A : Option Addr) (c : Nat) (xs : List Int) (w : World) (hl : Lies w w.heap.size A (xs.map (Value.int .i64))) (hm : xs.length ≤ 1000000000) (h0 : A = none → xs.length = 0 ∧ c = 0) :
    Calls Tryz.prog 29 #[.slice A xs.length c] w fun e w' => ∃ v, e = .returned v ∧ w'.ownsRow w.heap.size 3 1 v xs.length (xs.map (Value.int .i64)) ∧ Below w.heap.size w w' := by
  rcases A with _ | ad
  · obtain ⟨h1, rfl⟩ := h0 rfl
    rw [List.eq_nil_of_length_eq_zero h1]
    refine (iclone_nil w).mono ?_
    rintro e w' ⟨rfl, rfl⟩
    exact ⟨_, rfl, World.ownsRow_nil _ _ _ _, Below.refl _ _⟩
  · exact iclone_some ad c xs w hl hm

section
variable {w w' : World} {g : Nat} {S S' T : Nat → Prop} {m : MS} {fs : List Fi} {M : Option Nat} {A : Option Addr} {c : Nat}
set_option maxHeartbeats 400000 in
theorem fail_any (A0 : Option Addr) (c0 : Nat) (l : List Int) (h : At w g S m) (hl : Lies w w.heap.size A0 (l.map (Value.int .i64))) (hm : l.length ≤ 1000000000) (h0 : A0 = none → l.length = 0 ∧ c0 = 0) (hw : ∀ x, x ∈ l → (Lit.int .i64 x).wf = true) :
    Calls Tryz.prog (9) #[.pointer (some ⟨g, 0, none⟩), .slice A0 l.length c0] w (Done w g S { m with armed := l }) := by
  obtain ⟨fs, M, A, c, h⟩ := h
  have H := Lib.hid h
  have HC := Lib.hid (iclone_at A0 c0 l w hl hm h0)
  have HW := Lib.hid hw
  clear h hl hw h0
  go_enter Tryz.func9, Tryz.ntmps9
  go_wp2_with fail
  refine HC.out.mono ?_
  rintro e W1 ⟨v, rfl, hown, hb⟩
  have hp := hown
  obtain ⟨A1, c1, rfl, hc1, hm1, _⟩ := own_parts hp
  have hbx := H.out.box.below hb (H.out.lt g H.out.sg)
  have q3 := hbx.cell 3
  have z3 := hbx.free 3
  simp only [List.getElem?_cons_succ, List.getElem?_cons_zero] at q3
  have HO := Lib.hid hown
  have HB := Lib.hid hb
  have HX := Lib.hid hbx
  have HC1 := Lib.hid hc1
  have HM1 := Lib.hid hm1
  clear hown hb hbx hp hc1 hm1 HC
  go_wp2_with fail
  go_end0
  have hk : Keep (· = g) w (W1.setCell ⟨g, 3, none⟩ (.slice A1 l.length c1)) := (below_keep (S := (· = g)) HB.out).setCell (p := ⟨g, 3, none⟩) (.inr rfl) _
  have hsz : (W1.setCell ⟨g, 3, none⟩ (.slice A1 l.length c1)).heap.size = W1.heap.size := by simp [World.setCell]
  have hlt : ∀ k, Gr S w W1 k → k < W1.heap.size := fun k hk => hk.elim (fun h => Nat.lt_of_lt_of_le (H.out.lt k h) HB.out.size) fun h => h.2
  refine ⟨Gr S w W1, rfl, ?_, hk.mono fun k hk => by rw [hk]; exact H.out.sg, fun k hk => hk.imp id fun h => h.1⟩
  have ha : Armed (W1.setCell ⟨g, 3, none⟩ (.slice A1 l.length c1)) (Gr S w W1) A1 l := by
    refine (LiesP.of_own HO.out).later (fun k hk => ?_) fun k hk => ?_
    · exact Below.heap_setCell _ _ _ _ (fun e => by
        have := H.out.lt g H.out.sg
        have e' : k = g := e
        omega)
    · obtain ⟨h1, h2, cs, fr, h3⟩ := hk
      refine ⟨.inr ⟨h1, h2⟩, cs, fr, (Below.heap_setCell _ _ _ _ (fun e => by
        have := H.out.lt g H.out.sg
        have e' : k = g := e
        omega)).trans h3⟩
  exact ⟨fs, M, A1, c1, HX.out.set 3 _, .inl H.out.sg, H.out.files.keep hk (off_box H.out.box) (fun k hk => .inl hk), H.out.told, ha, HC1.out, HM1.out, HW.out, fun k hk => by rw [hsz]; exact hlt k hk, H.out.room, H.out.fits, H.out.many⟩
end
end Go.Proofs.YtnbknihaefkllaaGreatDoor.Dk
/- Disks without armed failures, as they are told. -/
namespace Go.Proofs.YtnbknihaefkllaaGreatDoor.Dk
set_option linter.unusedVariables false
set_option linter.unusedSimpArgs false
open Go.RowKit Go.Maps Lift Ik

theorem bad_ok {m : MS} {ns : List ByteArray} (h : m.armed = []) (hn : ns.all nmB = true) : bad m ns = 0 := by unfold bad; rw [hit_nil h, hn]; rfl
theorem bad_name {m : MS} {ns : List ByteArray} (h : m.armed = []) (hn : ns.all nmB = false) : bad m ns = 6 := by unfold bad; rw [hit_nil h, hn]; rfl
theorem append_new {m : MS} {nm : ByteArray} {b : List Nat} (h : m.armed = []) (hn : nmB nm = true) (hg : get m.fs nm = none) (hb : b.length ≤ 16777216) (hc : m.fs.length < 1000) (hr : used m.fs + b.length ≤ m.room) :
    appendM m nm b = (0, { m with fs := insM ⟨nm, b, 0⟩ m.fs }) := by
  unfold appendM
  rw [bad_ok h (by simp [hn]), hg, hit_nil h, if_neg (by simp), if_neg (by simp [lenOf]; omega), if_neg (by omega)]
theorem append_old {m : MS} {nm : ByteArray} {b : List Nat} {f : FM} (h : m.armed = []) (hn : nmB nm = true) (hg : get m.fs nm = some f) (hb : f.bs.length + b.length ≤ 16777216) (hr : used m.fs + b.length ≤ m.room) :
    appendM m nm b = (0, { m with fs := put1 m.fs ⟨f.nm, f.bs ++ b, f.syn⟩ }) := by
  unfold appendM
  rw [bad_ok h (by simp [hn]), hg, hit_nil h, if_neg (by simp), if_neg (by simp [lenOf]; omega), if_neg (by omega)]
theorem append_full {m : MS} {nm : ByteArray} {b : List Nat} (h : m.armed = []) (hn : nmB nm = true) (hb : lenOf (get m.fs nm) + b.length ≤ 16777216) (hc : m.fs.length < 1000) (hr : m.room < used m.fs + b.length) : appendM m nm b = (7, m) := by
  unfold appendM
  rw [bad_ok h (by simp [hn]), hit_nil h, if_neg (by simp), if_neg (by omega), if_pos hr]
theorem file_ok {α : Type} {m : MS} {nm : ByteArray} {f : FM} {no : Nat → α} {k : FM → α} (h : m.armed = []) (hn : nmB nm = true) (hg : get m.fs nm = some f) : onFile m [nm] nm no k = k f := by
  unfold onFile
  rw [bad_ok h (by simp [hn]), hg, if_neg (by simp)]
theorem read_all {m : MS} {nm : ByteArray} {f : FM} {n : Int} (h : m.armed = []) (hn : nmB nm = true) (hg : get m.fs nm = some f) (hl : (f.bs.length : Int) ≤ n) : readM m nm 0 n = (0, f.bs) := by
  unfold readM
  rw [file_ok h hn hg, if_neg (by omega)]
  simp only [Int.toNat_zero, List.drop_zero]
  rw [List.take_of_length_le (by omega)]
theorem sync_ok {m : MS} {nm : ByteArray} {f : FM} (h : m.armed = []) (hn : nmB nm = true) (hg : get m.fs nm = some f) : syncM m nm = (0, { m with fs := put1 m.fs ⟨f.nm, f.bs, f.bs.length⟩ }) := by
  unfold syncM
  rw [file_ok h hn hg, hit_nil h]
theorem get_head {f : FM} {l : List FM} {nm : ByteArray} (h : f.nm = nm) : get (f :: l) nm = some f := by unfold get; rw [List.find?_cons, decide_eq_true h]
theorem get_tail {f : FM} {l : List FM} {nm : ByteArray} (h : f.nm ≠ nm) : get (f :: l) nm = get l nm := by unfold get; rw [List.find?_cons, decide_eq_false h]
theorem put_head {f f' : FM} {l : List FM} (h : f.nm = f'.nm) : put1 (f :: l) f' = f' :: put1 l f' := by unfold put1; rw [List.map_cons, if_pos h]
theorem put_tail {f f' : FM} {l : List FM} (h : f.nm ≠ f'.nm) : put1 (f :: l) f' = f :: put1 l f' := by unfold put1; rw [List.map_cons, if_neg h]
theorem ins_one (f y : FM) (h : (kl f.nm).before (kl y.nm) = false) : insM f [y] = [y, f] := by unfold insM; rw [h]; rfl
theorem nm_a : nmB ⟨#[97]⟩ = true := by decide
end Go.Proofs.YtnbknihaefkllaaGreatDoor.Dk
/- Plain mathematics of a log of batches: what is read of it, whole or torn off. -/
namespace Go.Proofs.YtnbknihaefkllaaGreatDoor.Wl
set_option linter.unusedVariables false
set_option linter.unusedSimpArgs false
open Go.RowKit Ik Bt Vn

abbrev lN : ByteArray := ⟨#[108]⟩
theorem nm_l : Dk.nmB lN = true := by decide
/-- A batch as it is told: its number and its operations. -/
abbrev BO := Nat × List O
def encP (b : BO) : List Nat := encB b.1 b.2
def O.byte (o : O) : Prop := (∀ x, x ∈ o.key → x < 256) ∧ ∀ x, x ∈ o.val → x < 256
theorem chk_of {s : Nat} {l : List O} (h : bytesE s l = 0) : chkO l = 0 := by unfold bytesE at h; split at h; contradiction; rename_i hn; simpa using hn
theorem fits_of {s : Nat} {l : List O} (h : bytesE s l = 0) : 1 ≤ s ∧ s + l.length ≤ 72057594037927936 := by
  have hc := chk_of h
  unfold bytesE at h
  rw [if_neg (by simp [hc])] at h
  split at h
  · rename_i hf; exact fits_parts hf
  · omega
theorem encP_byte {b : BO} (h : bytesE b.1 b.2 = 0) (hb : ∀ o, o ∈ b.2 → O.byte o) : ∀ x, x ∈ encP b → x < 256 := by
  intro x hx
  have hall := (chk_parts (chk_of h)).2.2
  unfold encP encB at hx
  rcases List.mem_append.1 hx with hx | hx
  · rcases List.mem_append.1 hx with hx | hx
    · exact low_byte _ _ x hx
    · exact low_byte _ _ x hx
  · obtain ⟨o, ho, hx⟩ := List.mem_flatMap.1 hx
    obtain ⟨h1, h2, h3, h4⟩ := ok_parts (List.all_eq_true.1 hall _ ho)
    have tx : ∀ t : List Nat, t.length ≤ 4096 → (∀ y, y ∈ t → y < 256) → ∀ y, y ∈ text t → y < 256 := by
      intro t ht hb y hy
      rcases List.mem_append.1 hy with hy | hy
      · exact enc_byte t.length (by omega) y hy
      · exact hb y hy
    unfold encO at hx
    rcases List.mem_cons.1 hx with rfl | hx
    · rcases h4 with ⟨h4, _⟩ | h4 <;> rw [h4] <;> decide
    · rcases List.mem_append.1 hx with hx | hx
      · exact tx o.key (Nat.le_trans h2 (by decide)) (hb o ho).1 x hx
      · split at hx
        · exact tx o.val h3 (hb o ho).2 x hx
        · simp at hx
theorem encP_len {b : BO} (h : bytesE b.1 b.2 = 0) : (encP b).length ≤ 440012 := by
  obtain ⟨h1, h2, h3⟩ := chk_parts (chk_of h)
  have key : ∀ l : List O, l.all O.ok = true → (l.flatMap encO).length ≤ 4400 * l.length := by
    intro l
    induction l with
    | nil => intro _; simp
    | cons o l ih =>
      intro hl
      rw [List.all_cons, Bool.and_eq_true] at hl
      have := encO_len hl.1
      have := ih hl.2
      rw [List.flatMap_cons, List.length_append, List.length_cons]
      omega
  have := key b.2 h3
  unfold encP encB
  rw [List.length_append, List.length_append, low_length, low_length]
  omega
/-- What the records of a log are read as: the batches up to the first that is none, or not above the one ahead of it; is there one? -/
def recL : List (List Nat) → Nat → List BO × Bool
  | [], _ => ([], false)
  | r :: rs, last => if (readB r).1 ≠ 0 ∨ (readB r).2.1 ≤ last then ([], true) else (((readB r).2.1, (readB r).2.2) :: (recL rs ((readB r).2.1 + (readB r).2.2.length - 1)).1, (recL rs ((readB r).2.1 + (readB r).2.2.length - 1)).2)
/-- Batches that are right, each above the one ahead of it. -/
def rises : List BO → Nat → Prop
  | [], _ => True
  | b :: bs, last => bytesE b.1 b.2 = 0 ∧ last < b.1 ∧ rises bs (b.1 + b.2.length - 1)
theorem rises_take : ∀ (L : List BO) (last k : Nat), rises L last → rises (L.take k) last := by
  intro L
  induction L with
  | nil => intro last k _; simp [rises]
  | cons b L ih =>
    intro last k h
    cases k with
    | zero => trivial
    | succ k => exact ⟨h.1, h.2.1, ih _ k h.2.2⟩
theorem rises_ok : ∀ (L : List BO) (last : Nat), rises L last → ∀ b, b ∈ L → bytesE b.1 b.2 = 0 := by
  intro L
  induction L with
  | nil => intro last _ b hb; simp at hb
  | cons b L ih =>
    intro last h x hx
    rcases List.mem_cons.1 hx with rfl | hx
    · exact h.1
    · exact ih _ h.2.2 x hx
/-- The last number of a row of batches. -/
def lastOf : List BO → Nat → Nat
  | [], last => last
  | b :: bs, _ => lastOf bs (b.1 + b.2.length - 1)
theorem lastOf_snoc : ∀ (L : List BO) (last : Nat) (b : BO), lastOf (L ++ [b]) last = b.1 + b.2.length - 1 := by
  intro L
  induction L with
  | nil => intro last b; rfl
  | cons c L ih => intro last b; exact ih _ b
theorem rises_snoc : ∀ (L : List BO) (last : Nat) (b : BO), rises L last → bytesE b.1 b.2 = 0 → lastOf L last < b.1 → rises (L ++ [b]) last := by
  intro L
  induction L with
  | nil => intro last b _ h1 h2; exact ⟨h1, h2, trivial⟩
  | cons c L ih => intro last b h h1 h2; exact ⟨h.1, h.2.1, ih _ b h.2.2 h1 h2⟩
theorem recL_good : ∀ (L : List BO) (last : Nat), rises L last → recL (L.map encP) last = (L, false) := by
  intro L
  induction L with
  | nil => intro last _; rfl
  | cons b L ih =>
    intro last h
    have hr := read_good (s := b.1) (l := b.2) [] h.1
    rw [List.append_nil, if_pos rfl] at hr
    have hi := ih _ h.2.2
    have hlt := h.2.1
    rw [List.map_cons]
    unfold recL
    rw [show readB (encP b) = (0, b.1, b.2) from hr, if_neg (by simp only; omega)]
    simp only
    rw [hi]
def recs (L : List BO) : List (List Nat) := L.map encP
def logB (L : List BO) : List Nat := Fr.logOf (recs L)
theorem recs_take (L : List BO) (k : Nat) : recs (L.take k) = (recs L).take k := by unfold recs; rw [List.map_take]
theorem logB_snoc (L : List BO) (b : BO) : logB (L ++ [b]) = logB L ++ Fr.put (logB L).length (encP b) := by
  unfold logB recs
  rw [List.map_append, List.map_cons, List.map_nil, Fr.logOf_snoc]
theorem logB_take (L : List BO) (k : Nat) : logB (L.take k) <+: logB L := by
  obtain ⟨q, hq⟩ := Fr.logOf_take (recs L) k
  unfold logB
  rw [recs_take, hq]
  exact List.prefix_append _ _
theorem logB_byte {L : List BO} (h : ∀ b, b ∈ L → bytesE b.1 b.2 = 0 ∧ ∀ o, o ∈ b.2 → O.byte o) : ∀ x, x ∈ logB L → x < 256 := by
  refine Fr.logOf_byte fun r hr => ?_
  obtain ⟨b, hb, rfl⟩ := List.mem_map.1 hr
  exact encP_byte (h b hb).1 (h b hb).2
theorem logB_len {L : List BO} {m : Nat} (h : ∀ b, b ∈ L → (encP b).length ≤ m) : (logB L).length ≤ (21 + 2 * m) * L.length := by
  have key : ∀ (k : Nat) (L : List BO), L.length = k → (∀ b, b ∈ L → (encP b).length ≤ m) → (logB L).length ≤ (21 + 2 * m) * L.length := by
    intro k
    induction k with
    | zero =>
      intro L hl _
      have : L = [] := List.eq_nil_of_length_eq_zero hl
      subst this
      simp [logB, recs, Fr.logOf]
    | succ k ih =>
      intro L hl h
      obtain ⟨L', r, rfl⟩ : ∃ L' r, L = L' ++ [r] := ⟨L.dropLast, L.getLast (by intro h0; rw [h0] at hl; simp at hl), (List.dropLast_concat_getLast _).symm⟩
      have h1 := ih L' (by simpa using hl) fun b hb => h b (by simp [hb])
      have h2 := h r (by simp)
      have h3 := (Fr.put_len (logB L').length (encP r)).2
      rw [logB_snoc, List.length_append, List.length_append, List.length_singleton, Nat.mul_add]
      omega
  exact key L.length L rfl h
theorem logB_pos {L : List BO} (h : L ≠ []) : 0 < (logB L).length := by
  obtain ⟨L', r, rfl⟩ : ∃ L' r, L = L' ++ [r] := ⟨L.dropLast, L.getLast h, (List.dropLast_concat_getLast _).symm⟩
  have := (Fr.put_len (logB L').length (encP r)).1
  rw [logB_snoc, List.length_append]
  omega
/-- Within which record a place of a log is. -/
theorem log_place (l : List (List Nat)) (to : Nat) : ∀ k, k ≤ l.length → ∃ j, j ≤ k ∧ (Fr.logOf (l.take j)).length ≤ to ∧ (j < k → to < (Fr.logOf (l.take (j + 1))).length) := by
  intro k
  induction k with
  | zero => intro _; exact ⟨0, Nat.le_refl _, by simp [Fr.logOf], fun h => absurd h (Nat.lt_irrefl _)⟩
  | succ k ih =>
    intro hk
    obtain ⟨j, h1, h2, h3⟩ := ih (by omega)
    by_cases hj : j < k
    · exact ⟨j, by omega, h2, fun _ => h3 hj⟩
    · obtain rfl : j = k := by omega
      by_cases h4 : (Fr.logOf (l.take (j + 1))).length ≤ to
      · exact ⟨j + 1, Nat.le_refl _, h4, fun h => absurd h (Nat.lt_irrefl _)⟩
      · exact ⟨j, by omega, h2, fun _ => by omega⟩
/-- A log that is torn off anywhere, or whole: what is read of it. -/
theorem log_torn (L : List BO) (to : Nat) (hto : to ≤ (logB L).length) : ∃ j n c, j ≤ L.length ∧ c ≠ 2 ∧ (logB (L.take j)).length ≤ to ∧ (j < L.length → to < (logB (L.take (j + 1))).length) ∧
    (to = (logB L).length → j = L.length ∧ c = 0) ∧ Fr.Rd ((logB L).take to) 0 false [] 0 [] (recs (L.take j), n, c) := by
  by_cases he : to = (logB L).length
  · subst he
    refine ⟨L.length, (logB L).length, 0, Nat.le_refl _, by decide, by rw [List.take_length]; exact Nat.le_refl _, fun h => absurd h (Nat.lt_irrefl _), fun _ => ⟨rfl, rfl⟩, ?_⟩
    rw [List.take_length, List.take_length]
    have h := Fr.rd_log (recs L) [] (recs L, (logB L).length, 0) (by rw [List.append_nil]; exact Fr.rd_end)
    rw [List.append_nil] at h
    exact h
  · obtain ⟨j, h1, h2, h3⟩ := log_place (recs L) to (recs L).length (Nat.le_refl _)
    have hl : (recs L).length = L.length := List.length_map _
    have hj : j < (recs L).length := by
      rcases Nat.lt_or_ge j (recs L).length with h | h
      · exact h
      · obtain rfl : j = (recs L).length := by omega
        rw [List.take_length] at h2
        exact absurd (Nat.le_antisymm hto h2) he
    obtain ⟨n, c, h4, h5⟩ := Fr.rd_log_torn (l := recs L) (j := j) (to := to) (r := (recs L)[j]) (List.getElem?_eq_getElem hj) h2 (h3 hj)
    refine ⟨j, n, c, by omega, h4, by unfold logB; rw [recs_take]; exact h2, fun _ => by unfold logB; rw [recs_take]; exact h3 hj, fun h => absurd h he, ?_⟩
    rw [recs_take]
    exact h5
theorem logB_mono (L : List BO) {i j : Nat} (h : i ≤ j) : (logB (L.take i)).length ≤ (logB (L.take j)).length := by
  have h1 := logB_take (L.take j) i
  rw [List.take_take, Nat.min_eq_left h] at h1
  exact h1.length_le
end Go.Proofs.YtnbknihaefkllaaGreatDoor.Wl
/- What the laws on package disk share: the example of the document. -/
namespace Go.Proofs.YtnbknihaefkllaaGreatDoor.Dk
set_option linter.unusedVariables false
set_option linter.unusedSimpArgs false
open Go.RowKit Go.Maps Lift Ik

/-- true, and all old memory as it was. -/
def Yes (w : World) (e : Ending) (w' : World) : Prop := e = .returned (.bool true) ∧ Below w.heap.size w w'
abbrev nm (l : List UInt8) : ByteArray := ⟨l.toArray⟩
theorem run_str {w : World} {B c : Nat} {A : Option Addr} {bs : List Nat} (hl : Lies w B A (bs.map vb)) : Sem.run Tryz.prog (convert 24 9 (.slice A bs.length c)) w = .ok (.string (str bs)) w :=
  run_string_lies (P := Tryz.prog) (c := c) _ _ 5 Tryz.underlying24 Tryz.underlying5 Tryz.underlying9 hl
/-- A disk of the call's own, in blocks from B on. -/
def Own (B : Nat) (w0 w : World) (g : Nat) (S : Nat → Prop) (m : MS) : Prop := At w g S m ∧ (∀ k, S k → B ≤ k) ∧ Below B w0 w
theorem Own.told {B g : Nat} {w0 w w' : World} {S : Nat → Prop} {m : MS} {r : Nat × MS} {e : Ending} (h : Own B w0 w g S m) (hB : B ≤ w.heap.size) (ht : Told w g S r e w') : ∃ S', e = .returned (.int .i64 (r.1 : Int)) ∧ Own B w0 w' g S' r.2 ∧ Keep S w w' ∧ ∀ k, S' k → S k ∨ w.heap.size ≤ k := by
  obtain ⟨S', he, hA, hK, hS⟩ := ht
  exact ⟨S', he, ⟨hA, fun k hk => (hS k hk).elim (h.2.1 k) fun h1 => Nat.le_trans hB h1, h.2.2.trans (hK.below hB h.2.1)⟩, hK, hS⟩
theorem Own.done {B g : Nat} {w0 w w' : World} {S : Nat → Prop} {m m' : MS} {e : Ending} (h : Own B w0 w g S m) (hB : B ≤ w.heap.size) (ht : Done w g S m' e w') : ∃ S', e = .returned (.tuple #[]) ∧ Own B w0 w' g S' m' ∧ Keep S w w' ∧ ∀ k, S' k → S k ∨ w.heap.size ≤ k := by
  obtain ⟨S', he, hA, hK, hS⟩ := ht
  exact ⟨S', he, ⟨hA, fun k hk => (hS k hk).elim (h.2.1 k) fun h1 => Nat.le_trans hB h1, h.2.2.trans (hK.below hB h.2.1)⟩, hK, hS⟩
theorem Own.gave {B g : Nat} {w0 w w' : World} {S : Nat → Prop} {m m' : MS} {r : Nat × List Nat} {e : Ending} (h : Own B w0 w g S m) (hB : B ≤ w.heap.size) (ht : Gave w g S m' r e w') :
    ∃ (A : Option Addr) (c : Nat), e = .returned (.tuple #[.slice A r.2.length c, .int .i64 (r.1 : Int)]) ∧ LiesP w' (fun k => ¬ S k ∧ B ≤ k ∧ k < w'.heap.size) A (r.2.map vb) ∧ Own B w0 w' g S m' ∧ Keep S w w' := by
  obtain ⟨A, c, he, hl, _, _, hA, hK⟩ := ht
  exact ⟨A, c, he, hl.later (fun _ _ => rfl) fun k hk => ⟨fun hs => by have := h.1.lt k hs; omega, Nat.le_trans hB hk.1, hk.2⟩, ⟨hA, h.2.1, h.2.2.trans (hK.below hB h.2.1)⟩, hK⟩
/-- A new disk. -/
theorem new_own {B : Nat} {w0 : World} (room : Int) (hr : (Lit.int .i64 room).wf = true) (w : World) (hB : B ≤ w.heap.size) (h0 : Below B w0 w) :
    Calls Tryz.prog 5 #[.int .i64 room] w fun e w' => ∃ g S, e = .returned (.pointer (some ⟨g, 0, none⟩)) ∧ Own B w0 w' g S (newM room) ∧ w.heap.size ≤ g ∧ (∀ k, S k → w.heap.size ≤ k) ∧ Below w.heap.size w w' := by
  refine (new_any room hr w).mono ?_
  rintro e w' ⟨rfl, hA, hb⟩
  exact ⟨_, _, rfl, ⟨hA, fun k hk => by rw [hk]; exact hB, h0.trans (hb.mono hB)⟩, Nat.le_refl _, fun k hk => Nat.le_of_eq hk.symm, hb⟩
theorem Own.size {B g : Nat} {w0 w : World} {S : Nat → Prop} {m : MS} (h : Own B w0 w g S m) (hB : B ≤ w0.heap.size) : B ≤ w.heap.size := Nat.le_trans hB h.2.2.size
/-- Bytes that lie elsewhere stay. -/
theorem stays {w w' : World} {S S' : Nat → Prop} {B : Nat} {A : Option Addr} {xs : List Value} (h : LiesP w (fun k => ¬ S k ∧ B ≤ k ∧ k < w.heap.size) A xs) (hK : Keep S w w') (hS : ∀ k, S' k → S k ∨ w.heap.size ≤ k) : LiesP w' (fun k => ¬ S' k ∧ B ≤ k ∧ k < w'.heap.size) A xs :=
  h.later (fun k hk => hK.block k hk.2.2 hk.1) fun k hk => ⟨fun h1 => (hS k h1).elim hk.1 fun h2 => by omega, hk.2.1, Nat.lt_of_lt_of_le hk.2.2 hK.size⟩

end Go.Proofs.YtnbknihaefkllaaGreatDoor.Dk
/- What Append of package wal answers. -/
namespace Go.Proofs.YtnbknihaefkllaaGreatDoor.Wl
set_option linter.unusedVariables false
set_option linter.unusedSimpArgs false
open Go.RowKit Go.Maps Lift Ik Dk
open Bt (O D Ops opsO bytesE bytesB encB bytes_any)

/-- A record is added to a log, and the log synced. -/
def logM (m : MS) (nm : ByteArray) (b : List Nat) (sync : Bool) : Nat × MS :=
  if (sizeM m nm).1 ≠ 0 ∧ (sizeM m nm).1 ≠ 8 then ((sizeM m nm).1, (hit m).2)
  else if (appendM (hit m).2 nm (Fr.put (sizeM m nm).2 b)).1 ≠ 0 ∨ sync = false then appendM (hit m).2 nm (Fr.put (sizeM m nm).2 b)
  else syncM (appendM (hit m).2 nm (Fr.put (sizeM m nm).2 b)).2 nm
def walM (m : MS) (nm : ByteArray) (s : Nat) (l : List O) (sync : Bool) : Nat × MS := if bytesE s l ≠ 0 then (bytesE s l, m) else logM m nm (encB s l) sync
theorem size_three (m : MS) (nm : ByteArray) : (sizeM m nm).1 = 0 ∨ (sizeM m nm).1 = 6 ∨ (sizeM m nm).1 = 8 ∨ (sizeM m nm).1 = 11 := by
  unfold sizeM onFile
  have h := bad_three m [nm]
  split
  · rcases h with h | h | h
    · contradiction
    · exact .inr (.inl h)
    · exact .inr (.inr (.inr h))
  · split
    · exact .inr (.inr (.inl rfl))
    · exact .inl rfl
theorem append_failed (m : MS) (nm : ByteArray) (b : List Nat) : (appendM m nm b).2.failed ≤ m.failed + 1 := by
  have h := hit_failed m
  unfold appendM
  split
  · exact h
  · split
    · exact h
    · split
      · exact h
      · exact h
theorem sync_failed (m : MS) (nm : ByteArray) : (syncM m nm).2.failed ≤ m.failed + 1 := by
  have h := hit_failed m
  unfold syncM onFile
  split
  · exact h
  · split
    · exact h
    · exact h
theorem bytesE_small (s : Nat) (l : List O) : bytesE s l = 0 ∨ bytesE s l = 1 ∨ bytesE s l = 3 := by
  have h1 : Bt.chkO l = 0 ∨ Bt.chkO l = 1 ∨ Bt.chkO l = 3 := by unfold Bt.chkO; split; simp; split <;> simp
  unfold bytesE
  rcases h1 with h1 | h1 | h1
  · rw [h1]; by_cases hf : Bt.fits s l.length = true <;> simp [hf]
  · rw [h1]; simp
  · rw [h1]; simp
theorem ops_byte {w : World} {B c : Nat} {A : Option Addr} {L : List D} (h : Ops w B A c L) : ∀ o, o ∈ opsO L → O.byte o := by
  intro o ho
  obtain ⟨d, hd, rfl⟩ := List.mem_map.1 ho
  exact ⟨(h.ok d hd).k8, (h.ok d hd).v8⟩
section
variable {w w' : World} {g : Nat} {S S' : Nat → Prop} {m : MS}
theorem told_mono {r : Nat × MS} {w0 : World} {e : Ending} (h : Dk.Told w g S' r e w') (hk : Keep S w0 w) (hS : ∀ k, S' k → S k ∨ w0.heap.size ≤ k) : Dk.Told w0 g S r e w' := by
  obtain ⟨S2, he, hA, hK, hS2⟩ := h
  exact ⟨S2, he, hA, hk.trans hK fun i hi hi2 => (hS i hi2).elim id fun h => absurd hi (Nat.not_lt_of_le h), fun k hk2 => (hS2 k hk2).elim (hS k) fun h => .inr (Nat.le_trans hk.size h)⟩
theorem told_back {r : Nat × MS} (h : At w' g S r.2) (hk : Keep S w w') : Dk.Told w g S r (.returned (.int .i64 (r.1 : Int))) w' := ⟨S, rfl, h, hk, fun k hk => .inl hk⟩
theorem get_mem {l : List FM} {nm : ByteArray} {f : FM} (h : Dk.get l nm = some f) : f ∈ l := List.mem_of_find?_eq_some h
theorem size_len (nm : ByteArray) (h : At w g S m) : (sizeM m nm).2 ≤ 16777216 := by
  obtain ⟨fs, M, A, c, h⟩ := h
  unfold sizeM onFile
  split
  · exact Nat.zero_le _
  · split
    · exact Nat.zero_le _
    · rename_i f hf
      have hm := get_mem hf
      rw [h.told] at hm
      obtain ⟨f', hf', rfl⟩ := List.mem_map.1 hm
      exact (h.files.ok f' hf').len
theorem logM_out {nm : ByteArray} {b : List Nat} {sync : Bool} (h1 : (sizeM m nm).1 ≠ 0) (h2 : (sizeM m nm).1 ≠ 8) : logM m nm b sync = ((sizeM m nm).1, (hit m).2) := by unfold logM; rw [if_pos ⟨h1, h2⟩]
theorem logM_in {nm : ByteArray} {b : List Nat} {sync : Bool} (h : (sizeM m nm).1 = 0 ∨ (sizeM m nm).1 = 8) : logM m nm b sync = if (appendM (hit m).2 nm (Fr.put (sizeM m nm).2 b)).1 ≠ 0 ∨ sync = false then appendM (hit m).2 nm (Fr.put (sizeM m nm).2 b)
      else syncM (appendM (hit m).2 nm (Fr.put (sizeM m nm).2 b)).2 nm := by unfold logM; rw [if_neg (by omega)]
set_option maxRecDepth 100000 in
set_option maxHeartbeats 1600000 in
/-- Append, where there is a disk. -/
theorem wapp_any (nm : ByteArray) (s : Nat) (A : Option Addr) (c : Nat) (L : List D) (sync : Bool) (h : At w g S m) (hf : m.failed ≤ 900000) (hs : s < 18446744073709551616) (hO : Ops w w.heap.size A c L) :
    Calls Tryz.prog 13 #[.pointer (some ⟨g, 0, none⟩), .string nm, .agg #[.int .u64 (s : Int), .slice A L.length c], .bool sync] w (Dk.Told w g S (walM m nm s (opsO L) sync)) := by
  have hb0 := Joins.below_alloc1 w (.cells #[.int .u64 (s : Int), .slice A L.length c] 38)
  have b0 := Box.new w 38 [.int .u64 (s : Int), .slice A L.length c]
  obtain ⟨p0, p1, _, _⟩ := b0.facts2
  have hby := bytes_any s A c L _ hs (hO.next hb0)
  have HBY := Lib.hid hby
  have hsg : S g := by obtain ⟨fs, M, A', c', hL⟩ := h; exact hL.sg
  have HSG := Lib.hid hsg
  have HGL := Lib.hid (show g < (w.alloc (.cells #[.int .u64 (s : Int), .slice A L.length c] 38)).heap.size from Nat.lt_of_lt_of_le (h.lt g hsg) hb0.size)
  have H0 := Lib.hid (h.below hb0)
  have HB0 := Lib.hid hb0
  have E := Lib.hid (show walM m nm s (opsO L) sync = if bytesE s (opsO L) ≠ 0 then (bytesE s (opsO L), m) else logM m nm (encB s (opsO L)) sync from rfl)
  have HOB := Lib.hid (ops_byte hO)
  have hth := bytesE_small s (opsO L)
  clear h hO hby hb0 b0 hsg
  go_enter Tryz.func13, Tryz.ntmps13
  go_wp2_with fail
  refine HBY.out.mono ?_
  rintro e W1 ⟨v1, rfl, hown1, hb1⟩
  have H1 := Lib.hid (H0.out.below hb1)
  have HB1 := Lib.hid (HB0.out.trans (hb1.mono HB0.out.size))
  have HOW := Lib.hid hown1
  clear hown1 hb1 HBY p0 p1 HB0 H0
  by_cases h0 : bytesE s (opsO L) = 0
  · have E1 := Lib.hid (show walM m nm s (opsO L) sync = logM m nm (encB s (opsO L)) sync by rw [E.out, if_neg (by omega)])
    have E2 := Lib.hid (show bytesB s (opsO L) = encB s (opsO L) by unfold bytesB; rw [if_pos h0])
    have H8 := Lib.hid (encP_byte (b := (s, opsO L)) h0 HOB.out)
    have hlen := encP_len (b := (s, opsO L)) h0
    rw [h0]
    rw [E2.out] at HOW
    rw [show encP (s, opsO L) = encB s (opsO L) from rfl] at H8 hlen
    clear h0 E HOB E2 hth
    generalize encB s (opsO L) = b at *
    have hsz := size_any nm H1.out (by omega)
    have hz3 := size_three m nm
    have EO := Lib.hid (fun h1 h2 => logM_out (m := m) (nm := nm) (b := b) (sync := sync) h1 h2)
    have EI := Lib.hid (fun h1 => logM_in (m := m) (nm := nm) (b := b) (sync := sync) h1)
    have hn := size_len nm H1.out
    have HSZ := Lib.hid hsz
    have hf1 := hit_failed m
    clear hsz
    generalize (sizeM m nm).1 = er at *
    generalize (sizeM m nm).2 = n at *
    go_wp2_with fail
    refine HSZ.out.mono ?_
    rintro e W2 ⟨rfl, h2, hk2⟩
    have HK2 := Lib.hid ((below_keep (S := S) HB1.out).trans hk2 fun i hi he => by rw [he]; exact HSG.out)
    have hown2 := own_kept HOW.out hk2 fun k hk e => by
      subst e
      have h1 := (HOW.out.lt _ hk).1
      have h3 := HGL.out
      omega
    obtain ⟨A1, c1, hv, hc1, hm1, hl1⟩ := own_parts hown2
    subst hv
    have H2 := Lib.hid h2
    have HC1 := Lib.hid hc1
    have HM1 := Lib.hid hm1
    have HL1 := Lib.hid hl1
    clear h2 hk2 hown2 hc1 hm1 hl1 HSZ HOW
    by_cases k1 : er ≠ 0 ∧ er ≠ 8
    · have d1 : ((er : Int) != 0) = true := by rw [bne_iff_ne]; omega
      have d2 : ((er : Int) != 8) = true := by rw [bne_iff_ne]; omega
      have E2 := Lib.hid (EO.out k1.1 k1.2)
      clear k1 hz3
      go_wp2_with fail
      go_ret
      rw [E1.out, E2.out]
      exact told_back H2.out HK2.out
    · have E2 := Lib.hid (EI.out (by omega))
      have HP := Lib.hid (Fr.put_any (n : Int) A1 c1 b W2 (by omega) HL1.out HC1.out HM1.out (by omega) H8.out)
      rw [Int.toNat_natCast] at HP
      have hpl := Fr.put_len n b
      have H9 := Lib.hid (Fr.put_byte (a := n) H8.out)
      have hfr : ∀ (P : Prop), P → P := fun _ h => h
      clear hfr EO EI
      generalize Fr.put n b = pb at *
      have hcase : er = 0 ∨ er = 8 := by omega
      clear k1 hz3
      rcases hcase with rfl | rfl
      all_goals
        go_wp2_with fail
        refine HP.out.mono ?_
        rintro e W3 ⟨v3, rfl, hown3, hb3⟩
        obtain ⟨A3, c3, rfl, hc3, hm3, _⟩ := own_parts hown3
        have hl3 : LiesP W3 (fun k => ¬ S k ∧ k < W3.heap.size) A3 (pb.map vb) := (LiesP.of_own hown3).later (fun _ _ => rfl) fun k hk => ⟨fun hs => by have := H2.out.lt k hs; omega, hk.2.1⟩
        have h3 := H2.out.below hb3
        have hap := append_any nm A3 c3 pb h3 (by omega) hl3 hc3 (by omega) H9.out
        have HK3 := Lib.hid (HK2.out.trans (below_keep (S := S) hb3) fun _ _ h => h)
        have HAP := Lib.hid hap
        have hf2 := append_failed (hit m).2 nm pb
        clear hown3 hb3 hc3 hm3 hl3 h3 hap
        generalize appendM (hit m).2 nm pb = r at *
        go_wp2_with fail
        refine HAP.out.mono ?_
        rintro e W4 ⟨S4, rfl, h4, hk4, hs4⟩
        have H4 := Lib.hid h4
        have HK4 := Lib.hid (HK3.out.trans hk4 fun _ _ h => h)
        have HS4 := Lib.hid (fun k hk => (hs4 k hk).imp id fun h => Nat.le_trans HK3.out.size h)
        clear h4 hk4 hs4 HAP HP
        by_cases k2 : r.1 = 0
        · cases sync with
          | false =>
            have E3 := Lib.hid (E2.out.trans (if_pos (.inr rfl)))
            rw [k2]
            have HR := Lib.hid k2
            clear k2
            go_wp2_with fail
            go_ret
            rw [E1.out, E3.out]
            exact ⟨S4, by rw [HR.out]; rfl, H4.out, HK4.out, HS4.out⟩
          | true =>
            have E3 := Lib.hid (E2.out.trans (if_neg (by rw [k2]; simp)))
            have HSY := Lib.hid (sync_any nm H4.out (by omega))
            rw [k2]
            clear k2
            go_wp2_with fail
            refine HSY.out.mono ?_
            intro e W5 ht
            have ht2 := told_mono ht HK4.out HS4.out
            obtain ⟨S5, rfl, h5, hk5, hs5⟩ := ht2
            have H5 := Lib.hid h5
            have HK5 := Lib.hid hk5
            have HS5 := Lib.hid hs5
            clear ht h5 hk5 hs5
            go_wp2_with fail
            go_ret
            rw [E1.out, E3.out]
            exact ⟨S5, rfl, H5.out, HK5.out, HS5.out⟩
        · have E3 := Lib.hid (E2.out.trans (if_pos (.inl k2)))
          have d1 : ((r.1 : Int) != 0) = true := by rw [bne_iff_ne]; omega
          clear k2
          go_wp2_with fail
          go_ret
          rw [E1.out, E3.out]
          exact ⟨S4, rfl, H4.out, HK4.out, HS4.out⟩
  · have E1 := Lib.hid (show walM m nm s (opsO L) sync = (bytesE s (opsO L), m) by rw [E.out, if_pos h0])
    have d1 : ((bytesE s (opsO L) : Int) != 0) = true := by rw [bne_iff_ne]; omega
    clear h0 hth E
    go_wp2_with fail
    go_ret
    rw [E1.out]
    exact told_back H1.out (below_keep HB1.out)
end
end Go.Proofs.YtnbknihaefkllaaGreatDoor.Wl
/- What Read of package batch answers. -/
namespace Go.Proofs.YtnbknihaefkllaaGreatDoor.Bt
set_option linter.unusedVariables false
set_option linter.unusedSimpArgs false
open Go.RowKit Lift Ik Vn

/-- What is answered of bytes. -/
def ReadedP (w : World) (bs : List Nat) (e : Ending) (w' : World) : Prop :=
  ∃ (A2 : Option Addr) (c2 : Nat) (L : List D), e = .returned (.tuple #[.agg #[.int .u64 ((readB bs).2.1 : Int), .slice A2 L.length c2], .int .i64 ((readB bs).1 : Int)]) ∧ opsO L = (readB bs).2.2 ∧ OpsP w' (fun k => w.heap.size ≤ k ∧ k < w'.heap.size) A2 c2 L ∧ Below w.heap.size w w'
/-- The same, where the operations lie anywhere. -/
def Readed (w : World) (bs : List Nat) (e : Ending) (w' : World) : Prop :=
  ∃ (A2 : Option Addr) (c2 : Nat) (L : List D), e = .returned (.tuple #[.agg #[.int .u64 ((readB bs).2.1 : Int), .slice A2 L.length c2], .int .i64 ((readB bs).1 : Int)]) ∧ opsO L = (readB bs).2.2 ∧ Ops w' w'.heap.size A2 c2 L ∧ Below w.heap.size w w'
theorem ReadedP.old {w w' : World} {bs : List Nat} {e : Ending} (h : ReadedP w bs e w') : Readed w bs e w' := by
  obtain ⟨A, c, L, h1, h2, h3, h4⟩ := h
  exact ⟨A, c, L, h1, h2, h3.ops fun _ hk => hk.2, h4⟩
theorem readedP_bad {w w' : World} {bs : List Nat} {er : Nat} (h : readB bs = (er, 0, [])) (hb : Below w.heap.size w w') : ReadedP w bs (.returned (.tuple #[.agg #[.int .u64 0, .slice none 0 0], .int .i64 (er : Int)])) w' :=
  ⟨none, 0, [], by rw [h]; rfl, by rw [h]; rfl, OpsP.zero _ _, hb⟩
theorem opsL_three : ∀ (n : Nat) (bs : List Nat) (p : Nat) (acc : List O), (opsL n bs p acc).1 = 0 ∨ (opsL n bs p acc).1 = 2 ∨ (opsL n bs p acc).1 = 4 := by
  intro n
  induction n with
  | zero => intro bs p acc; exact .inl rfl
  | succ n ih =>
    intro bs p acc
    simp only [opsL]
    split
    · exact opL_three _
    · exact ih _ _ _
theorem batch_three (bs : List Nat) : (batchL bs).1 = 0 ∨ batchL bs = (2, 0, [], 0) ∨ batchL bs = (4, 0, [], 0) := by
  have h1 : (headL bs).1 = 0 ∨ (headL bs).1 = 2 ∨ (headL bs).1 = 4 := by unfold headL; split; simp; split <;> simp
  have h2 := opsL_three (headN bs) bs 12 []
  unfold batchL
  split
  · rcases h1 with h | h | h
    · contradiction
    · rw [h]; simp
    · rw [h]; simp
  · split
    · rcases h2 with h | h | h
      · contradiction
      · rw [h]; simp
      · rw [h]; simp
    · exact .inl rfl

set_option maxRecDepth 100000 in
set_option maxHeartbeats 400000 in
theorem read_short (A : Option Addr) (c : Nat) (bs : List Nat) (w : World) (hn : bs.length < 12) :
    Calls Tryz.prog 41 #[.slice A bs.length c] w (ReadedP w bs) := by
  have E := Lib.hid (show readB bs = (4, 0, []) by unfold readB; rw [if_pos hn])
  have hb0 := Joins.below_alloc2 w (.cells #[.int .u64 0, .slice none 0 0] 38) (.cells #[.slice A bs.length c, .int .i64 0] 113)
  have b0 : Box ((w.alloc (.cells #[.int .u64 0, .slice none 0 0] 38)).alloc (.cells #[.slice A bs.length c, .int .i64 0] 113)) w.heap.size 38 [.int .u64 0, .slice none 0 0] := (Box.new w 38 [.int .u64 0, .slice none 0 0]).alloc _
  have b1 : Rd ((w.alloc (.cells #[.int .u64 0, .slice none 0 0] 38)).alloc (.cells #[.slice A bs.length c, .int .i64 0] 113)) (w.heap.size + 1) A bs.length c 0 := by
    have := Box.new (w.alloc (.cells #[.int .u64 0, .slice none 0 0] 38)) 113 [.slice A bs.length c, .int .i64 0]
    rw [show (w.alloc (.cells #[.int .u64 0, .slice none 0 0] 38)).heap.size = w.heap.size + 1 by simp] at this
    exact this
  have hz0 : ((w.alloc (.cells #[.int .u64 0, .slice none 0 0] 38)).alloc (.cells #[.slice A bs.length c, .int .i64 0] 113)).heap.size = w.heap.size + 2 := by simp
  have hp := batch_short (w.heap.size + 1) A bs.length c _ b1 hn
  go_enter Tryz.func41, Tryz.ntmps41
  go_wp2_with fail
  generalize (w.alloc (.cells #[.int .u64 0, .slice none 0 0] 38)).alloc (.cells #[.slice A bs.length c, .int .i64 0] 113) = w0 at hb0 b0 b1 hz0 hp ⊢
  refine hp.mono ?_
  rintro e W1 ⟨rfl, hb1⟩
  have hb2 := hb0.trans (hb1.mono hb0.size)
  have hz1 := hb1.size
  have b0 := b0.below hb1 (by omega)
  have hba := Joins.below_alloc1 W1 (.cells #[.int .u64 0, .slice none 0 0] 38)
  have b2 := b0.below hba (by omega)
  obtain ⟨p0, p1, f0, f1⟩ := b2.facts2
  have HB := Lib.hid (hb2.trans (hba.mono hb2.size))
  have B2 := Lib.hid b2
  clear hb0 b0 b1 hz0 hp hb1 hb2 hz1 hba b2
  go_wp2_with fail
  obtain ⟨hkx, hbx, _⟩ := batch_end (g := w.heap.size + 1) (.int .u64 0) (.slice none 0 0) (below_keep HB.out) rfl B2.out _ rfl
  refine bodyPost_ret (results_box rfl Tryz.underlying38 (by kernel_rfl) _ rfl hbx) rfl ?_
  exact readedP_bad E.out (hkx.below (Nat.le_refl _) fun k hk => by omega)

set_option maxRecDepth 100000 in
set_option maxHeartbeats 800000 in
theorem read_long (ad : Addr) (c : Nat) (bs : List Nat) (w : World) (hl : Lies w w.heap.size (some ad) (bs.map vb)) (hc : bs.length ≤ c) (hm : c ≤ maxLen) (h8 : ∀ x, x ∈ bs → x < 256) (hs : bs.length ≤ 20000000) (h12 : 12 ≤ bs.length) :
    Calls Tryz.prog 41 #[.slice (some ad) bs.length c] w (ReadedP w bs) := by
  have E0 := Lib.hid (read_batch bs)
  have hb0 := Joins.below_alloc2 w (.cells #[.int .u64 0, .slice none 0 0] 38) (.cells #[.slice (some ad) bs.length c, .int .i64 0] 113)
  have b0 : Box ((w.alloc (.cells #[.int .u64 0, .slice none 0 0] 38)).alloc (.cells #[.slice (some ad) bs.length c, .int .i64 0] 113)) w.heap.size 38 [.int .u64 0, .slice none 0 0] := (Box.new w 38 [.int .u64 0, .slice none 0 0]).alloc _
  have b1 : Rd ((w.alloc (.cells #[.int .u64 0, .slice none 0 0] 38)).alloc (.cells #[.slice (some ad) bs.length c, .int .i64 0] 113)) (w.heap.size + 1) (some ad) bs.length c 0 := by
    have := Box.new (w.alloc (.cells #[.int .u64 0, .slice none 0 0] 38)) 113 [.slice (some ad) bs.length c, .int .i64 0]
    rw [show (w.alloc (.cells #[.int .u64 0, .slice none 0 0] 38)).heap.size = w.heap.size + 1 by simp] at this
    exact this
  have hz0 : ((w.alloc (.cells #[.int .u64 0, .slice none 0 0] 38)).alloc (.cells #[.slice (some ad) bs.length c, .int .i64 0] 113)).heap.size = w.heap.size + 2 := by simp
  have hrd : Rdr ((w.alloc (.cells #[.int .u64 0, .slice none 0 0] 38)).alloc (.cells #[.slice (some ad) bs.length c, .int .i64 0] 113)) (w.heap.size + 1) ad c bs 0 := ⟨b1, (hl.below hb0).up (by omega), hc, hm, h8, hs, Nat.zero_le _⟩
  have hp := batch_rd (w.heap.size + 1) ad c bs _ hrd h12
  clear hl hc hm h8 hrd
  go_enter Tryz.func41, Tryz.ntmps41
  go_wp2_with fail
  generalize (w.alloc (.cells #[.int .u64 0, .slice none 0 0] 38)).alloc (.cells #[.slice (some ad) bs.length c, .int .i64 0] 113) = w0 at hb0 b0 b1 hz0 hp ⊢
  refine hp.mono ?_
  rintro e W1 ⟨A2, c2, L, q, rfl, hL, hO, hk1, hr1, hq⟩
  have hb1 := hk1.below (B := w.heap.size + 1) (by omega) (fun k hk => by omega)
  have hb2 := hb0.trans (hb1.mono (Nat.le_succ _))
  have hz1 := hb1.size
  have b0 := b0.below hb1 (by omega)
  have hq1 := hr1.le
  generalize hs0 : ((batchL bs).2.1 : Int) = s at *
  have hba := Joins.below_alloc1 W1 (.cells #[.int .u64 s, .slice A2 L.length c2] 38)
  have b2 := b0.below hba (by omega)
  have b5 := Box.new W1 38 [.int .u64 s, .slice A2 L.length c2]
  have r2 := hr1.below hba (by omega)
  obtain ⟨_, p3, _, _⟩ := r2.rd.facts2
  obtain ⟨p0, p1, f0, f1⟩ := b2.facts2
  obtain ⟨p4, p5, _, _⟩ := b5.facts2
  have HB := Lib.hid (hb2.trans (hba.mono hb2.size))
  have B2 := Lib.hid b2
  have HO := Lib.hid (hO.later (w' := W1.alloc (.cells #[.int .u64 s, .slice A2 L.length c2] 38)) (R' := fun k => w.heap.size < k ∧ k < (W1.alloc (.cells #[.int .u64 s, .slice A2 L.length c2] 38)).heap.size) (fun k hk => hba.block k hk.2) fun k hk => ⟨by omega, Nat.lt_of_lt_of_le hk.2 hba.size⟩)
  have HL := Lib.hid hL
  have HQ := Lib.hid hq
  have HS := Lib.hid hs0
  have HZ := Lib.hid (show w.heap.size + 2 ≤ W1.heap.size by omega)
  clear hb0 b0 b1 hz0 hp hb1 hb2 hz1 hba b2 b5 r2 hO hL hk1 hr1 hq hs0
  rcases batch_three bs with ht | ht | ht
  · have HT := Lib.hid ht
    rw [ht]
    obtain rfl := HQ.out ht
    clear ht HQ
    have E1 := Lib.hid (show readB bs = if (batchL bs).2.2.2 ≠ bs.length then (2, 0, []) else (0, (batchL bs).2.1, (batchL bs).2.2.1) by rw [E0.out, if_neg (by rw [HT.out]; simp)])
    generalize (batchL bs).2.2.2 = q at *
    by_cases hqn : q < bs.length
    · have E2 := Lib.hid (show readB bs = (2, 0, []) by rw [E1.out, if_pos (by omega)])
      go_wp2_with fail
      obtain ⟨hkx, hbx, _⟩ := batch_end (g := w.heap.size + 1) (.int .u64 0) (.slice none 0 0) (below_keep HB.out) rfl B2.out _ rfl
      refine bodyPost_ret (results_box rfl Tryz.underlying38 (by kernel_rfl) _ rfl hbx) rfl ?_
      exact readedP_bad E2.out (hkx.below (Nat.le_refl _) fun k hk => by omega)
    · have E2 := Lib.hid (show readB bs = (0, (batchL bs).2.1, (batchL bs).2.2.1) by rw [E1.out, if_neg (by omega)])
      go_wp2_with fail
      obtain ⟨hkx, hbx, hk9⟩ := batch_end (g := w.heap.size + 1) (.int .u64 s) (.slice A2 L.length c2) (below_keep HB.out) rfl B2.out _ rfl
      refine bodyPost_ret (results_box rfl Tryz.underlying38 (by kernel_rfl) _ rfl hbx) rfl ?_
      have ho9 := HO.out.later (R' := fun k => w.heap.size ≤ k ∧ k < ((W1.alloc (.cells #[.int .u64 s, .slice A2 L.length c2] 38)).setCell ⟨w.heap.size, 0, none⟩ (.int .u64 s) |>.setCell ⟨w.heap.size, 1, none⟩ (.slice A2 L.length c2)).heap.size) (fun k hk => hk9.block k hk.2 (by omega)) fun k hk => ⟨by omega, Nat.lt_of_lt_of_le hk.2 hk9.size⟩
      exact ⟨A2, c2, L, by rw [E2.out, ← HS.out]; rfl, by rw [E2.out, HL.out], ho9, hkx.below (Nat.le_refl _) fun k hk => by omega⟩
  · have E2 := Lib.hid (show readB bs = (2, 0, []) by rw [E0.out, ht]; rfl)
    rw [ht]
    clear ht HQ
    go_wp2_with fail
    obtain ⟨hkx, hbx, _⟩ := batch_end (g := w.heap.size + 1) (.int .u64 0) (.slice none 0 0) (below_keep HB.out) rfl B2.out _ rfl
    refine bodyPost_ret (results_box rfl Tryz.underlying38 (by kernel_rfl) _ rfl hbx) rfl ?_
    exact readedP_bad E2.out (hkx.below (Nat.le_refl _) fun k hk => by omega)
  · have E2 := Lib.hid (show readB bs = (4, 0, []) by rw [E0.out, ht]; rfl)
    rw [ht]
    clear ht HQ
    go_wp2_with fail
    obtain ⟨hkx, hbx, _⟩ := batch_end (g := w.heap.size + 1) (.int .u64 0) (.slice none 0 0) (below_keep HB.out) rfl B2.out _ rfl
    refine bodyPost_ret (results_box rfl Tryz.underlying38 (by kernel_rfl) _ rfl hbx) rfl ?_
    exact readedP_bad E2.out (hkx.below (Nat.le_refl _) fun k hk => by omega)

theorem read_allP (A : Option Addr) (c : Nat) (bs : List Nat) (w : World) (hl : Lies w w.heap.size A (bs.map vb)) (hc : bs.length ≤ c) (hm : c ≤ maxLen) (h8 : ∀ x, x ∈ bs → x < 256) (hs : bs.length ≤ 20000000) :
    Calls Tryz.prog 41 #[.slice A bs.length c] w (ReadedP w bs) := by
  by_cases h : bs.length < 12
  · exact read_short A c bs w h
  · obtain ⟨ad, rfl, _⟩ := hl.place (by simp; omega)
    exact read_long ad c bs w hl hc hm h8 hs (by omega)
theorem read_all (A : Option Addr) (c : Nat) (bs : List Nat) (w : World) (hl : Lies w w.heap.size A (bs.map vb)) (hc : bs.length ≤ c) (hm : c ≤ maxLen) (h8 : ∀ x, x ∈ bs → x < 256) (hs : bs.length ≤ 20000000) :
    Calls Tryz.prog 41 #[.slice A bs.length c] w (Readed w bs) := (read_allP A c bs w hl hc hm h8 hs).mono fun _ _ h => h.old
end Go.Proofs.YtnbknihaefkllaaGreatDoor.Bt
/- What Recover of package wal answers. -/
namespace Go.Proofs.YtnbknihaefkllaaGreatDoor.Wl
set_option linter.unusedVariables false
set_option linter.unusedSimpArgs false
open Go.RowKit Go.Maps Lift Ik Dk
open Bt (O D Ops OpsP opsO readB read_allP)

/-- The bytes of a log: the error, the bytes, the disk behind it. -/
def contM (m : MS) (nm : ByteArray) : Nat × List Nat × MS :=
  if (sizeM m nm).1 ≠ 0 then ((sizeM m nm).1, [], (hit m).2)
  else ((readM (hit m).2 nm 0 ((sizeM m nm).2 : Int)).1, (readM (hit m).2 nm 0 ((sizeM m nm).2 : Int)).2, (hit (hit m).2).2)
/-- What is recovered of the bytes of a log. -/
def recR (bs : List Nat) (X : List BO) (cl : Nat) : Prop := ∃ L n c, Fr.Rd bs 0 false [] 0 [] (L, n, c) ∧ X = (recL L 0).1 ∧ cl = if (recL L 0).2 then 2 else c
theorem recR_det {bs : List Nat} {X X' : List BO} {cl cl' : Nat} (h : recR bs X cl) (h' : recR bs X' cl') : X = X' ∧ cl = cl' := by
  obtain ⟨L, n, c, h1, rfl, rfl⟩ := h
  obtain ⟨L', n', c', h1', rfl, rfl⟩ := h'
  have e := h1.det h1'
  simp only [Prod.mk.injEq] at e
  obtain ⟨rfl, rfl, rfl⟩ := e
  exact ⟨rfl, rfl⟩
theorem rd_small {b : List Nat} {a done : Nat} {wi : Bool} {now : List Nat} {out : List (List Nat)} {R : List (List Nat) × Nat × Nat} (h : Fr.Rd b a wi now done out R) (ha : a ≤ b.length) (hn : now.length ≤ a) (ho : ∀ r, r ∈ out → r.length ≤ b.length) :
    ∀ r, r ∈ R.1 → r.length ≤ b.length := by
  induction h with
  | stop h1 => exact ho
  | bad h1 h2 => exact ho
  | more h1 h2 h3 _ ih =>
    obtain ⟨k1, k2, _⟩ := Fr.nxt_len ha h1
    exact ih k2 (by rw [List.length_append]; omega) ho
  | full h1 h2 h3 _ ih =>
    obtain ⟨k1, k2, _⟩ := Fr.nxt_len ha h1
    refine ih k2 (by simp) fun r hr => ?_
    rcases List.mem_append.1 hr with hr | hr
    · exact ho r hr
    · simp at hr
      subst hr
      rw [List.length_append]
      omega
theorem rd_count {b : List Nat} {a done : Nat} {wi : Bool} {now : List Nat} {out : List (List Nat)} {R : List (List Nat) × Nat × Nat} (h : Fr.Rd b a wi now done out R) (ha : a ≤ b.length) (ho : out.length ≤ a) : R.1.length ≤ b.length := by
  induction h with
  | stop h1 => exact Nat.le_trans ho ha
  | bad h1 h2 => exact Nat.le_trans ho ha
  | more h1 h2 h3 _ ih =>
    obtain ⟨k1, k2, _⟩ := Fr.nxt_len ha h1
    exact ih k2 (by omega)
  | full h1 h2 h3 _ ih =>
    obtain ⟨k1, k2, _⟩ := Fr.nxt_len ha h1
    exact ih k2 (by rw [List.length_append, List.length_singleton]; omega)
theorem read_lt {bs : List Nat} (h8 : ∀ x, x ∈ bs → x < 256) : (readB bs).2.1 < 18446744073709551616 := by
  by_cases h : (readB bs).1 = 0
  · have := (fits_of (Bt.read_back h8 h).1).2
    omega
  · have := (Bt.read_err bs h).1
    omega
theorem readB_three (bs : List Nat) : (readB bs).1 = 0 ∨ (readB bs).1 = 2 ∨ (readB bs).1 = 4 := by
  rw [Bt.read_batch]
  rcases Bt.batch_three bs with h | h | h
  · rw [h, if_neg (by simp)]
    split <;> simp
  · rw [h]; simp
  · rw [h]; simp
section
variable {w w' : World} {g : Nat} {S S' : Nat → Prop} {m : MS}
theorem cont_bytes (nm : ByteArray) (h : At w g S m) : (contM m nm).2.1.length ≤ 16777216 ∧ ∀ x, x ∈ (contM m nm).2.1 → x < 256 := by
  obtain ⟨fs, M, A, c, h⟩ := h
  have key : ∀ (m' : MS) (n : Int), m'.fs = m.fs → (readM m' nm 0 n).2.length ≤ 16777216 ∧ ∀ x, x ∈ (readM m' nm 0 n).2 → x < 256 := by
    intro m' n hm'
    unfold readM onFile
    split
    · exact ⟨Nat.zero_le _, fun x hx => by simp at hx⟩
    · split
      · exact ⟨Nat.zero_le _, fun x hx => by simp at hx⟩
      · rename_i f hf
        have hm := get_mem hf
        rw [hm', h.told] at hm
        obtain ⟨f', hf', rfl⟩ := List.mem_map.1 hm
        have hl := (h.files.ok f' hf').len
        have h8 := (h.files.ok f' hf').byte
        dsimp only
        split
        · exact ⟨Nat.zero_le _, fun x hx => by simp at hx⟩
        · refine ⟨?_, fun x hx => h8 x (List.mem_of_mem_drop (List.mem_of_mem_take hx))⟩
          rw [List.length_take, List.length_drop]
          show min _ (f'.bs.length - _) ≤ _
          omega
  unfold contM
  split
  · exact ⟨Nat.zero_le _, fun x hx => by simp at hx⟩
  · exact key _ _ (hit_fs m).1
set_option maxRecDepth 100000 in
set_option maxHeartbeats 800000 in
theorem content_any (nm : ByteArray) (h : At w g S m) (hf : m.failed ≤ 900000) :
    Calls Tryz.prog 39 #[.pointer (some ⟨g, 0, none⟩), .string nm] w (Gave w g S (contM m nm).2.2 ((contM m nm).1, (contM m nm).2.1)) := by
  have HSG := Lib.hid (show S g by obtain ⟨fs, M, A', c', hL⟩ := h; exact hL.sg)
  have E0 := Lib.hid (fun h1 : (sizeM m nm).1 ≠ 0 => (show contM m nm = ((sizeM m nm).1, [], (hit m).2) by unfold contM; rw [if_pos h1]))
  have E1 := Lib.hid (fun h1 : (sizeM m nm).1 = 0 => (show contM m nm = ((readM (hit m).2 nm 0 ((sizeM m nm).2 : Int)).1, (readM (hit m).2 nm 0 ((sizeM m nm).2 : Int)).2, (hit (hit m).2).2) by unfold contM; rw [if_neg (by omega)]))
  have hn := size_len nm h
  have HSZ := Lib.hid (size_any nm h (by omega))
  have hz3 := size_three m nm
  have hf1 := hit_failed m
  clear h
  generalize (sizeM m nm).1 = er at *
  generalize (sizeM m nm).2 = n at *
  go_enter Tryz.func39, Tryz.ntmps39
  go_wp2_with fail
  refine HSZ.out.mono ?_
  rintro e W1 ⟨rfl, h1, hk1⟩
  have HK1 := Lib.hid (hk1.mono (T := S) fun k hk => by rw [hk]; exact HSG.out)
  have H1 := Lib.hid h1
  clear h1 hk1 HSZ
  by_cases k1 : er = 0
  · have E2 := Lib.hid (E1.out k1)
    have hr := read_any nm 0 (n : Int) (by decide) (by rw [Lit.wf_int_iff, show IntKind.i64.min = -9223372036854775808 by decide +kernel, show IntKind.i64.max = 9223372036854775807 by decide +kernel]; omega) H1.out (by omega)
    have HR := Lib.hid hr
    rw [k1]
    clear k1 hr E0 E1 hz3
    go_wp2_with fail
    refine HR.out.mono ?_
    rintro e W2 ⟨A2, c2, rfl, hl2, hc2, hm2, h2, hk2⟩
    have HL2 := Lib.hid hl2
    have HC2 := Lib.hid hc2
    have HM2 := Lib.hid hm2
    have H2 := Lib.hid h2
    have HK2 := Lib.hid (HK1.out.trans hk2 fun _ _ h => h)
    clear hl2 hc2 hm2 h2 hk2 HR
    go_wp2_with fail
    go_returns
    rw [E2.out]
    exact ⟨A2, c2, rfl, HL2.out.later (fun _ _ => rfl) fun k hk => ⟨Nat.le_trans HK1.out.size hk.1, hk.2⟩, HC2.out, HM2.out, H2.out, HK2.out⟩
  · have E2 := Lib.hid (E0.out k1)
    have d1 : ((er : Int) != 0) = true := by rw [bne_iff_ne]; omega
    clear k1 E0 E1 hz3
    go_wp2_with fail
    go_returns
    rw [E2.out]
    exact ⟨none, 0, rfl, .inl rfl, Nat.le_refl _, by decide, H1.out, HK1.out⟩
/-- What Recover tells of a log. -/
def Recov (w : World) (g : Nat) (S : Nat → Prop) (r : Nat × List Nat × MS) (e : Ending) (w' : World) : Prop :=
  ∃ (A : Option Addr) (c : Nat) (X : List G) (cl : Nat), e = .returned (.tuple #[.slice A X.length c, .int .i64 (cl : Int), .int .i64 (r.1 : Int)]) ∧ BatsP w' (fun k => w.heap.size ≤ k ∧ k < w'.heap.size) A c X ∧ At w' g S r.2.2 ∧ Keep S w w' ∧
    (r.1 ≠ 0 → X = [] ∧ cl = 0) ∧ (r.1 = 0 → recR r.2.1 (X.map G.o) cl)
theorem recL_bad {rs : List (List Nat)} {r : List Nat} {last : Nat} (h : (readB r).1 ≠ 0 ∨ (readB r).2.1 ≤ last) : recL (r :: rs) last = ([], true) := by unfold recL; rw [if_pos h]
theorem recL_more {rs : List (List Nat)} {r : List Nat} {last : Nat} (h : ¬ ((readB r).1 ≠ 0 ∨ (readB r).2.1 ≤ last)) :
    recL (r :: rs) last = (((readB r).2.1, (readB r).2.2) :: (recL rs ((readB r).2.1 + (readB r).2.2.length - 1)).1, (recL rs ((readB r).2.1 + (readB r).2.2.length - 1)).2) := by conv => lhs; unfold recL; rw [if_neg h]
theorem cont_zero (m : MS) (nm : ByteArray) : (contM m nm).1 = 0 ∨ 0 < (contM m nm).1 := by omega
set_option maxRecDepth 100000 in
set_option maxHeartbeats 3200000 in
theorem rec_any (nm : ByteArray) (h : At w g S m) (hf : m.failed ≤ 900000) :
    Calls Tryz.prog 21 #[.pointer (some ⟨g, 0, none⟩), .string nm] w (Recov w g S (contM m nm)) := by
  have HC := Lib.hid (content_any nm h hf)
  have hcs := cont_bytes nm h
  generalize contM m nm = r at *
  obtain ⟨er, bs, m'⟩ := r
  obtain ⟨hbl, hb8⟩ := hcs
  simp only at hbl hb8
  have H8 := Lib.hid hb8
  clear h hb8
  go_enter Tryz.func21, Tryz.ntmps21
  go_wp2_with fail
  refine HC.out.mono ?_
  rintro e W1 ⟨A1, c1, rfl, hl1, hc1, hm1, h1, hk1⟩
  have H1 := Lib.hid h1
  have HK1 := Lib.hid hk1
  by_cases k1 : er = 0
  · subst k1
    have hal := Fr.all_any A1 c1 bs W1 (hl1.lies fun k hk => hk.2) hc1 hm1 (by omega) H8.out
    have HAL := Lib.hid hal
    clear hl1 hc1 hm1 h1 hk1 hal HC
    go_wp2_with fail
    refine HAL.out.mono ?_
    rintro e W2 ⟨A2, c2, L, n, cl, rfl, hq2, hrd, hb2⟩
    have HQ := Lib.hid hq2
    have HRD := Lib.hid hrd
    have HB2 := Lib.hid hb2
    have HSM := Lib.hid (rd_small hrd (Nat.zero_le _) (Nat.le_refl _) (fun r hr => by simp at hr))
    have hLn : L.length ≤ c2 := hq2.len
    have hLm : c2 ≤ maxLen := hq2.cap
    have hcount := rd_count hrd (Nat.zero_le _) (Nat.zero_le _)
    rw [List.length_map] at hcount
    clear hq2 hrd hb2 HAL
    go_wp2_with fail
    go_loopw [12, 13, 35] (fun bt la i wr => ∃ (j last : Nat) (X : List G), i = .int .i64 (j : Int) ∧ la = .int .u64 (last : Int) ∧ j ≤ L.length ∧ last ≤ 72057594037927936 ∧ X.length ≤ j ∧ Hid (Acc W2.heap.size wr bt X) ∧ Hid (Below W2.heap.size W2 wr) ∧
        Hid (recL (L.map (·.bs)) 0 = (X.map G.o ++ (recL ((L.drop j).map (·.bs)) last).1, (recL ((L.drop j).map (·.bs)) last).2))) (fun _ _ i _ => L.length + 1 - (intOf i).toNat)
    case atStart => exact ⟨0, 0, [], rfl, rfl, Nat.zero_le _, Nat.zero_le _, Nat.le_refl _, Lib.hid (Acc.nil _ _), Lib.hid (Below.refl _ _), Lib.hid (by simp)⟩
    case round =>
      obtain ⟨j, last, X, rfl, rfl, hj, hlast, hXj, hacc, hbw, hrec⟩ := hrel
      by_cases hlt : j < L.length
      · obtain ⟨d, hd⟩ : ∃ d, L[j]? = some d := ⟨_, List.getElem?_eq_getElem hlt⟩
        have hq := HQ.out.below hbw.out
        obtain ⟨ad, hA, hz, hcell⟩ := hq.place hd
        subst hA
        have hdo := hq.ok d (List.mem_of_getElem? hd)
        have hds := HSM.out d.bs (List.mem_map.2 ⟨d, List.mem_of_getElem? hd, rfl⟩)
        have HR := Lib.hid (read_allP d.a d.c d.bs wr (hdo.lies.up hbw.out.size) hdo.cap hdo.max hdo.byte (by omega))
        have hdrop : L.drop j = d :: L.drop (j + 1) := by
          rw [List.drop_eq_getElem_cons hlt]
          congr 1
          exact Option.some.inj ((List.getElem?_eq_getElem hlt).symm.trans hd)
        have HREC := Lib.hid (show recL (L.map (·.bs)) 0 = (X.map G.o ++ (recL (d.bs :: (L.drop (j + 1)).map (·.bs)) last).1, (recL (d.bs :: (L.drop (j + 1)).map (·.bs)) last).2) by rw [hrec.out, hdrop]; rfl)
        have HAC := Lib.hid hacc.out
        have hd8 := Lib.hid hdo.byte
        clear hd hq hdo hds hdrop hrec hacc hz
        go_wp2_with fail
        refine HR.out.mono ?_
        rintro e W3 ⟨A3, c3, M, rfl, hM, hO3, hb3⟩
        have hfit : (readB d.bs).1 = 0 → 1 ≤ (readB d.bs).2.1 ∧ (readB d.bs).2.1 + (readB d.bs).2.2.length ≤ 72057594037927936 ∧ 1 ≤ (readB d.bs).2.2.length := fun h0 => by
          have hb := (Bt.read_back hd8.out h0).1
          exact ⟨(fits_of hb).1, (fits_of hb).2, (Bt.chk_parts (chk_of hb)).1⟩
        have hML : (readB d.bs).2.2.length = M.length := by rw [← hM]; simp [opsO]
        have RB := Lib.hid fun h => recL_bad (rs := (L.drop (j + 1)).map (·.bs)) (r := d.bs) (last := last) h
        have RM := Lib.hid fun h => recL_more (rs := (L.drop (j + 1)).map (·.bs)) (r := d.bs) (last := last) h
        have hth := readB_three d.bs
        have hslt := read_lt hd8.out
        generalize (readB d.bs).1 = er3 at *
        generalize (readB d.bs).2.1 = s3 at *
        generalize (readB d.bs).2.2 = l3 at *
        rw [hML] at hfit RM
        have hb4 := Joins.below_alloc1 W3 (.cells #[.int .u64 (s3 : Int), .slice A3 M.length c3] 38)
        have b4 := Box.new W3 38 [.int .u64 (s3 : Int), .slice A3 M.length c3]
        have hz4 : (W3.alloc (.cells #[.int .u64 (s3 : Int), .slice A3 M.length c3] 38)).heap.size = W3.heap.size + 1 := by simp
        obtain ⟨q0, q1, q2, q3⟩ := b4.facts2
        have hld : Sem.run Tryz.prog (loadVar 38 ⟨W3.heap.size, 0, none⟩) (W3.alloc (.cells #[.int .u64 (s3 : Int), .slice A3 M.length c3] 38)) = .ok (.agg #[.int .u64 (s3 : Int), .slice A3 M.length c3]) _ := load_bat (d := ⟨s3, A3, c3, M⟩) q0 q1
        have hb34 := hb3.trans (hb4.mono hb3.size)
        have HA4 := Lib.hid (HAC.out.fresh hb34)
        have HB4 := Lib.hid (hbw.out.trans (hb34.mono hbw.out.size))
        have OK4 := Lib.hid (show G.Ok (W3.alloc (.cells #[.int .u64 (s3 : Int), .slice A3 M.length c3] 38)) (fun k => wr.heap.size ≤ k ∧ k < W3.heap.size) ⟨s3, A3, c3, M⟩ from ⟨hslt, hO3.later (fun k hk => hb4.block k hk.2) fun _ h => h⟩)
        have BX4 := Lib.hid b4
        have HM := Lib.hid hM
        have HF := Lib.hid hfit
        have HLT := Lib.hid fun k hk => (HAC.out.own.lt k hk)
        have HSZ3 := Lib.hid hb3.size
        have HSZW := Lib.hid hbw.out.size
        clear hM hO3 hb3 hb4 b4 hb34 hfit HR hd8 hslt
        by_cases k3 : er3 = 0
        · by_cases k4 : s3 ≤ last
          · have d2 : decide (s3 ≤ last) = true := decide_eq_true k4
            have E3 := Lib.hid (show recL (L.map (·.bs)) 0 = (X.map G.o, true) by rw [HREC.out, RB.out (.inr k4)]; simp)
            obtain ⟨Ax, cx, rfl, hbx⟩ := HA4.out.bats
            have HBX := Lib.hid hbx
            rw [k3]
            clear k3 k4 hbx HREC RB RM hz4
            go_wp2_with fail
            go_returns
            exact ⟨Ax, cx, X, 2, rfl, HBX.out.later (fun _ _ => rfl) fun k hk => ⟨Nat.le_trans (Nat.le_trans HK1.out.size HB2.out.size) hk.1, hk.2⟩, (H1.out.below HB2.out).below HB4.out, (HK1.out.trans (below_keep (S := S) HB2.out) fun _ _ h => h).trans (below_keep (S := S) HB4.out) (fun _ _ h => h),
              fun h0 => absurd rfl h0, fun _ => ⟨_, n, cl, HRD.out, by rw [E3.out], by rw [E3.out]; rfl⟩⟩
          · have d2 : decide (s3 ≤ last) = false := decide_eq_false k4
            obtain ⟨f1, f2, f3⟩ := HF.out k3
            obtain ⟨v5, W5, hr5, ha5, ho5⟩ := HA4.out.more OK4.out (fun k hk => ⟨Nat.le_trans HSZW.out hk.1, by rw [hz4]; omega, fun e => by have := (HLT.out k e).2; omega⟩) HB4.out.size (by omega)
            rw [hz4] at hr5
            have b5 : Box W5 W3.heap.size 38 [.int .u64 (s3 : Int), .slice A3 M.length c3] := BX4.out.keep ho5.keep fun e => by have := (HLT.out _ e).2; have := HSZ3.out; omega
            have HB5 := Lib.hid (HB4.out.trans (ho5.below HA4.out.own HB4.out.size))
            have HA5 := Lib.hid ha5
            have HR5 := Lib.hid hr5
            obtain ⟨t0, t1, _, _⟩ := b5.facts2
            have HREC2 := Lib.hid (show recL (L.map (·.bs)) 0 = ((X ++ [(⟨s3, A3, c3, M⟩ : G)]).map G.o ++ (recL ((L.drop (j + 1)).map (·.bs)) (s3 + M.length - 1)).1, (recL ((L.drop (j + 1)).map (·.bs)) (s3 + M.length - 1)).2) by
              rw [HREC.out, RM.out (by omega), List.map_append, List.append_assoc]
              simp [G.o, HM.out])
            rw [k3]
            clear k3 k4 ho5 ha5 hr5 b5 HREC RB RM hz4
            go_wp2_with (at_builtin; refine wpList_append_run rfl _ _ 22 rfl rfl rfl HR5.out ?_)
            go_roundw
            case rel => exact ⟨j + 1, s3 + M.length - 1, X ++ [⟨s3, A3, c3, M⟩], by go_num, by go_num, by omega, by omega, by rw [List.length_append, List.length_singleton]; omega, HA5, HB5, HREC2⟩
            case measure => simp [intOf]; omega
        · have d1 : ((er3 : Int) != 0) = true := by rw [bne_iff_ne]; omega
          have E3 := Lib.hid (show recL (L.map (·.bs)) 0 = (X.map G.o, true) by rw [HREC.out, RB.out (.inl k3)]; simp)
          obtain ⟨Ax, cx, rfl, hbx⟩ := HA4.out.bats
          have HBX := Lib.hid hbx
          clear k3 hbx HREC RB RM hz4 hth
          go_wp2_with fail
          go_returns
          exact ⟨Ax, cx, X, 2, rfl, HBX.out.later (fun _ _ => rfl) fun k hk => ⟨Nat.le_trans (Nat.le_trans HK1.out.size HB2.out.size) hk.1, hk.2⟩, (H1.out.below HB2.out).below HB4.out, (HK1.out.trans (below_keep (S := S) HB2.out) fun _ _ h => h).trans (below_keep (S := S) HB4.out) (fun _ _ h => h),
            fun h0 => absurd rfl h0, fun _ => ⟨_, n, cl, HRD.out, by rw [E3.out], by rw [E3.out]; rfl⟩⟩
      · obtain rfl : j = L.length := by omega
        have HREC := Lib.hid (show recL (L.map (·.bs)) 0 = (X.map G.o, false) by rw [hrec.out, List.drop_length]; simp [recL])
        obtain ⟨Ax, cx, rfl, hbx⟩ := hacc.out.bats
        have HBX := Lib.hid hbx
        clear hbx hrec hacc
        go_wp2_with fail
        go_returns
        exact ⟨Ax, cx, X, cl, rfl, HBX.out.later (fun _ _ => rfl) fun k hk => ⟨Nat.le_trans (Nat.le_trans HK1.out.size HB2.out.size) hk.1, hk.2⟩, (H1.out.below HB2.out).below hbw.out, (HK1.out.trans (below_keep (S := S) HB2.out) fun _ _ h => h).trans (below_keep (S := S) hbw.out) (fun _ _ h => h),
          fun h0 => absurd rfl h0, fun _ => ⟨_, n, cl, HRD.out, by rw [HREC.out], by rw [HREC.out]; rfl⟩⟩
  · have d1 : ((er : Int) != 0) = true := by rw [bne_iff_ne]; omega
    have HE := Lib.hid k1
    clear k1 hl1 hc1 hm1 h1 hk1 HC
    go_wp2_with fail
    go_returns
    exact ⟨none, 0, [], 0, rfl, BatsP.zero _ _, H1.out, HK1.out, fun _ => ⟨rfl, rfl⟩, fun h0 => absurd h0 HE.out⟩
end
end Go.Proofs.YtnbknihaefkllaaGreatDoor.Wl
/- What the document's own PutVar makes of bytes and a number. -/
namespace Go.Proofs.YtnbknihaefkllaaGreatDoor.Vt
set_option linter.unusedVariables false
open Go.RowKit Lift Vn

theorem or_128' (y : Nat) (h : y < 18446744073709551616) : bits .or .u64 (bits .and .u64 (y : Int) 127) 128 % 256 = ((y % 128 + 128 : Nat) : Int) := by
  have h1 := u64_and_nat y 127 h (by decide)
  rw [show ((127 : Nat) : Int) = 127 from rfl] at h1
  have h3 : y &&& 127 = y % 128 := Nat.and_two_pow_sub_one_eq_mod y 7
  have h4 : y % 128 < 128 := Nat.mod_lt _ (by decide)
  have h2 := u64_or_nat (y % 128) 128 (by omega) (by decide)
  rw [show ((128 : Nat) : Int) = 128 from rfl] at h2
  rw [h1, h3, h2]
  have : ∀ n : Fin 128, n.val ||| 128 = n.val + 128 := by decide +kernel
  have h5 := this ⟨y % 128, h4⟩
  simp only at h5
  rw [h5]
  omega
theorem pow_small {f y p : Nat} (h : p + (f + 1) = 9) (hy : y < 2 * 128 ^ (f + 1)) : y < 18446744073709551616 := by
  have h1 : 128 ^ (f + 1) ≤ 128 ^ 9 := Nat.pow_le_pow_right (by decide) (by omega)
  have h2 : (128 : Nat) ^ 9 = 9223372036854775808 := by decide
  omega

set_option maxRecDepth 100000 in
set_option maxHeartbeats 400000 in
theorem putv_calls (A : Option Addr) (c x : Nat) (bs : List Nat) (w : World) (hl : Lies w w.heap.size A (bs.map vb)) (hm : bs.length ≤ 140737488355000) (hx : x < 18446744073709551616) :
    Calls Tryz.prog 60 #[.slice A bs.length c, .int .u64 x] w (Made w.heap.size w (bs ++ enc x)) := by
  have HL := Lib.hid hl
  have HX := Lib.hid hx
  clear hl hx
  go_enter Tryz.func60, Tryz.ntmps60
  obtain ⟨v2, w2, hr2, hown, hbw, hsz⟩ := run_append_lies (P := Tryz.prog) (w := w) (base := w.heap.size) (m := bs.length) (c := c) 24 24 5 (.int .u8 0) 1 1 Tryz.underlying24 (by kernel_rfl) rfl (by decide)
    (fun u hu => by simp at hu; obtain ⟨_, _, rfl⟩ := hu; rfl) (World.ownsRow_nil _ _ _ _) HL.out (by simp) (by unfold maxLen; omega) (by omega) (Nat.le_refl _)
  rw [Nat.zero_add, List.nil_append] at hown
  have HB := Lib.hid hbw
  have HR2 := Lib.hid hr2
  clear hbw hr2
  go_wp2_with (at_builtin; refine wpList_append_run rfl _ _ 24 rfl rfl rfl HR2.out ?_)
  go_loopw [1, 5] (fun u o wr => ∃ (f y : Nat) (pre : List Nat), u = .int .u64 y ∧ wr.ownsRow w.heap.size 5 1 o (bs.length + pre.length) ((bs ++ pre).map vb) ∧ Hid (enc x = pre ++ encN f y) ∧ pre.length ≤ 9 ∧ Hid (pre.length + f = 9) ∧ Hid (y < 2 * 128 ^ f) ∧
      Hid (Below w.heap.size w wr) ∧ w.heap.size ≤ wr.heap.size) (fun u _ _ => (intOf u).toNat)
  case atStart => exact ⟨9, x, [], rfl, by simpa using hown, Lib.hid rfl, by simp, Lib.hid rfl, Lib.hid (by have := HX.out; omega), HB, hsz⟩
  case round =>
    obtain ⟨f, y, pre, rfl, hown, he, hp9, hf, hy, hb, hsz⟩ := hrel
    have hlen : bs.length + pre.length + 1 ≤ maxLen ∧ (bs.length + pre.length + 1) * 1 ≤ 140737488355328 := by unfold maxLen; omega
    by_cases h128 : 128 ≤ y
    · obtain ⟨v', w1, hrun, hown1, hb1, hs1⟩ := run_append_one (P := Tryz.prog) (u := .int .u8 (bits .or .u64 (bits .and .u64 (y : Int) 127) 128 % 256)) 24 24 5 (.int .u8 0) 1 Tryz.underlying24 (by kernel_rfl) rfl rfl hown hlen.1 hlen.2 hsz
      have HO := Lib.hid hown1
      have HB1 := Lib.hid hb1
      have HR := Lib.hid hrun
      clear hown hown1 hlen hb1 hrun
      go_wp2_with (at_builtin; refine wpList_append_run rfl _ _ 24 rfl rfl rfl HR.out ?_)
      go_roundw
      case rel =>
        obtain ⟨f, rfl⟩ : ∃ k, f = k + 1 := by
          rcases f with _ | f
          · have := hy.out
            omega
          · exact ⟨f, rfl⟩
        have h9 := hf.out
        refine ⟨f, y / 128, pre ++ [y % 128 + 128], by go_num, ?_, Lib.hid ?_, by simp; omega, Lib.hid (by simp; omega), Lib.hid ?_, Lib.hid (hb.out.trans HB1.out), by omega⟩
        · have := HO.out
          rw [or_128' y (by have := hy.out; exact pow_small h9 this)] at this
          simp only [List.map_append, List.map_cons, List.map_nil, List.length_append, List.length_cons, List.length_nil, Nat.zero_add, ← Nat.add_assoc, ← List.append_assoc] at this ⊢
          exact this
        · rw [he.out]
          conv => lhs; rw [encN]
          rw [if_neg (by omega)]
          simp
        · have := hy.out
          rw [Nat.pow_succ] at this
          omega
      case measure => simp [intOf]; omega
    · obtain ⟨v', w1, hrun, hown1, hb1, hs1⟩ := run_append_one (P := Tryz.prog) (u := vb y) 24 24 5 (.int .u8 0) 1 Tryz.underlying24 (by kernel_rfl) rfl rfl hown hlen.1 hlen.2 hsz
      have HO := Lib.hid hown1
      have HB1 := Lib.hid hb1
      have HR := Lib.hid hrun
      have h1 : y < 128 := by omega
      clear hown hown1 hlen hb1 h128 hrun
      go_wp2_with (at_builtin; refine wpList_append_run rfl _ _ 24 rfl rfl rfl HR.out ?_)
      go_ret
      refine ⟨v', rfl, ?_, hb.out.trans HB1.out⟩
      have ee : encN f y = [y] := by
        rcases f with _ | f
        · rfl
        · simp [encN, h1]
      rw [he.out, ee]
      have := HO.out
      simpa [Nat.add_assoc] using this
end Go.Proofs.YtnbknihaefkllaaGreatDoor.Vt
/- What the document's own BatchBytes answers. -/
namespace Go.Proofs.YtnbknihaefkllaaGreatDoor.Bt
set_option linter.unusedVariables false
set_option linter.unusedSimpArgs false
open Go.RowKit Lift Ik Vn

set_option maxRecDepth 100000 in
set_option maxHeartbeats 1600000 in
theorem rbytes_any (s : Nat) (A : Option Addr) (c : Nat) (L : List D) (w : World) (hs : s < 18446744073709551616) (h : Ops w w.heap.size A c L) :
    Calls Tryz.prog 34 #[.agg #[.int .u64 (s : Int), .slice A L.length c]] w (Coded w (bytesB s (opsO L)) (bytesE s (opsO L))) := by
  have HO := Lib.hid h
  have HC := Lib.hid h.len
  have HM := Lib.hid h.cap
  have HCH := Lib.hid (chk_o L)
  clear h
  have hb0 := Joins.below_alloc1 w (.cells #[.int .u64 (s : Int), .slice A L.length c] 38)
  have b0 := Box.new w 38 [.int .u64 (s : Int), .slice A L.length c]
  have hz0 : (w.alloc (.cells #[.int .u64 (s : Int), .slice A L.length c] 38)).heap.size = w.heap.size + 1 := by simp
  have hc := rcheck_any A c L (w.alloc (.cells #[.int .u64 (s : Int), .slice A L.length c] 38)) (HO.out.next hb0)
  obtain ⟨p0, p1, _, _⟩ := b0.facts2
  go_enter Tryz.func34, Tryz.ntmps34
  go_wp2_with fail
  refine hc.mono ?_; rintro e W1 ⟨rfl, hb1⟩
  have HB1 := Lib.hid (hb0.trans (hb1.mono hb0.size))
  have b1 := b0.below hb1 (by omega)
  have B1 := Lib.hid b1
  clear p0 p1
  obtain ⟨p0, p1, _, _⟩ := b1.facts2
  have HG : Hid (w.heap.size < W1.heap.size) := Lib.hid (by have := hb1.size; omega)
  clear hb0 b0 hz0 hc hb1 b1
  rcases chk_three L with hk | hk | hk
  · have HK := Lib.hid hk
    have E0 := Lib.hid (show bytesE s (opsO L) = if fits s L.length = true then 0 else 1 by unfold bytesE; rw [← HCH.out, hk]; simp [opsO])
    obtain ⟨n1, n2, hok⟩ := chk_zero hk
    rw [hk]
    clear hk
    have HF := Lib.hid fun W => rfits_any s L.length W hs ⟨n1, n2⟩
    go_wp2_with fail
    refine (HF.out W1).mono ?_; rintro e w' ⟨rfl, rfl⟩
    cases hf : fits s L.length
    · have E1 := Lib.hid (show bytesE s (opsO L) = 1 by rw [E0.out, hf]; rfl)
      clear hf
      go_wp2_with fail
      go_returns
      exact coded_bad E1.out (by decide) HB1.out
    · have E1 := Lib.hid (show bytesE s (opsO L) = 0 by rw [E0.out, hf]; rfl)
      have E2 := Lib.hid (show bytesB s (opsO L) = low s 8 ++ low L.length 4 ++ bodyL L by unfold bytesB; rw [if_pos E1.out]; unfold encB bodyL; simp [opsO])
      have HOK := Lib.hid hok
      have hwr := u64_in L.length (by omega)
      clear hf hok p0 p1
      go_wp2_with fail
      refine wp_region_held_drew (S := fun w' => Hid (Below W1.heap.size W1 w')) (by kernel_rfl) (Lib.hid (Below.refl _ _).drew) (fun hS => ?_)
      refine wpAnyH_take (i := 0) (v := ?_) rfl (by kernel_rfl) (by kernel_rfl) (by kernel_rfl) (fun _ _ _ h => h) (Or.inl ⟨by rfl, ?_⟩) hS ?_
      rotate_left
      · intro w hw
        obtain ⟨p0, p1, _, _⟩ := (B1.out.below hw.out HG.out).facts2
        go_simp
        try with_reducible rfl
      try simp only [Act.put, List.getElem_toArray, List.getElem_cons_succ, List.getElem_cons_zero, List.setIfInBounds_toArray, List.set_cons_zero, List.set_cons_succ]
      refine wpAnyH_take (i := 1) (v := ?_) rfl (by kernel_rfl) (by kernel_rfl) (by kernel_rfl) (fun _ _ _ h => h) (Or.inl ⟨by rfl, ?_⟩) hS ?_
      rotate_left
      · intro w hw
        obtain ⟨p0, p1, _, _⟩ := (B1.out.below hw.out HG.out).facts2
        go_simp
        try with_reducible rfl
      try simp only [Act.put, List.getElem_toArray, List.getElem_cons_succ, List.getElem_cons_zero, List.setIfInBounds_toArray, List.set_cons_zero, List.set_cons_succ]
      refine wpAnyH_take (i := 3) (v := ?_) rfl (by kernel_rfl) (by kernel_rfl) (by kernel_rfl) (fun _ _ _ h => h) (Or.inl ⟨by rfl, ?_⟩) hS ?_
      rotate_left
      · intro w hw
        obtain ⟨p0, p1, _, _⟩ := (B1.out.below hw.out HG.out).facts2
        go_simp
        try with_reducible rfl
      try simp only [Act.put, List.getElem_toArray, List.getElem_cons_succ, List.getElem_cons_zero, List.setIfInBounds_toArray, List.set_cons_zero, List.set_cons_succ]
      refine wpAnyH_take (i := 4) (v := ?_) rfl (by kernel_rfl) (by kernel_rfl) (by kernel_rfl) (fun _ _ _ h => h) (Or.inl ⟨by rfl, ?_⟩) hS ?_
      rotate_left
      · intro w hw
        obtain ⟨p0, p1, _, _⟩ := (B1.out.below hw.out HG.out).facts2
        go_simp
        try with_reducible rfl
      try simp only [Act.put, List.getElem_toArray, List.getElem_cons_succ, List.getElem_cons_zero, List.setIfInBounds_toArray, List.set_cons_zero, List.set_cons_succ]
      refine wpAnyH_take (i := 5) (v := ?_) rfl (by kernel_rfl) (by kernel_rfl) (by kernel_rfl) (fun _ _ _ h => h) (Or.inl ⟨by rfl, ?_⟩) hS ?_
      rotate_left
      · intro w hw
        go_simp
        try with_reducible rfl
      try simp only [Act.put, List.getElem_toArray, List.getElem_cons_succ, List.getElem_cons_zero, List.setIfInBounds_toArray, List.set_cons_zero, List.set_cons_succ]
      refine wpAnyH_take (i := 6) (v := ?_) rfl (by kernel_rfl) (by kernel_rfl) (by kernel_rfl) (fun _ _ _ h => h) (Or.inl ⟨by rfl, ?_⟩) hS ?_
      rotate_left
      · intro w hw
        go_simp
        try with_reducible rfl
      try simp only [Act.put, List.getElem_toArray, List.getElem_cons_succ, List.getElem_cons_zero, List.setIfInBounds_toArray, List.set_cons_zero, List.set_cons_succ]
      refine wpAnyH_ready (rs := [2]) (by kernel_rfl) (by simp) ?_
      refine AllReadyH.cons rfl (fun K hK => ?_) AllReadyH.nil
      go_simp
      have hlow := low_any none 0 0 s 8 [] W1.drew (.inl rfl) (by simp) hs (by omega)
      have HLW := Lib.hid hlow
      clear hlow
      refine (show Calls Tryz.prog 59 #[.slice none 0 0, .int .u64 (s : Int), .int .i64 8] W1.drew _ from HLW.out).mono ?_
      intro e W2 hm2
      obtain ⟨A2, c2, rfl, _, _, hl2, hb2⟩ := hm2.parts
      rw [List.nil_append] at hl2 ⊢
      have H2 := Lib.hid (hS.out.trans (hb2.mono hS.out.size))
      have HLW2 := Lib.hid (low_any A2 c2 _ L.length 4 (low s 8) W2 hl2 (by rw [low_length]; omega) (by omega) (by omega))
      clear hm2 hl2 hb2 HLW
      go_wp2_with fail
      refine hK.out _ _ H2 (fun hS2 => ?_)
      clear hK K hS
      try simp only [Act.put, List.getElem_toArray, List.getElem_cons_succ, List.getElem_cons_zero, List.setIfInBounds_toArray, List.set_cons_zero, List.set_cons_succ]
      refine wpAnyH_ready (rs := [7]) (by kernel_rfl) (by simp) ?_
      refine AllReadyH.cons rfl (fun K hK => ?_) AllReadyH.nil
      go_simp
      refine (show Calls Tryz.prog 59 #[.slice A2 (low s 8).length c2, .int .u64 (L.length : Int), .int .i64 4] W2 _ from HLW2.out).mono ?_
      rintro e W3 ⟨v3, rfl, hown3, hb3⟩
      have H3 := Lib.hid (H2.out.trans (hb3.mono H2.out.size))
      have hl12 : Hid ((low s 8 ++ low L.length 4).length = 12) := Lib.hid (by simp [low_length])
      generalize low s 8 ++ low L.length 4 = H at hown3 hl12 E2
      have HO3 := Lib.hid (Joins.ownsRow_le hown3 H2.out.size)
      clear hown3 hb3 HLW2
      go_wp2_with fail
      refine hK.out _ _ H3 (fun hS => ?_)
      clear hK K hS2
      try simp only [Act.put, List.getElem_toArray, List.getElem_cons_succ, List.getElem_cons_zero, List.setIfInBounds_toArray, List.set_cons_zero, List.set_cons_succ]
      refine wpAnyH_take (i := 8) (v := ?_) rfl (by kernel_rfl) (by kernel_rfl) (by kernel_rfl) (fun _ _ _ h => h) (Or.inl ⟨by rfl, ?_⟩) hS ?_
      rotate_left
      · intro w hw
        go_simp
        try with_reducible rfl
      try simp only [Act.put, List.getElem_toArray, List.getElem_cons_succ, List.getElem_cons_zero, List.setIfInBounds_toArray, List.set_cons_zero, List.set_cons_succ]
      refine wpAnyH_done (by kernel_rfl) ?_ _
      clear hS
      obtain ⟨p0, p1, _, _⟩ := (B1.out.below H3.out HG.out).facts2
      go_wp2_with fail
      clear p0 p1
      have HX := Lib.hid fun w' (hb : Below W1.heap.size W1 w') => (B1.out.below hb HG.out).facts2
      go_loopw [5, 6] (fun o i wr => ∃ j : Nat, j ≤ L.length ∧ i = .int .i64 j ∧ wr.ownsRow W1.heap.size 5 1 o (H ++ bodyL (L.take j)).length ((H ++ bodyL (L.take j)).map vb) ∧ Hid (Below W1.heap.size W1 wr)) (fun _ i _ => L.length + 1 - (intOf i).toNat)
      case atStart => exact ⟨0, by omega, rfl, by simpa [bodyL, opsO] using HO3.out, H3⟩
      case round =>
        obtain ⟨j, hj, rfl, hown, hb⟩ := hrel
        obtain ⟨p00, p01, _, _⟩ := HX.out _ hb.out
        by_cases hlt : j < L.length
        · obtain ⟨d, hd⟩ : ∃ d, L[j]? = some d := ⟨_, List.getElem?_eq_getElem hlt⟩
          have hbw := HB1.out.trans (hb.out.mono HB1.out.size)
          have ho2 := HO.out.below hbw
          obtain ⟨ad, p, hA, hz, hp, hpb, p0, p1, p2⟩ := ho2.place hd
          subst hA
          clear hz hpb
          have hld := load_op p0 p1 p2
          have hdo := ho2.ok d (List.mem_of_getElem? hd)
          have hblen := body_len (L := L.take j) fun x hx => HOK.out x (List.mem_of_mem_take hx)
          rw [List.length_take, Nat.min_eq_left hj] at hblen
          have HD := Lib.hid (body_take hd)
          have HOKD := Lib.hid (HOK.out d (List.mem_of_getElem? hd))
          have HOW := Lib.hid hown
          have KL := Lib.hid (hdo.kl.lies (B := w.heap.size) fun _ h => h)
          have VL := Lib.hid (hdo.vl.lies (B := w.heap.size) fun _ h => h)
          clear hd hbw ho2 hdo hown
          obtain ⟨_, kl2, vl2, hkk⟩ := ok_parts HOKD.out
          have kl2 : d.key.length ≤ 256 := kl2
          have vl2 : d.val.length ≤ 4096 := vl2
          have hkb : (d.kind % 256 : Int) = (d.kind.toNat : Int) := by
            have : (d.kind = 0 ∧ d.val = []) ∨ d.kind = 1 := hkk
            omega
          have hwk := u64_in d.key.length (by omega)
          have hwv := u64_in d.val.length (by omega)
          obtain ⟨xs, hxs⟩ : ∃ xs, xs = H ++ bodyL (L.take j) := ⟨_, rfl⟩
          rw [← hxs] at HOW
          have hxl : Hid (xs.length ≤ 600000) := Lib.hid (by rw [hxs, List.length_append, hl12.out]; omega)
          have XS := Lib.hid hxs
          clear hblen hkk hxs
          obtain ⟨k, ek⟩ : ∃ k, k = d.kind.toNat := ⟨_, rfl⟩
          rw [← ek] at hkb
          have EK := Lib.hid ek
          clear ek
          have b0 := Box.new wr 51 [.int .i64 d.kind, .slice d.ka d.key.length d.kc, .slice d.va d.val.length d.vc]
          have hz0 : (wr.alloc (.cells #[.int .i64 d.kind, .slice d.ka d.key.length d.kc, .slice d.va d.val.length d.vc] 51)).heap.size = wr.heap.size + 1 := by simp
          have hcell : Lies ((wr.alloc (.cells #[.int .i64 d.kind, .slice d.ka d.key.length d.kc, .slice d.va d.val.length d.vc] 51)).alloc (.cells #[.int .u8 (k : Int)] 5)) (wr.heap.size + 2) (some ⟨wr.heap.size + 1, 0, none⟩) [.int .u8 (k : Int)] := by
            have := lies_block (B := wr.heap.size + 2) (heap_alloc_new (wr.alloc (.cells #[.int .i64 d.kind, .slice d.ka d.key.length d.kc, .slice d.va d.val.length d.vc] 51)) (.cells #[.int .u8 (k : Int)] 5)) (by omega)
            rw [hz0] at this
            exact this
          obtain ⟨v4, W4, hr4, hown4, hon4⟩ := run_append_onto (P := Tryz.prog) (m := 1) (c := 1) 24 24 5 (.int .u8 0) 1 1 Tryz.underlying24 (by kernel_rfl) rfl (by decide)
            (fun u hu => by simp at hu; subst hu; rfl) ((HOW.out.alloc (.cells #[.int .i64 d.kind, .slice d.ka d.key.length d.kc, .slice d.va d.val.length d.vc] 51)).alloc (.cells #[.int .u8 (k : Int)] 5)) hcell rfl (by have := hxl.out; unfold maxLen; omega) (by have := hxl.out; omega) (by have := hb.out.size; simp; omega)
          have h4 := Onto.pre (Joins.below_alloc2 wr (.cells #[.int .i64 d.kind, .slice d.ka d.key.length d.kc, .slice d.va d.val.length d.vc] 51) (.cells #[.int .u8 (k : Int)] 5)) hon4
          have b4 := (b0.alloc (.cells #[.int .u8 (k : Int)] 5)).keep hon4.keep (fun hk2 => by have := (HOW.out.lt _ hk2).2; omega)
          obtain ⟨X, hX⟩ : ∃ X, X = xs ++ [k] := ⟨_, rfl⟩
          have hown4 : W4.ownsRow W1.heap.size 5 1 v4 X.length (X.map vb) := by
            rw [hX, List.length_append, List.map_append]; exact hown4
          have hXl : Hid (X.length ≤ 600001) := Lib.hid (by have := hxl.out; rw [hX, List.length_append]; simp; omega)
          have HX4 := Lib.hid hX
          obtain ⟨A4, c4, hv4, _, _, hl4⟩ := own_parts hown4
          subst hv4
          have HO4 := Lib.hid hown4
          have HL4 := Lib.hid hl4
          have HKW4 := Lib.hid (h4.below HOW.out hb.out.size)
          have HB4 := Lib.hid (hb.out.trans HKW4.out)
          have BX4 := Lib.hid b4
          have HG4 := Lib.hid b4.lt
          have HR4 := Lib.hid hr4
          clear b0 hz0 hcell hr4 hown4 hon4 h4 b4 hX hl4
          go_wp2_with (at_builtin; refine wpList_append_run rfl _ _ 24 rfl rfl rfl HR4.out ?_)
          clear p0 p1 p2 hld HR4
          refine wp_region_held_drew (S := fun w' => Hid (Below W4.heap.size W4 w')) (by kernel_rfl) (Lib.hid (Below.refl _ _).drew) (fun hS => ?_)
          refine wpAnyH_take (i := 0) (v := ?_) rfl (by kernel_rfl) (by kernel_rfl) (by kernel_rfl) (fun _ _ _ h => h) (Or.inl ⟨by rfl, ?_⟩) hS ?_
          rotate_left
          · intro w hw
            obtain ⟨q0, q1, q2, _, _, _⟩ := (BX4.out.below hw.out HG4.out).facts3
            go_simp
            try with_reducible rfl
          try simp only [Act.put, List.getElem_toArray, List.getElem_cons_succ, List.getElem_cons_zero, List.setIfInBounds_toArray, List.set_cons_zero, List.set_cons_succ]
          refine wpAnyH_take (i := 1) (v := ?_) rfl (by kernel_rfl) (by kernel_rfl) (by kernel_rfl) (fun _ _ _ h => h) (Or.inl ⟨by rfl, ?_⟩) hS ?_
          rotate_left
          · intro w hw
            obtain ⟨q0, q1, q2, _, _, _⟩ := (BX4.out.below hw.out HG4.out).facts3
            go_simp
            try with_reducible rfl
          try simp only [Act.put, List.getElem_toArray, List.getElem_cons_succ, List.getElem_cons_zero, List.setIfInBounds_toArray, List.set_cons_zero, List.set_cons_succ]
          refine wpAnyH_take (i := 2) (v := ?_) rfl (by kernel_rfl) (by kernel_rfl) (by kernel_rfl) (fun _ _ _ h => h) (Or.inl ⟨by rfl, ?_⟩) hS ?_
          rotate_left
          · intro w hw
            obtain ⟨q0, q1, q2, _, _, _⟩ := (BX4.out.below hw.out HG4.out).facts3
            go_simp
            try with_reducible rfl
          try simp only [Act.put, List.getElem_toArray, List.getElem_cons_succ, List.getElem_cons_zero, List.setIfInBounds_toArray, List.set_cons_zero, List.set_cons_succ]
          refine wpAnyH_take (i := 3) (v := ?_) rfl (by kernel_rfl) (by kernel_rfl) (by kernel_rfl) (fun _ _ _ h => h) (Or.inl ⟨by rfl, ?_⟩) hS ?_
          rotate_left
          · intro w hw
            obtain ⟨q0, q1, q2, _, _, _⟩ := (BX4.out.below hw.out HG4.out).facts3
            go_simp
            try with_reducible rfl
          try simp only [Act.put, List.getElem_toArray, List.getElem_cons_succ, List.getElem_cons_zero, List.setIfInBounds_toArray, List.set_cons_zero, List.set_cons_succ]
          refine wpAnyH_take (i := 4) (v := ?_) rfl (by kernel_rfl) (by kernel_rfl) (by kernel_rfl) (fun _ _ _ h => h) (Or.inl ⟨by rfl, ?_⟩) hS ?_
          rotate_left
          · intro w hw
            obtain ⟨q0, q1, q2, _, _, _⟩ := (BX4.out.below hw.out HG4.out).facts3
            go_simp
            try with_reducible rfl
          try simp only [Act.put, List.getElem_toArray, List.getElem_cons_succ, List.getElem_cons_zero, List.setIfInBounds_toArray, List.set_cons_zero, List.set_cons_succ]
          refine wpAnyH_take (i := 6) (v := ?_) rfl (by kernel_rfl) (by kernel_rfl) (by kernel_rfl) (fun _ _ _ h => h) (Or.inl ⟨by rfl, ?_⟩) hS ?_
          rotate_left
          · intro w hw
            obtain ⟨q0, q1, q2, _, _, _⟩ := (BX4.out.below hw.out HG4.out).facts3
            go_simp
            try with_reducible rfl
          try simp only [Act.put, List.getElem_toArray, List.getElem_cons_succ, List.getElem_cons_zero, List.setIfInBounds_toArray, List.set_cons_zero, List.set_cons_succ]
          refine wpAnyH_take (i := 7) (v := ?_) rfl (by kernel_rfl) (by kernel_rfl) (by kernel_rfl) (fun _ _ _ h => h) (Or.inl ⟨by rfl, ?_⟩) hS ?_
          rotate_left
          · intro w hw
            obtain ⟨q0, q1, q2, _, _, _⟩ := (BX4.out.below hw.out HG4.out).facts3
            go_simp
            try with_reducible rfl
          try simp only [Act.put, List.getElem_toArray, List.getElem_cons_succ, List.getElem_cons_zero, List.setIfInBounds_toArray, List.set_cons_zero, List.set_cons_succ]
          refine wpAnyH_ready (rs := [5]) (by kernel_rfl) (by simp) ?_
          refine AllReadyH.cons rfl (fun K hK => ?_) AllReadyH.nil
          go_simp
          refine (Vt.putv_calls A4 c4 d.key.length X W4.drew HL4.out (by have := hXl.out; omega) (by omega)).mono ?_
          rintro e W5 ⟨v5, rfl, hown5, hb5⟩
          have H5 := Lib.hid (hS.out.trans (hb5.mono hS.out.size))
          have HO5 := Lib.hid hown5
          clear hown5 hb5
          go_wp2_with fail
          refine hK.out _ _ H5 (fun hS5 => ?_)
          clear hK K hS
          try simp only [Act.put, List.getElem_toArray, List.getElem_cons_succ, List.getElem_cons_zero, List.setIfInBounds_toArray, List.set_cons_zero, List.set_cons_succ]
          refine wpAnyH_ready (rs := [8]) (by kernel_rfl) (by simp) ?_
          refine AllReadyH.cons rfl (fun K hK => ?_) AllReadyH.nil
          obtain ⟨v6, W6, hr6, hown6, hon6⟩ := append_bytes (c := d.kc) HO5.out (KL.out.below ((HKW4.out.trans (H5.out.mono (Nat.le_trans hb.out.size HKW4.out.size))).mono (Nat.le_of_lt HG.out))) (by have := hXl.out; have := enc_len10 d.key.length; simp; omega) H5.out.size
          have H6 := Lib.hid (H5.out.trans (hon6.below HO5.out H5.out.size))
          have HO6 := Lib.hid (Joins.ownsRow_le hown6 (Nat.le_trans hb.out.size HKW4.out.size))
          refine held_append rfl _ _ 24 rfl rfl rfl hr6 ?_
          refine hK.out _ _ H6 (fun hS => ?_)
          clear hr6 hown6 hon6 hK K hS5
          try simp only [Act.put, List.getElem_toArray, List.getElem_cons_succ, List.getElem_cons_zero, List.setIfInBounds_toArray, List.set_cons_zero, List.set_cons_succ]
          refine wpAnyH_take (i := 9) (v := ?_) rfl (by kernel_rfl) (by kernel_rfl) (by kernel_rfl) (fun _ _ _ h => h) (Or.inl ⟨by rfl, ?_⟩) hS ?_
          rotate_left
          · intro w hw
            go_simp
            try with_reducible rfl
          try simp only [Act.put, List.getElem_toArray, List.getElem_cons_succ, List.getElem_cons_zero, List.setIfInBounds_toArray, List.set_cons_zero, List.set_cons_succ]
          refine wpAnyH_done (by kernel_rfl) ?_ _
          have b6 := BX4.out.below H6.out HG4.out
          have BX6 := Lib.hid b6
          have HG6 := Lib.hid b6.lt
          obtain ⟨q0, q1, q2, _, _, _⟩ := b6.facts3
          obtain ⟨Y, hY⟩ : ∃ Y, Y = X ++ enc d.key.length ++ d.key := ⟨_, rfl⟩
          rw [← hY] at HO6
          have hXl : Hid (Y.length ≤ 610000) := Lib.hid (by have := hXl.out; have := enc_len10 d.key.length; rw [hY, List.length_append, List.length_append]; omega)
          obtain ⟨A6, c6, hv6, _, _, hl6⟩ := own_parts HO6.out
          subst hv6
          have HL6 := Lib.hid hl6
          have HKW6 := Lib.hid (HKW4.out.trans (H6.out.mono (Nat.le_trans hb.out.size HKW4.out.size)))
          have HB6 := Lib.hid (hb.out.trans HKW6.out)
          have HY := Lib.hid hY
          clear b6 hY hl6 hS
          by_cases hk1 : d.kind = 1
          · have dk : (d.kind == 1) = true := by rw [beq_iff_eq]; exact hk1
            have HK1 := Lib.hid hk1
            clear hk1 hkb
            go_wp2_with fail
            clear q0 q1 q2 dk
            refine wp_region_held_drew (S := fun w' => Hid (Below W6.heap.size W6 w')) (by kernel_rfl) (Lib.hid (Below.refl _ _).drew) (fun hS => ?_)
            refine wpAnyH_take (i := 0) (v := ?_) rfl (by kernel_rfl) (by kernel_rfl) (by kernel_rfl) (fun _ _ _ h => h) (Or.inl ⟨by rfl, ?_⟩) hS ?_
            rotate_left
            · intro w hw
              obtain ⟨q0, q1, q2, _, _, _⟩ := (BX6.out.below hw.out HG6.out).facts3
              go_simp
              try with_reducible rfl
            try simp only [Act.put, List.getElem_toArray, List.getElem_cons_succ, List.getElem_cons_zero, List.setIfInBounds_toArray, List.set_cons_zero, List.set_cons_succ]
            refine wpAnyH_take (i := 1) (v := ?_) rfl (by kernel_rfl) (by kernel_rfl) (by kernel_rfl) (fun _ _ _ h => h) (Or.inl ⟨by rfl, ?_⟩) hS ?_
            rotate_left
            · intro w hw
              obtain ⟨q0, q1, q2, _, _, _⟩ := (BX6.out.below hw.out HG6.out).facts3
              go_simp
              try with_reducible rfl
            try simp only [Act.put, List.getElem_toArray, List.getElem_cons_succ, List.getElem_cons_zero, List.setIfInBounds_toArray, List.set_cons_zero, List.set_cons_succ]
            refine wpAnyH_take (i := 2) (v := ?_) rfl (by kernel_rfl) (by kernel_rfl) (by kernel_rfl) (fun _ _ _ h => h) (Or.inl ⟨by rfl, ?_⟩) hS ?_
            rotate_left
            · intro w hw
              obtain ⟨q0, q1, q2, _, _, _⟩ := (BX6.out.below hw.out HG6.out).facts3
              go_simp
              try with_reducible rfl
            try simp only [Act.put, List.getElem_toArray, List.getElem_cons_succ, List.getElem_cons_zero, List.setIfInBounds_toArray, List.set_cons_zero, List.set_cons_succ]
            refine wpAnyH_take (i := 3) (v := ?_) rfl (by kernel_rfl) (by kernel_rfl) (by kernel_rfl) (fun _ _ _ h => h) (Or.inl ⟨by rfl, ?_⟩) hS ?_
            rotate_left
            · intro w hw
              obtain ⟨q0, q1, q2, _, _, _⟩ := (BX6.out.below hw.out HG6.out).facts3
              go_simp
              try with_reducible rfl
            try simp only [Act.put, List.getElem_toArray, List.getElem_cons_succ, List.getElem_cons_zero, List.setIfInBounds_toArray, List.set_cons_zero, List.set_cons_succ]
            refine wpAnyH_take (i := 4) (v := ?_) rfl (by kernel_rfl) (by kernel_rfl) (by kernel_rfl) (fun _ _ _ h => h) (Or.inl ⟨by rfl, ?_⟩) hS ?_
            rotate_left
            · intro w hw
              obtain ⟨q0, q1, q2, _, _, _⟩ := (BX6.out.below hw.out HG6.out).facts3
              go_simp
              try with_reducible rfl
            try simp only [Act.put, List.getElem_toArray, List.getElem_cons_succ, List.getElem_cons_zero, List.setIfInBounds_toArray, List.set_cons_zero, List.set_cons_succ]
            refine wpAnyH_take (i := 6) (v := ?_) rfl (by kernel_rfl) (by kernel_rfl) (by kernel_rfl) (fun _ _ _ h => h) (Or.inl ⟨by rfl, ?_⟩) hS ?_
            rotate_left
            · intro w hw
              obtain ⟨q0, q1, q2, _, _, _⟩ := (BX6.out.below hw.out HG6.out).facts3
              go_simp
              try with_reducible rfl
            try simp only [Act.put, List.getElem_toArray, List.getElem_cons_succ, List.getElem_cons_zero, List.setIfInBounds_toArray, List.set_cons_zero, List.set_cons_succ]
            refine wpAnyH_take (i := 7) (v := ?_) rfl (by kernel_rfl) (by kernel_rfl) (by kernel_rfl) (fun _ _ _ h => h) (Or.inl ⟨by rfl, ?_⟩) hS ?_
            rotate_left
            · intro w hw
              obtain ⟨q0, q1, q2, _, _, _⟩ := (BX6.out.below hw.out HG6.out).facts3
              go_simp
              try with_reducible rfl
            try simp only [Act.put, List.getElem_toArray, List.getElem_cons_succ, List.getElem_cons_zero, List.setIfInBounds_toArray, List.set_cons_zero, List.set_cons_succ]
            refine wpAnyH_ready (rs := [5]) (by kernel_rfl) (by simp) ?_
            refine AllReadyH.cons rfl (fun K hK => ?_) AllReadyH.nil
            go_simp
            refine (Vt.putv_calls A6 c6 d.val.length Y W6.drew HL6.out (by have := hXl.out; omega) (by omega)).mono ?_
            rintro e W7 ⟨v7, rfl, hown7, hb7⟩
            have H7 := Lib.hid (hS.out.trans (hb7.mono hS.out.size))
            have HO7 := Lib.hid hown7
            clear hown7 hb7
            go_wp2_with fail
            refine hK.out _ _ H7 (fun hS7 => ?_)
            clear hK K hS
            try simp only [Act.put, List.getElem_toArray, List.getElem_cons_succ, List.getElem_cons_zero, List.setIfInBounds_toArray, List.set_cons_zero, List.set_cons_succ]
            refine wpAnyH_ready (rs := [8]) (by kernel_rfl) (by simp) ?_
            refine AllReadyH.cons rfl (fun K hK => ?_) AllReadyH.nil
            obtain ⟨v8, W8, hr8, hown8, hon8⟩ := append_bytes (c := d.vc) HO7.out (VL.out.below ((HKW6.out.trans (H7.out.mono (Nat.le_trans hb.out.size HKW6.out.size))).mono (Nat.le_of_lt HG.out))) (by have := hXl.out; have := enc_len10 d.val.length; simp; omega) H7.out.size
            have H8 := Lib.hid (H7.out.trans (hon8.below HO7.out H7.out.size))
            have HO8 := Lib.hid (Joins.ownsRow_le hown8 (Nat.le_trans hb.out.size HKW6.out.size))
            refine held_append rfl _ _ 24 rfl rfl rfl hr8 ?_
            refine hK.out _ _ H8 (fun hS => ?_)
            clear hr8 hown8 hon8 hK K hS7
            try simp only [Act.put, List.getElem_toArray, List.getElem_cons_succ, List.getElem_cons_zero, List.setIfInBounds_toArray, List.set_cons_zero, List.set_cons_succ]
            refine wpAnyH_take (i := 9) (v := ?_) rfl (by kernel_rfl) (by kernel_rfl) (by kernel_rfl) (fun _ _ _ h => h) (Or.inl ⟨by rfl, ?_⟩) hS ?_
            rotate_left
            · intro w hw
              go_simp
              try with_reducible rfl
            try simp only [Act.put, List.getElem_toArray, List.getElem_cons_succ, List.getElem_cons_zero, List.setIfInBounds_toArray, List.set_cons_zero, List.set_cons_succ]
            refine wpAnyH_done (by kernel_rfl) ?_ _
            have HB8 := Lib.hid (HB6.out.trans (H8.out.mono (Nat.le_trans (Nat.le_refl _) HB6.out.size)))
            have e8 : Y ++ enc d.val.length ++ d.val = H ++ bodyL (L.take (j + 1)) := by
              rw [HD.out, ← List.append_assoc, ← XS.out, HY.out, HX4.out]
              have : encO d.o = k :: (text d.key ++ text d.val) := by
                rw [EK.out]; unfold encO; rw [if_pos (show d.o.kind = 1 from HK1.out)]; rfl
              rw [this]
              simp [text]
            rw [e8] at HO8
            clear hS e8
            go_wp2_with fail
            go_roundw
            case rel => exact ⟨j + 1, by omega, by go_num, HO8.out, HB8⟩
            case measure => simp [intOf]; omega
          · have dk : (d.kind == 1) = false := by rw [beq_eq_false_iff_ne]; exact hk1
            have e6 : Y = H ++ bodyL (L.take (j + 1)) := by
              rw [HD.out, ← List.append_assoc, ← XS.out, HY.out, HX4.out]
              have : encO d.o = k :: text d.key := by
                rw [EK.out]; unfold encO; rw [if_neg (show ¬ d.o.kind = 1 from hk1), List.append_nil]; rfl
              rw [this]
              simp [text]
            have E6 := Lib.hid e6
            have HN1 := Lib.hid hk1
            clear e6 hk1 hkb
            go_wp2_with fail
            go_roundw
            case rel => exact ⟨j + 1, by omega, by go_num, by rw [← E6.out]; exact HO6.out, HB6⟩
            case measure => simp [intOf]; omega
        · obtain rfl : j = L.length := by omega
          have HOW := Lib.hid hown
          clear hown
          go_wp2_with fail
          go_returns
          refine ⟨_, by rw [E1.out]; rfl, ?_, HB1.out.trans (hb.out.mono HB1.out.size)⟩
          have := HOW.out
          rw [List.take_length] at this
          rw [E2.out]
          exact Joins.ownsRow_le this (Nat.le_of_lt HG.out)
  · have E1 := Lib.hid (show bytesE s (opsO L) = 1 by unfold bytesE; rw [← HCH.out, hk]; rfl)
    rw [hk]
    clear hk
    go_wp2_with fail
    go_returns
    exact coded_bad E1.out (by decide) HB1.out
  · have E1 := Lib.hid (show bytesE s (opsO L) = 3 by unfold bytesE; rw [← HCH.out, hk]; rfl)
    rw [hk]
    clear hk
    go_wp2_with fail
    go_returns
    exact coded_bad E1.out (by decide) HB1.out
end Go.Proofs.YtnbknihaefkllaaGreatDoor.Bt
/- What the document's own field answers. -/
namespace Go.Proofs.YtnbknihaefkllaaGreatDoor.Bt
set_option linter.unusedVariables false
set_option linter.unusedSimpArgs false
open Go.RowKit Lift Ik Vn

theorem sub_lies {w : World} {B p m : Nat} {A A' : Option Addr} {bs : List Nat} (hl : Lies w B A (bs.map vb)) (h : p + m ≤ bs.length) (hA : 0 < m → A' = A.map (·.add p)) : Lies w B A' (((bs.drop p).take m).map vb) := by
  by_cases h0 : m = 0
  · left; subst h0; simp
  · rw [hA (by omega)]
    obtain ⟨ad, rfl, hadb, hcell⟩ := hl.place (by simp; omega)
    refine .inr ⟨ad.add p, rfl, by rw [add_block]; exact hadb, fun j u hj => ?_⟩
    rw [add_add]
    refine hcell _ _ ?_
    rw [← hj, List.getElem?_map, List.getElem?_map, List.getElem?_take_of_lt, List.getElem?_drop]
    have := (List.getElem?_eq_some_iff.1 hj).1
    simp at this
    omega
/-- What a field is told as. -/
def Fielded (w : World) (bs : List Nat) (p : Nat) (r : Nat × List Nat × Nat) (e : Ending) (w' : World) : Prop :=
  ∃ (A1 : Option Addr) (c1 : Nat), e = .returned (.tuple #[.slice A1 r.2.1.length c1, .int .i64 ((if r.1 = 0 then p + r.2.2 else 0 : Nat) : Int), .int .i64 (r.1 : Int)]) ∧ LiesP w' (fun k => w.heap.size ≤ k ∧ k < w'.heap.size) A1 (r.2.1.map vb) ∧ r.2.1.length ≤ c1 ∧ c1 ≤ maxLen ∧ Below w.heap.size w w'
theorem fielded_bad {w w' : World} {bs : List Nat} {p er : Nat} (h : er ≠ 0) (hb : Below w.heap.size w w') : Fielded w bs p (er, [], 0) (.returned (.tuple #[.slice none 0 0, .int .i64 0, .int .i64 (er : Int)])) w' :=
  ⟨none, 0, by simp only [if_neg h]; rfl, .inl rfl, Nat.le_refl _, by decide, hb⟩

set_option maxRecDepth 100000 in
set_option maxHeartbeats 400000 in
theorem field_any (ad : Addr) (c p lo hi B : Nat) (bs : List Nat) (w : World) (hl : Lies w B (some ad) (bs.map vb)) (hc : bs.length ≤ c) (hm : c ≤ maxLen) (h8 : ∀ x, x ∈ bs → x < 256) (hs : bs.length ≤ 20000000) (hp : p ≤ bs.length) (hhi : hi ≤ 4096) (hlo : lo ≤ hi) :
    Calls Tryz.prog 69 #[.slice (some ad) bs.length c, .int .i64 (p : Int), .int .i64 (lo : Int), .int .i64 (hi : Int)] w (Fielded w bs p (fieldL (bs.drop p) lo hi)) := by
  obtain ⟨x, k, er, hd⟩ : ∃ x k er, dec (bs.drop p) 0 0 = (x, k, er) := ⟨_, _, _, rfl⟩
  have hget := Vt.getv_calls (some ad) c B bs (p : Int) w hl hc (Nat.le_trans hc hm) h8
  rw [res_at bs p hp hd] at hget
  have h3 := dec_three (bs.drop p) 0 0
  have hlen := dec_len (bs.drop p) 0 0
  rw [hd] at h3 hlen
  simp only at h3 hlen
  have HD := Lib.hid hd
  have HL := Lib.hid hl
  have HM := Lib.hid hm
  have u1 := u64_in lo (by omega)
  have u2 := u64_in hi (by omega)
  clear hl hm h8 hd
  rcases h3 with rfl | rfl | rfl
  · rw [if_pos rfl] at hget
    have hlen := hlen rfl
    rw [List.length_drop] at hlen
    have HG := Lib.hid hget
    clear hget
    by_cases hx1 : x < lo ∨ hi < x
    · have E := Lib.hid (field_out HD.out hx1)
      by_cases hx2 : x < lo
      · have d1 : decide (x < lo) = true := by simp; omega
        clear hx1
        go_enter Tryz.func69, Tryz.ntmps69
        go_wp2_with fail
        refine HG.out.mono ?_; rintro e w' ⟨rfl, rfl⟩
        go_wp2_with fail
        go_returns
        rw [E.out]
        exact fielded_bad (by decide) (Below.refl _ _)
      · have d1 : decide (x < lo) = false := by simp; omega
        have d2 : decide (hi < x) = true := by simp; omega
        clear hx1
        go_enter Tryz.func69, Tryz.ntmps69
        go_wp2_with fail
        refine HG.out.mono ?_; rintro e w' ⟨rfl, rfl⟩
        go_wp2_with fail
        go_returns
        rw [E.out]
        exact fielded_bad (by decide) (Below.refl _ _)
    · have d1 : decide (x < lo) = false := by simp; omega
      have d2 : decide (hi < x) = false := by simp; omega
      have hx4 : x ≤ 4096 := by omega
      have E1 := Lib.hid hx1
      clear hx1
      by_cases hs2 : bs.length - (p + k) < x
      · have E := Lib.hid (field_short HD.out E1.out (by rw [List.length_drop]; omega))
        have d3 : decide ((bs.length : Int) - ((p : Int) + (k : Int)) < (x : Int)) = true := by simp; omega
        go_enter Tryz.func69, Tryz.ntmps69
        go_wp2_with fail
        refine HG.out.mono ?_; rintro e w' ⟨rfl, rfl⟩
        go_wp2_with fail
        go_returns
        rw [E.out]
        exact fielded_bad (by decide) (Below.refl _ _)
      · have E := Lib.hid (field_ok HD.out E1.out (by rw [List.length_drop]; omega))
        rw [List.drop_drop] at E
        have htl : ((bs.drop (p + k)).take x).length = x := by rw [List.length_take, List.length_drop]; omega
        have d3 : decide ((bs.length : Int) - ((p : Int) + (k : Int)) < (x : Int)) = false := by simp; omega
        obtain ⟨A', hA', _, hsl⟩ := slice_at (some ad) bs.length c (p + k) x (by omega) hc HM.out
        rw [show ((p + k : Nat) : Int) = (p : Int) + (k : Int) by omega] at hsl
        obtain ⟨A2, c2, W2, hr2, hown2, hb2⟩ := fresh_bytes A' (c - (p + k)) B ((bs.drop (p + k)).take x) w (sub_lies HL.out (by omega) hA') (by rw [htl]; omega)
        rw [htl] at hr2 hown2
        obtain ⟨A3, c3, hv3, hc3, hm3, _⟩ := own_parts hown2
        injection hv3 with e1 e2 e3
        subst e1; subst e3
        have hlp := LiesP.of_own hown2
        have HR2 := Lib.hid hr2
        have HB2 := Lib.hid hb2
        have HLP := Lib.hid (hlp.later (R' := fun k => w.heap.size ≤ k ∧ k < W2.heap.size) (fun _ _ => rfl) fun k hk => ⟨hk.1, hk.2.1⟩)
        have HC2 := Lib.hid hc3
        have HM2 := Lib.hid hm3
        have HTL := Lib.hid htl
        clear hA' hr2 hown2 hb2 hc3 hm3 hlp htl e2
        go_enter Tryz.func69, Tryz.ntmps69
        go_wp2_with fail
        refine HG.out.mono ?_; rintro e w' ⟨rfl, rfl⟩
        go_wp2_with (at_builtin; refine wpList_append_run rfl _ _ 24 rfl rfl rfl HR2.out ?_)
        go_returns
        rw [E.out]
        refine ⟨A2, c2, ?_, HLP.out, by rw [HTL.out]; exact HC2.out, HM2.out, HB2.out⟩
        rw [HTL.out]
        simp only [if_pos]
        congr 4
        simp; omega
  · have E := Lib.hid (field_bad (lo := lo) (hi := hi) HD.out (by decide))
    rw [if_neg (by decide)] at hget
    have HG := Lib.hid hget
    clear hget hlen
    go_enter Tryz.func69, Tryz.ntmps69
    go_wp2_with fail
    refine HG.out.mono ?_; rintro e w' ⟨rfl, rfl⟩
    go_wp2_with fail
    go_returns
    rw [E.out]
    exact fielded_bad (by decide) (Below.refl _ _)
  · have E := Lib.hid (field_bad (lo := lo) (hi := hi) HD.out (by decide))
    rw [if_neg (by decide)] at hget
    have HG := Lib.hid hget
    clear hget hlen
    go_enter Tryz.func69, Tryz.ntmps69
    go_wp2_with fail
    refine HG.out.mono ?_; rintro e w' ⟨rfl, rfl⟩
    go_wp2_with fail
    go_returns
    rw [E.out]
    exact fielded_bad (by decide) (Below.refl _ _)
end Go.Proofs.YtnbknihaefkllaaGreatDoor.Bt
/- What the document's own ReadBatch answers. -/
namespace Go.Proofs.YtnbknihaefkllaaGreatDoor.Bt
set_option linter.unusedVariables false
set_option linter.unusedSimpArgs false
open Go.RowKit Lift Ik Vn

theorem field_len (l : List Nat) (lo hi : Nat) (h : (fieldL l lo hi).1 = 0) : (fieldL l lo hi).2.2 ≤ l.length := by
  have hd := dec_len l 0 0
  unfold fieldL at h ⊢
  split at h
  · rename_i h1; exact absurd h h1
  · rename_i h1
    rw [if_neg h1]
    split at h
    · cases h
    · rename_i h2
      rw [if_neg h2]
      split at h
      · cases h
      · rename_i h3
        rw [if_neg h3]
        have := hd (by simpa using h1)
        rw [List.length_drop] at h3
        simp only
        omega
/-- One operation onto a slice of operations of the call's own, whose keys and values lie elsewhere. -/
theorem push_op {w : World} {base : Nat} {v : Value} {pre : List D} {d : D} (hown : w.ownsRow base 51 3 v pre.length (cellsL pre)) (hbase : base ≤ w.heap.size) (hn : pre.length ≤ 100)
    (hk : ∀ x, x ∈ pre → x.Ok w (fun k => base ≤ k ∧ k < w.heap.size ∧ v.ownBlock ≠ some k)) (hd : d.Ok w (fun k => base ≤ k ∧ k < w.heap.size ∧ v.ownBlock ≠ some k)) :
    ∃ v' W, Sem.run Tryz.prog (Builtin.append_ #[36, 36] 36 #[v, .slice (some ⟨w.heap.size, 0, none⟩) 1 1]) (w.alloc (.cells #[.int .i64 d.kind, .slice d.ka d.key.length d.kc, .slice d.va d.val.length d.vc] 51)) = .ok v' W ∧
      W.ownsRow base 51 3 v' (pre ++ [d]).length (cellsL (pre ++ [d])) ∧ Below base w W ∧ ∀ x, x ∈ pre ++ [d] → x.Ok W (fun k => base ≤ k ∧ k < W.heap.size ∧ v'.ownBlock ≠ some k) := by
  have hl : Lies (w.alloc (.cells d.cells.toArray 51)) (w.heap.size + 1) (some ⟨w.heap.size, 0, none⟩) (cellsL [d]) := by
    have := lies_block (w := w.alloc (.cells d.cells.toArray 51)) (B := w.heap.size + 1) (heap_alloc_new w _) (by omega)
    simpa [cellsL] using this
  obtain ⟨v', W, hr, ho, hon⟩ := run_append_onto (P := Tryz.prog) (m := 1) (c := 1) 36 36 51 zV 3 56 Tryz.underlying36 (by kernel_rfl) rfl (by decide)
    cellsL_one (hown.alloc (.cells d.cells.toArray 51)) hl rfl (by unfold maxLen; omega) (by omega) (by simp; omega)
  have hba := Joins.below_alloc1 w (.cells d.cells.toArray 51)
  have hpre := Onto.pre hba hon
  refine ⟨v', W, hr, by rw [List.length_append, cellsL_append]; exact ho, hpre.below hown hbase, fun x hx => ?_⟩
  have hx2 : x.Ok w (fun k => base ≤ k ∧ k < w.heap.size ∧ v.ownBlock ≠ some k) := by
    rcases List.mem_append.1 hx with h | h
    · exact hk x h
    · simp at h; subst h; exact hd
  refine hx2.later (fun k hk2 => hpre.keep.block k hk2.2.1 hk2.2.2) fun k hk2 => ⟨hk2.1, Nat.lt_of_lt_of_le hk2.2.1 hpre.keep.size, fun h => ?_⟩
  rcases hpre.place k h with h1 | h1
  · exact hk2.2.2 h1
  · omega
theorem ops_err {n p m er : Nat} {bs : List Nat} {acc : List O} (he : opsL n bs 12 [] = opsL (m + 1) bs p acc) (h : (opL (bs.drop p)).1 = er) (h0 : er ≠ 0) : (opsL n bs 12 []).1 = er := by
  rw [he]
  show (if (opL (bs.drop p)).1 ≠ 0 then ((opL (bs.drop p)).1, [], 0) else _).1 = er
  rw [h, if_pos h0]
theorem ops_go {n p m k : Nat} {bs : List Nat} {acc : List O} {x : O} (he : opsL n bs 12 [] = opsL (m + 1) bs p acc) (h : opL (bs.drop p) = (0, x, k)) : opsL n bs 12 [] = opsL m bs (p + k) (acc ++ [x]) := by
  rw [he]
  show (if (opL (bs.drop p)).1 ≠ 0 then ((opL (bs.drop p)).1, [], 0) else opsL m bs (p + (opL (bs.drop p)).2.2) (acc ++ [(opL (bs.drop p)).2.1])) = _
  rw [h]
  rfl

set_option maxRecDepth 100000 in
set_option maxHeartbeats 400000 in
theorem rread_short (A : Option Addr) (c : Nat) (bs : List Nat) (w : World) (hn : bs.length < 12) : Calls Tryz.prog 44 #[.slice A bs.length c] w (ReadedP w bs) := by
  have E := Lib.hid (show readB bs = (4, 0, []) by unfold readB; rw [if_pos hn])
  have hb0 := Joins.below_alloc2 w (.cells #[.int .u64 0, .slice none 0 0] 38) (.cells #[.int .u64 0, .slice none 0 0] 38)
  have b2 : Box ((w.alloc (.cells #[.int .u64 0, .slice none 0 0] 38)).alloc (.cells #[.int .u64 0, .slice none 0 0] 38)) w.heap.size 38 [.int .u64 0, .slice none 0 0] := (Box.new w 38 [.int .u64 0, .slice none 0 0]).alloc _
  have HB := Lib.hid hb0
  have B2 := Lib.hid b2
  clear hb0 b2
  go_enter Tryz.func44, Tryz.ntmps44
  go_wp2_with fail
  go_returns
  exact readedP_bad E.out HB.out

set_option maxRecDepth 100000 in
set_option maxHeartbeats 3200000 in
theorem rread_long (ad : Addr) (c : Nat) (bs : List Nat) (w : World) (hl : Lies w w.heap.size (some ad) (bs.map vb)) (hc : bs.length ≤ c) (hm : c ≤ maxLen) (h8 : ∀ x, x ∈ bs → x < 256) (hs : bs.length ≤ 20000000) (h12 : 12 ≤ bs.length) :
    Calls Tryz.prog 44 #[.slice (some ad) bs.length c] w (ReadedP w bs) := by
  obtain ⟨l1, l2⟩ := head_lt h8
  have E0 := Lib.hid (show readB bs = if headN bs < 1 ∨ 100 < headN bs ∨ fits (headS bs) (headN bs) = false then (2, 0, []) else if (opsL (headN bs) bs 12 []).1 ≠ 0 then ((opsL (headN bs) bs 12 []).1, 0, [])
      else if (opsL (headN bs) bs 12 []).2.2 ≠ bs.length then (2, 0, []) else (0, headS bs, (opsL (headN bs) bs 12 []).2.1) by unfold readB; rw [if_neg (by omega)])
  have G1 := Lib.hid fun W (hb : Below w.heap.size w W) => get_any (some ad) c w.heap.size 0 8 bs W (hl.below hb) hc hm h8 (by omega) (by omega)
  have G2 := Lib.hid fun W (hb : Below w.heap.size w W) => get_any (some ad) c w.heap.size 8 4 bs W (hl.below hb) hc hm h8 (by omega) (by omega)
  rw [List.drop_zero, show num (bs.take 8) = headS bs from rfl] at G1
  rw [show num ((bs.drop 8).take 4) = headN bs from rfl] at G2
  generalize headS bs = s at *
  generalize headN bs = n at *
  have HL := Lib.hid hl
  have HM := Lib.hid hm
  have H8 := Lib.hid h8
  have hb0 := Joins.below_alloc2 w (.cells #[.int .u64 0, .slice none 0 0] 38) (.cells #[.int .u64 0, .slice none 0 0] 38)
  have b2 : Box ((w.alloc (.cells #[.int .u64 0, .slice none 0 0] 38)).alloc (.cells #[.int .u64 0, .slice none 0 0] 38)) w.heap.size 38 [.int .u64 0, .slice none 0 0] := (Box.new w 38 [.int .u64 0, .slice none 0 0]).alloc _
  have b4 : Box ((w.alloc (.cells #[.int .u64 0, .slice none 0 0] 38)).alloc (.cells #[.int .u64 0, .slice none 0 0] 38)) (w.heap.size + 1) 38 [.int .u64 0, .slice none 0 0] := by
    have := Box.new (w.alloc (.cells #[.int .u64 0, .slice none 0 0] 38)) 38 [.int .u64 0, .slice none 0 0]
    rw [show (w.alloc (.cells #[.int .u64 0, .slice none 0 0] 38)).heap.size = w.heap.size + 1 by simp] at this
    exact this
  have hz0 : ((w.alloc (.cells #[.int .u64 0, .slice none 0 0] 38)).alloc (.cells #[.int .u64 0, .slice none 0 0] 38)).heap.size = w.heap.size + 2 := by simp
  clear hl hm h8
  go_enter Tryz.func44, Tryz.ntmps44
  go_wp2_with fail
  generalize ((w.alloc (.cells #[.int .u64 0, .slice none 0 0] 38)).alloc (.cells #[.int .u64 0, .slice none 0 0] 38)) = w0 at hb0 b2 b4 hz0 ⊢
  refine (show Calls Tryz.prog 68 #[.slice (some ad) bs.length c, .int .i64 0, .int .i64 8] w0 _ from G1.out w0 hb0).mono ?_; rintro e w' ⟨rfl, rfl⟩
  go_wp2_with fail
  have hba := Joins.below_alloc1 w0 (.cells #[.int .u64 (s : Int), .slice none 0 0] 38)
  have b5 := Box.new w0 38 [.int .u64 (s : Int), .slice none 0 0]
  have hz1 : (w0.alloc (.cells #[.int .u64 (s : Int), .slice none 0 0] 38)).heap.size = w.heap.size + 3 := by simp [hz0]
  rw [hz0] at b5
  have b2 := b2.below hba (by omega)
  have b4 := b4.below hba (by omega)
  have hb1 := hb0.trans (hba.mono (by omega))
  generalize w0.alloc (.cells #[.int .u64 (s : Int), .slice none 0 0] 38) = W1 at hba b5 hz1 b2 b4 hb1 ⊢
  refine (show Calls Tryz.prog 68 #[.slice (some ad) bs.length c, .int .i64 8, .int .i64 4] W1 _ from G2.out W1 hb1).mono ?_; rintro e w' ⟨rfl, rfl⟩
  have HB1 := Lib.hid hb1
  have B2 := Lib.hid b2
  have B4 := Lib.hid b4
  have B5 := Lib.hid b5
  have HZ1 := Lib.hid hz1
  obtain ⟨q0, q1, q2, q3⟩ := b2.facts2
  obtain ⟨r0, r1, _, _⟩ := b4.facts2
  obtain ⟨t0, t1, t2, t3⟩ := b5.facts2
  clear hb0 b2 b4 hz0 hba b5 hz1 hb1 G1 G2
  by_cases h1 : n < 1
  · have E := Lib.hid (show readB bs = (2, 0, []) by rw [E0.out, if_pos (.inl h1)])
    have d1 : decide ((n : Int) < 1) = true := by simp; omega
    clear h1
    go_wp2_with fail
    obtain ⟨hkx, hbx, _⟩ := batch_end (g := w.heap.size + 1) (.int .u64 0) (.slice none 0 0) (below_keep HB1.out) rfl B2.out _ rfl
    refine bodyPost_ret (results_box rfl Tryz.underlying38 (by kernel_rfl) _ rfl hbx) rfl ?_
    exact readedP_bad E.out (hkx.below (Nat.le_refl _) fun k hk => by omega)
  · have d1 : decide ((n : Int) < 1) = false := by simp; omega
    by_cases h2 : 100 < n
    · have E := Lib.hid (show readB bs = (2, 0, []) by rw [E0.out, if_pos (.inr (.inl h2))])
      have d2 : decide ((100 : Int) < (n : Int)) = true := by simp; omega
      clear h1 h2
      go_wp2_with fail
      obtain ⟨hkx, hbx, _⟩ := batch_end (g := w.heap.size + 1) (.int .u64 0) (.slice none 0 0) (below_keep HB1.out) rfl B2.out _ rfl
      refine bodyPost_ret (results_box rfl Tryz.underlying38 (by kernel_rfl) _ rfl hbx) rfl ?_
      exact readedP_bad E.out (hkx.below (Nat.le_refl _) fun k hk => by omega)
    · have d2 : decide ((100 : Int) < (n : Int)) = false := by simp; omega
      have HF := Lib.hid fun W => rfits_any s n W l1 ⟨by omega, by omega⟩
      cases hf : fits s n
      · have E := Lib.hid (show readB bs = (2, 0, []) by rw [E0.out, if_pos (.inr (.inr hf))])
        rw [hf] at HF
        have wn := u64_in n (by omega)
        clear h1 h2 hf
        go_wp2_with fail
        refine (HF.out W1).mono ?_; rintro e w' ⟨rfl, rfl⟩
        go_wp2_with fail
        obtain ⟨hkx, hbx, _⟩ := batch_end (g := w.heap.size + 1) (.int .u64 0) (.slice none 0 0) (below_keep HB1.out) rfl B2.out _ rfl
        refine bodyPost_ret (results_box rfl Tryz.underlying38 (by kernel_rfl) _ rfl hbx) rfl ?_
        exact readedP_bad E.out (hkx.below (Nat.le_refl _) fun k hk => by omega)
      · have E1 := Lib.hid (show readB bs = if (opsL n bs 12 []).1 ≠ 0 then ((opsL n bs 12 []).1, 0, []) else if (opsL n bs 12 []).2.2 ≠ bs.length then (2, 0, []) else (0, s, (opsL n bs 12 []).2.1) by
          rw [E0.out, if_neg (by rw [hf]; intro q; rcases q with q | q | q; omega; omega; cases q)])
        rw [hf] at HF
        clear E0 hf
        go_wp2_with fail
        refine (HF.out W1).mono ?_; rintro e w' ⟨rfl, rfl⟩
        go_wp2_with fail
        clear q0 q1 q2 q3 r0 r1 t0 t1 t2 t3 HF d1 d2
        go_loopw [7, 8] (fun a i wr => ∃ (j p : Nat) (pre : List D) (v : Value), i = .int .i64 j ∧ a = .int .i64 p ∧ pre.length = j ∧ j ≤ n ∧ p ≤ bs.length ∧ Hid (Below w.heap.size w wr) ∧ Hid (Box wr w.heap.size 38 [.int .u64 0, .slice none 0 0]) ∧ Hid (Box wr (w.heap.size + 1) 38 [.int .u64 0, .slice none 0 0]) ∧
            Hid (Box wr (w.heap.size + 2) 38 [.int .u64 (s : Int), v]) ∧ Hid (wr.ownsRow (w.heap.size + 3) 51 3 v pre.length (cellsL pre)) ∧ Hid (∀ d, d ∈ pre → d.Ok wr (fun k => w.heap.size + 3 ≤ k ∧ k < wr.heap.size ∧ v.ownBlock ≠ some k)) ∧ Hid (opsL n bs 12 [] = opsL (n - j) bs p (opsO pre)))
          (fun _ i _ => n + 1 - (intOf i).toNat)
        case atStart => exact ⟨0, 12, [], .slice none 0 0, rfl, rfl, rfl, by omega, by omega, HB1, B2, B4, B5, Lib.hid (World.ownsRow_nil _ _ _ _), Lib.hid (fun d hd => by simp at hd), Lib.hid rfl⟩
        case round =>
          obtain ⟨j, p, pre, v, rfl, rfl, hpl, hj, hple, hbw, b2, b4, b5, hown, hks, he⟩ := hrel
          have hsz : w.heap.size + 3 ≤ wr.heap.size := by have := b5.out.lt; omega
          have HPL := Lib.hid hpl
          obtain ⟨q0, q1, q2, q3⟩ := b2.out.facts2
          obtain ⟨r0, r1, _, _⟩ := b4.out.facts2
          obtain ⟨t0, t1, t2, t3⟩ := b5.out.facts2
          clear hpl
          by_cases hlt : j < n
          · have HE := Lib.hid (show opsL n bs 12 [] = opsL ((n - (j + 1)) + 1) bs p (opsO pre) by rw [he.out]; congr 1; omega)
            by_cases hpn : p < bs.length
            · obtain ⟨k, hkk⟩ : ∃ k, bs[p]? = some k := ⟨_, List.getElem?_eq_getElem hpn⟩
              have k8 := H8.out k (List.mem_of_getElem? hkk)
              have HDR := Lib.hid (drop_cons hkk)
              obtain ⟨_, hA, _, hcell⟩ := (HL.out.below hbw.out).place (by simp; omega)
              cases hA
              have hck : wr.cell? (ad.add p) = some (.int .u8 (k : Int)) := cells_at hcell _ _ hkk
              clear hkk hcell
              by_cases hk2 : 1 < k
              · have E := Lib.hid (show readB bs = (2, 0, []) by
                  have h := ops_err HE.out (er := 2) (by rw [HDR.out]; simp [opL, hk2]) (by decide)
                  rw [E1.out, if_pos (by rw [h]; decide), h])
                have HBX := Lib.hid (hbw.out.trans ((Joins.below_alloc1 wr (.cells #[.int .i64 (k : Int), .slice none 0 0, .slice none 0 0] 51)).mono hbw.out.size))
                have BX2 := Lib.hid (b2.out.alloc (.cells #[.int .i64 (k : Int), .slice none 0 0, .slice none 0 0] 51))
                obtain ⟨y0, y1, y2, y3⟩ := BX2.out.facts2
                obtain ⟨z0, z1, _, _⟩ := (b4.out.alloc (.cells #[.int .i64 (k : Int), .slice none 0 0, .slice none 0 0] 51)).facts2
                go_wp2_with fail
                obtain ⟨hkx, hbx, _⟩ := batch_end (g := w.heap.size + 1) (.int .u64 0) (.slice none 0 0) (below_keep HBX.out) rfl BX2.out _ rfl
                refine bodyPost_ret (results_box rfl Tryz.underlying38 (by kernel_rfl) _ rfl hbx) rfl ?_
                exact readedP_bad E.out (hkx.below (Nat.le_refl _) fun k hk => by omega)
              · obtain ⟨fe, ft, fk, hf⟩ : ∃ fe ft fk, fieldL (bs.drop (p + 1)) 1 256 = (fe, ft, fk) := ⟨_, _, _, rfl⟩
                have h3 := field_three (bs.drop (p + 1)) 1 256
                have hmem := field_mem (bs.drop (p + 1)) 1 256
                rw [hf] at h3 hmem
                simp only at h3
                have T8 := Lib.hid (show ∀ x, x ∈ ft → x < 256 from fun x hx => H8.out x (List.mem_of_mem_drop (hmem x hx)))
                have hba := Joins.below_alloc1 wr (.cells #[.int .i64 (k : Int), .slice none 0 0, .slice none 0 0] 51)
                have b9 := Box.new wr 51 [.int .i64 (k : Int), .slice none 0 0, .slice none 0 0]
                have hz9 : (wr.alloc (.cells #[.int .i64 (k : Int), .slice none 0 0, .slice none 0 0] 51)).heap.size = wr.heap.size + 1 := by simp
                have hfld := field_any ad c (p + 1) 1 256 w.heap.size bs (wr.alloc (.cells #[.int .i64 (k : Int), .slice none 0 0, .slice none 0 0] 51)) (HL.out.below (hbw.out.trans (hba.mono hbw.out.size))) hc HM.out H8.out hs (by omega) (by decide) (by decide)
                rw [hf, show ((p + 1 : Nat) : Int) = (p : Int) + 1 by omega] at hfld
                have FF := Lib.hid hf
                clear hmem hf
                go_wp2_with fail
                generalize wr.alloc (.cells #[.int .i64 (k : Int), .slice none 0 0, .slice none 0 0] 51) = Wa at hba b9 hz9 hfld ⊢
                refine (show Calls Tryz.prog 69 #[.slice (some ad) bs.length c, .int .i64 ((p : Int) + 1), .int .i64 1, .int .i64 256] Wa _ from hfld).mono ?_
                rintro e W3 ⟨A1, c1, rfl, hl3, hc3, hm3, hb3⟩
                have h93 := hba.trans (hb3.mono hba.size)
                have b23 := b2.out.below h93 b2.out.lt
                have b43 := b4.out.below h93 b4.out.lt
                have b53 := b5.out.below h93 b5.out.lt
                have b93 := b9.below hb3 (by omega)
                have hbw3 := hbw.out.trans (h93.mono hbw.out.size)
                have L3 := Lib.hid (hl3.later (R' := fun k => wr.heap.size < k ∧ k < W3.heap.size) (fun _ _ => rfl) fun k hk => ⟨by omega, hk.2⟩)
                have C3 := Lib.hid hc3
                have M3 := Lib.hid hm3
                have H93 := Lib.hid h93
                have B23 := Lib.hid b23
                have B43 := Lib.hid b43
                have B53 := Lib.hid b53
                have B93 := Lib.hid b93
                have HBW3 := Lib.hid hbw3
                have hsz3 : wr.heap.size < W3.heap.size := by have := hb3.size; omega
                clear q0 q1 q2 q3 r0 r1 t0 t1 t2 t3 hck
                obtain ⟨q0, q1, q2, q3⟩ := b23.facts2
                obtain ⟨r0, r1, _, _⟩ := b43.facts2
                obtain ⟨t0, t1, t2, t3⟩ := b53.facts2
                obtain ⟨u0, u1, u2, u3, u4, u5⟩ := b93.facts3
                clear hba b9 hz9 hfld hl3 hc3 hm3 hb3 h93 b23 b43 b53 b93 hbw3
                rcases h3 with rfl | ⟨rfl, rfl⟩ | ⟨rfl, rfl⟩
                · rw [if_pos rfl]
                  rcases (show k = 0 ∨ k = 1 by omega) with rfl | rfl
                  · have hfl := field_len (bs.drop (p + 1)) 1 256
                    rw [FF.out, List.length_drop] at hfl
                    have hfl := hfl rfl
                    try simp only at hfl
                    have H94 := Lib.hid (H93.out.setCell (p := ⟨wr.heap.size, 1, none⟩) (Nat.le_refl _) (.slice A1 ft.length c1))
                    have b94 := Box.set (us := [.int .i64 ((0 : Nat) : Int), .slice none 0 0, .slice none 0 0]) B93.out 1 (.slice A1 ft.length c1)
                    have b24 := b2.out.below H94.out b2.out.lt
                    have b44 := b4.out.below H94.out b4.out.lt
                    have b54 := b5.out.below H94.out b5.out.lt
                    obtain ⟨x0, x1, x2, x3⟩ := b24.facts2
                    obtain ⟨y0, y1, _, _⟩ := b44.facts2
                    obtain ⟨z0, z1, z2, z3⟩ := b54.facts2
                    obtain ⟨g0, g1, g2, g3, g4, g5⟩ := Box.facts3 (u0 := .int .i64 0) (u1 := .slice A1 ft.length c1) (u2 := .slice none 0 0) b94
                    clear b94 b24 b44 b54
                    have hdok : D.Ok (W3.setCell ⟨wr.heap.size, 1, none⟩ (.slice A1 ft.length c1)) (fun k => w.heap.size + 3 ≤ k ∧ k < (W3.setCell ⟨wr.heap.size, 1, none⟩ (.slice A1 ft.length c1)).heap.size ∧ v.ownBlock ≠ some k) ⟨0, A1, c1, ft, none, 0, []⟩ := ⟨L3.out.later (fun k hk => Below.heap_setCell _ _ _ _ (by show k ≠ wr.heap.size; omega)) fun k hk => ⟨by omega, by simpa [World.setCell] using hk.2, fun h => by have := (hown.out.lt _ h).2; omega⟩, C3.out, M3.out, T8.out, .inl rfl, Nat.le_refl _, (show 0 ≤ maxLen by decide), by simp, by simp, by simp⟩
                    obtain ⟨v', W8, hr8, hown8, hb8, hks8⟩ := push_op (d := ⟨0, A1, c1, ft, none, 0, []⟩) (own_later hown.out H94.out) (Nat.le_trans hsz H94.out.size) (by rw [HPL.out]; omega)
                      (fun x hx => (hks.out x hx).later (fun k hk => H94.out.block k hk.2.1) fun k hk => ⟨hk.1, Nat.lt_of_lt_of_le hk.2.1 H94.out.size, hk.2.2⟩) hdok
                    obtain ⟨m8, hm8⟩ : ∃ m8, m8 = (pre ++ [(⟨0, A1, c1, ft, none, 0, []⟩ : D)]).length := ⟨_, rfl⟩
                    rw [← hm8] at hown8
                    obtain ⟨A8, c8, hv8, _, _, _⟩ := own_parts hown8
                    subst hv8
                    have HM8 := Lib.hid hm8
                    clear hm8
                    have hbw8 := (hbw.out.trans (H94.out.mono hbw.out.size)).trans (hb8.mono (Nat.le_add_right _ _))
                    have b28 := (b2.out.below H94.out b2.out.lt).below hb8 (by omega)
                    have b48 := (b4.out.below H94.out b4.out.lt).below hb8 (by omega)
                    have b58 := (b5.out.below H94.out b5.out.lt).below hb8 (by omega)
                    obtain ⟨m0, m1, m2, m3⟩ := b58.facts2
                    have HN := Lib.hid (show opsL n bs 12 [] = opsL (n - (j + 1)) bs (p + 1 + fk) (opsO (pre ++ [(⟨0, A1, c1, ft, none, 0, []⟩ : D)])) by
                      rw [ops_go HE.out (by rw [HDR.out]; exact opL_del FF.out), show p + 1 + fk = p + (1 + fk) by omega]
                      simp [opsO, D.o])
                    rw [show (W3.setCell ⟨wr.heap.size, 1, none⟩ (.slice A1 ft.length c1)).heap.size = W3.heap.size by simp [World.setCell]] at hr8
                    try dsimp only [List.length_nil] at hr8
                    have HR8 := Lib.hid hr8
                    have HOW8 := Lib.hid (ownsRow_setCell_below hown8 (a := ⟨w.heap.size + 2, 1, none⟩) (by show w.heap.size + 2 < w.heap.size + 3; omega) (.slice A8 m8 c8))
                    have HBW9 := Lib.hid (hbw8.setCell (p := ⟨w.heap.size + 2, 1, none⟩) (by show w.heap.size ≤ w.heap.size + 2; omega) (.slice A8 m8 c8))
                    have B29 := Lib.hid (b28.setOther (p := ⟨w.heap.size + 2, 1, none⟩) (by simp) (.slice A8 m8 c8))
                    have B49 := Lib.hid (b48.setOther (p := ⟨w.heap.size + 2, 1, none⟩) (by simp) (.slice A8 m8 c8))
                    have B59 := Lib.hid (b58.set 1 (.slice A8 m8 c8))
                    have HKS9 := Lib.hid (fun x hx => (hks8 x hx).later (w' := W8.setCell ⟨w.heap.size + 2, 1, none⟩ (.slice A8 m8 c8)) (R' := fun k => w.heap.size + 3 ≤ k ∧ k < (W8.setCell ⟨w.heap.size + 2, 1, none⟩ (.slice A8 m8 c8)).heap.size ∧ (Value.slice A8 m8 c8).ownBlock ≠ some k) (fun k hk => Below.heap_setCell _ _ _ _ (by show k ≠ w.heap.size + 2; have := hk.1; omega)) fun k hk => ⟨hk.1, by simpa [World.setCell] using hk.2.1, hk.2.2⟩)
                    clear hdok hr8 hown8 hb8 hks8 hbw8 b28 b48 b58
                    go_wp2_with (at_builtin; refine wpList_append_run rfl _ _ 36 rfl rfl rfl HR8.out ?_)
                    go_roundw
                    case rel => exact ⟨j + 1, p + 1 + fk, pre ++ [⟨0, A1, c1, ft, none, 0, []⟩], .slice A8 m8 c8, by go_num, by go_num, by rw [List.length_append, HPL.out]; rfl, by omega, by omega, HBW9, B29, B49, B59, Lib.hid (by rw [← HM8.out]; exact HOW8.out), HKS9, HN⟩
                    case measure => simp [intOf]; omega
                  · obtain ⟨ge, gt, gk, hg⟩ : ∃ ge gt gk, fieldL (bs.drop (p + 1 + fk)) 0 4096 = (ge, gt, gk) := ⟨_, _, _, rfl⟩
                    have h3 := field_three (bs.drop (p + 1 + fk)) 0 4096
                    have hmem := field_mem (bs.drop (p + 1 + fk)) 0 4096
                    have hfl2 := field_len (bs.drop (p + 1 + fk)) 0 4096
                    rw [hg] at h3 hmem hfl2
                    rw [List.length_drop] at hfl2
                    simp only at h3
                    have V8 := Lib.hid (show ∀ x, x ∈ gt → x < 256 from fun x hx => H8.out x (List.mem_of_mem_drop (hmem x hx)))
                    have hfl := field_len (bs.drop (p + 1)) 1 256
                    rw [FF.out, List.length_drop] at hfl
                    have hfl := hfl rfl
                    try simp only at hfl
                    have h94 := H93.out.setCell (p := ⟨wr.heap.size, 1, none⟩) (Nat.le_refl _) (.slice A1 ft.length c1)
                    have b94 := Box.set (us := [.int .i64 ((1 : Nat) : Int), .slice none 0 0, .slice none 0 0]) B93.out 1 (.slice A1 ft.length c1)
                    have hz4 : (W3.setCell ⟨wr.heap.size, 1, none⟩ (.slice A1 ft.length c1)).heap.size = W3.heap.size := by simp [World.setCell]
                    have hfld := field_any ad c (p + 1 + fk) 0 4096 w.heap.size bs (W3.setCell ⟨wr.heap.size, 1, none⟩ (.slice A1 ft.length c1)) (HL.out.below (hbw.out.trans (h94.mono hbw.out.size))) hc HM.out H8.out hs (by omega) (by decide) (by decide)
                    rw [hg, show ((p + 1 + fk : Nat) : Int) = (p : Int) + 1 + (fk : Int) by omega] at hfld
                    have HFLD := Lib.hid hfld
                    have hg2 : fieldL ((bs.drop (p + 1)).drop fk) 0 4096 = (ge, gt, gk) := by rw [List.drop_drop]; exact hg
                    have HOP := Lib.hid (show opL (bs.drop p) = if ge ≠ 0 then (ge, noO, 0) else (0, ⟨1, ft, gt⟩, 1 + fk + gk) by rw [HDR.out]; exact opL_put FF.out hg2)
                    clear hmem hg hg2 hfld
                    obtain ⟨g0, g1, g2, g3, g4, g5⟩ := Box.facts3 (u0 := .int .i64 1) (u1 := .slice A1 ft.length c1) (u2 := .slice none 0 0) b94
                    have H94 := Lib.hid h94
                    have B94 := Lib.hid b94
                    have HZ4 := Lib.hid hz4
                    clear b94 h94 hz4
                    go_wp2_with fail
                    refine (show Calls Tryz.prog 69 #[.slice (some ad) bs.length c, .int .i64 ((p : Int) + 1 + (fk : Int)), .int .i64 0, .int .i64 4096] (W3.setCell ⟨wr.heap.size, 1, none⟩ (.slice A1 ft.length c1)) _ from HFLD.out).mono ?_
                    rintro e W5 ⟨A2, c2, rfl, hl5, hc5, hm5, hb5⟩
                    have h95 := H94.out.trans (hb5.mono H94.out.size)
                    have b25 := b2.out.below h95 b2.out.lt
                    have b45 := b4.out.below h95 b4.out.lt
                    have b55 := b5.out.below h95 b5.out.lt
                    have b95 := B94.out.below hb5 (by rw [HZ4.out]; omega)
                    have hsz5 : W3.heap.size ≤ W5.heap.size := by have := hb5.size; rw [HZ4.out] at this; exact this
                    have L5 := Lib.hid ((L3.out.later (w' := W3.setCell ⟨wr.heap.size, 1, none⟩ (.slice A1 ft.length c1)) (R' := fun k => wr.heap.size < k ∧ k < W3.heap.size) (fun k hk => Below.heap_setCell _ _ _ _ (by show k ≠ wr.heap.size; omega)) fun _ h => h).later (w' := W5) (R' := fun k => wr.heap.size < k ∧ k < W5.heap.size) (fun k hk => hb5.block k (by rw [HZ4.out]; exact hk.2)) fun k hk => ⟨hk.1, Nat.lt_of_lt_of_le hk.2 hsz5⟩)
                    have V5 := Lib.hid (hl5.later (R' := fun k => wr.heap.size < k ∧ k < W5.heap.size) (fun _ _ => rfl) fun k hk => ⟨by have := hk.1; rw [HZ4.out] at this; omega, hk.2⟩)
                    have C5 := Lib.hid hc5
                    have M5 := Lib.hid hm5
                    have H95 := Lib.hid h95
                    have B25 := Lib.hid b25
                    have B95 := Lib.hid b95
                    have HBW5 := Lib.hid (hbw.out.trans (h95.mono hbw.out.size))
                    clear q0 q1 q2 q3 r0 r1 t0 t1 t2 t3 u0 u1 u2 u3 u4 u5 g0 g1 g2 g3 g4 g5
                    obtain ⟨q0, q1, q2, q3⟩ := b25.facts2
                    obtain ⟨r0, r1, _, _⟩ := b45.facts2
                    obtain ⟨t0, t1, t2, t3⟩ := b55.facts2
                    obtain ⟨u0, u1, u2, u3, u4, u5⟩ := Box.facts3 (u0 := .int .i64 1) (u1 := .slice A1 ft.length c1) (u2 := .slice none 0 0) b95
                    clear hl5 hc5 hm5 hb5 h95 b25 b45 b55 b95 HFLD
                    rcases h3 with rfl | ⟨rfl, rfl⟩ | ⟨rfl, rfl⟩
                    · rw [if_pos rfl]
                      have hfl2 := hfl2 rfl
                      try simp only at hfl2
                      have HO2 := Lib.hid (show opL (bs.drop p) = (0, ⟨1, ft, gt⟩, 1 + fk + gk) by rw [HOP.out]; rfl)
                      have H96 := Lib.hid (H95.out.setCell (p := ⟨wr.heap.size, 2, none⟩) (Nat.le_refl _) (.slice A2 gt.length c2))
                      have b96 := Box.set (us := [.int .i64 1, .slice A1 ft.length c1, .slice none 0 0]) B95.out 2 (.slice A2 gt.length c2)
                      have b26 := b2.out.below H96.out b2.out.lt
                      have b46 := b4.out.below H96.out b4.out.lt
                      have b56 := b5.out.below H96.out b5.out.lt
                      obtain ⟨x0, x1, x2, x3⟩ := b26.facts2
                      obtain ⟨y0, y1, _, _⟩ := b46.facts2
                      obtain ⟨z0, z1, z2, z3⟩ := b56.facts2
                      obtain ⟨g0, g1, g2, g3, g4, g5⟩ := Box.facts3 (u0 := .int .i64 1) (u1 := .slice A1 ft.length c1) (u2 := .slice A2 gt.length c2) b96
                      clear b96 b26 b46 b56
                      have hdok : D.Ok (W5.setCell ⟨wr.heap.size, 2, none⟩ (.slice A2 gt.length c2)) (fun k => w.heap.size + 3 ≤ k ∧ k < (W5.setCell ⟨wr.heap.size, 2, none⟩ (.slice A2 gt.length c2)).heap.size ∧ v.ownBlock ≠ some k) ⟨1, A1, c1, ft, A2, c2, gt⟩ := ⟨L5.out.later (fun k hk => Below.heap_setCell _ _ _ _ (by show k ≠ wr.heap.size; omega)) fun k hk => ⟨by omega, by simpa [World.setCell] using hk.2, fun h => by have := (hown.out.lt _ h).2; omega⟩, C3.out, M3.out, T8.out, V5.out.later (fun k hk => Below.heap_setCell _ _ _ _ (by show k ≠ wr.heap.size; omega)) fun k hk => ⟨by omega, by simpa [World.setCell] using hk.2, fun h => by have := (hown.out.lt _ h).2; omega⟩, C5.out, M5.out, V8.out, by simp, by simp⟩
                      obtain ⟨v', W8, hr8, hown8, hb8, hks8⟩ := push_op (d := ⟨1, A1, c1, ft, A2, c2, gt⟩) (own_later hown.out H96.out) (Nat.le_trans hsz H96.out.size) (by rw [HPL.out]; omega)
                        (fun x hx => (hks.out x hx).later (fun k hk => H96.out.block k hk.2.1) fun k hk => ⟨hk.1, Nat.lt_of_lt_of_le hk.2.1 H96.out.size, hk.2.2⟩) hdok
                      obtain ⟨m8, hm8⟩ : ∃ m8, m8 = (pre ++ [(⟨1, A1, c1, ft, A2, c2, gt⟩ : D)]).length := ⟨_, rfl⟩
                      rw [← hm8] at hown8
                      obtain ⟨A8, c8, hv8, _, _, _⟩ := own_parts hown8
                      subst hv8
                      have HM8 := Lib.hid hm8
                      clear hm8
                      have hbw8 := (hbw.out.trans (H96.out.mono hbw.out.size)).trans (hb8.mono (Nat.le_add_right _ _))
                      have b28 := (b2.out.below H96.out b2.out.lt).below hb8 (by omega)
                      have b48 := (b4.out.below H96.out b4.out.lt).below hb8 (by omega)
                      have b58 := (b5.out.below H96.out b5.out.lt).below hb8 (by omega)
                      obtain ⟨m0, m1, m2, m3⟩ := b58.facts2
                      have HN := Lib.hid (show opsL n bs 12 [] = opsL (n - (j + 1)) bs (p + 1 + fk + gk) (opsO (pre ++ [(⟨1, A1, c1, ft, A2, c2, gt⟩ : D)])) by
                        rw [ops_go HE.out (HO2.out), show p + 1 + fk + gk = p + (1 + fk + gk) by omega]
                        simp [opsO, D.o])
                      rw [show (W5.setCell ⟨wr.heap.size, 2, none⟩ (.slice A2 gt.length c2)).heap.size = W5.heap.size by simp [World.setCell]] at hr8
                      try dsimp only [List.length_nil] at hr8
                      have HR8 := Lib.hid hr8
                      have HOW8 := Lib.hid (ownsRow_setCell_below hown8 (a := ⟨w.heap.size + 2, 1, none⟩) (by show w.heap.size + 2 < w.heap.size + 3; omega) (.slice A8 m8 c8))
                      have HBW9 := Lib.hid (hbw8.setCell (p := ⟨w.heap.size + 2, 1, none⟩) (by show w.heap.size ≤ w.heap.size + 2; omega) (.slice A8 m8 c8))
                      have B29 := Lib.hid (b28.setOther (p := ⟨w.heap.size + 2, 1, none⟩) (by simp) (.slice A8 m8 c8))
                      have B49 := Lib.hid (b48.setOther (p := ⟨w.heap.size + 2, 1, none⟩) (by simp) (.slice A8 m8 c8))
                      have B59 := Lib.hid (b58.set 1 (.slice A8 m8 c8))
                      have HKS9 := Lib.hid (fun x hx => (hks8 x hx).later (w' := W8.setCell ⟨w.heap.size + 2, 1, none⟩ (.slice A8 m8 c8)) (R' := fun k => w.heap.size + 3 ≤ k ∧ k < (W8.setCell ⟨w.heap.size + 2, 1, none⟩ (.slice A8 m8 c8)).heap.size ∧ (Value.slice A8 m8 c8).ownBlock ≠ some k) (fun k hk => Below.heap_setCell _ _ _ _ (by show k ≠ w.heap.size + 2; have := hk.1; omega)) fun k hk => ⟨hk.1, by simpa [World.setCell] using hk.2.1, hk.2.2⟩)
                      clear hdok hr8 hown8 hb8 hks8 hbw8 b28 b48 b58
                      go_wp2_with (at_builtin; refine wpList_append_run rfl _ _ 36 rfl rfl rfl HR8.out ?_)
                      go_roundw
                      case rel => exact ⟨j + 1, p + 1 + fk + gk, pre ++ [⟨1, A1, c1, ft, A2, c2, gt⟩], .slice A8 m8 c8, by go_num, by go_num, by rw [List.length_append, HPL.out]; rfl, by omega, by omega, HBW9, B29, B49, B59, Lib.hid (by rw [← HM8.out]; exact HOW8.out), HKS9, HN⟩
                      case measure => simp [intOf]; omega
                    · have E := Lib.hid (show readB bs = (2, 0, []) by
                        have h := ops_err HE.out (er := 2) (by rw [HOP.out]; rfl) (by decide)
                        rw [E1.out, if_pos (by rw [h]; decide), h])
                      go_wp2_with fail
                      obtain ⟨hkx, hbx, _⟩ := batch_end (g := w.heap.size + 1) (.int .u64 0) (.slice none 0 0) (below_keep HBW5.out) rfl B25.out _ rfl
                      refine bodyPost_ret (results_box rfl Tryz.underlying38 (by kernel_rfl) _ rfl hbx) rfl ?_
                      exact readedP_bad E.out (hkx.below (Nat.le_refl _) fun k hk => by omega)
                    · have E := Lib.hid (show readB bs = (4, 0, []) by
                        have h := ops_err HE.out (er := 4) (by rw [HOP.out]; rfl) (by decide)
                        rw [E1.out, if_pos (by rw [h]; decide), h])
                      go_wp2_with fail
                      obtain ⟨hkx, hbx, _⟩ := batch_end (g := w.heap.size + 1) (.int .u64 0) (.slice none 0 0) (below_keep HBW5.out) rfl B25.out _ rfl
                      refine bodyPost_ret (results_box rfl Tryz.underlying38 (by kernel_rfl) _ rfl hbx) rfl ?_
                      exact readedP_bad E.out (hkx.below (Nat.le_refl _) fun k hk => by omega)
                · have E := Lib.hid (show readB bs = (2, 0, []) by
                    have h := ops_err HE.out (er := 2) (by rw [HDR.out, opL_text (by omega) FF.out (by decide)]) (by decide)
                    rw [E1.out, if_pos (by rw [h]; decide), h])
                  go_wp2_with fail
                  obtain ⟨hkx, hbx, _⟩ := batch_end (g := w.heap.size + 1) (.int .u64 0) (.slice none 0 0) (below_keep HBW3.out) rfl B23.out _ rfl
                  refine bodyPost_ret (results_box rfl Tryz.underlying38 (by kernel_rfl) _ rfl hbx) rfl ?_
                  exact readedP_bad E.out (hkx.below (Nat.le_refl _) fun k hk => by omega)
                · have E := Lib.hid (show readB bs = (4, 0, []) by
                    have h := ops_err HE.out (er := 4) (by rw [HDR.out, opL_text (by omega) FF.out (by decide)]) (by decide)
                    rw [E1.out, if_pos (by rw [h]; decide), h])
                  go_wp2_with fail
                  obtain ⟨hkx, hbx, _⟩ := batch_end (g := w.heap.size + 1) (.int .u64 0) (.slice none 0 0) (below_keep HBW3.out) rfl B23.out _ rfl
                  refine bodyPost_ret (results_box rfl Tryz.underlying38 (by kernel_rfl) _ rfl hbx) rfl ?_
                  exact readedP_bad E.out (hkx.below (Nat.le_refl _) fun k hk => by omega)
            · have E := Lib.hid (show readB bs = (4, 0, []) by
                have h := ops_err HE.out (er := 4) (by rw [List.drop_of_length_le (by omega)]; rfl) (by decide)
                rw [E1.out, if_pos (by rw [h]; decide), h])
              have d3 : decide ((bs.length : Int) ≤ (p : Int)) = true := by simp; omega
              go_wp2_with fail
              obtain ⟨hkx, hbx, _⟩ := batch_end (g := w.heap.size + 1) (.int .u64 0) (.slice none 0 0) (below_keep hbw.out) rfl b2.out _ rfl
              refine bodyPost_ret (results_box rfl Tryz.underlying38 (by kernel_rfl) _ rfl hbx) rfl ?_
              exact readedP_bad E.out (hkx.below (Nat.le_refl _) fun k hk => by omega)
          · obtain rfl : j = n := by omega
            have hfin : opsL j bs 12 [] = (0, opsO pre, p) := by rw [he.out, Nat.sub_self]; rfl
            by_cases hpn : p = bs.length
            · have E := Lib.hid (show readB bs = (0, s, opsO pre) by rw [E1.out, hfin]; simp [hpn])
              have d3 : ((p : Int) != (bs.length : Int)) = false := by rw [bne_eq_false_iff_eq]; omega
              obtain ⟨A2, c2, hv, hc2, hm2, _⟩ := own_parts hown.out
              subst hv
              have hlp := LiesP.of_own hown.out
              have C2 := Lib.hid hc2
              have M2 := Lib.hid hm2
              have LP := Lib.hid (hlp.later (R' := fun k => w.heap.size + 3 ≤ k ∧ k < wr.heap.size) (fun _ _ => rfl) fun k hk => ⟨hk.1, hk.2.1⟩)
              clear hfin hc2 hm2 hlp hpn
              go_wp2_with fail
              obtain ⟨hkx, hbx, hk9⟩ := batch_end (g := w.heap.size + 1) (.int .u64 s) (.slice A2 pre.length c2) (below_keep hbw.out) rfl b2.out _ rfl
              refine bodyPost_ret (results_box rfl Tryz.underlying38 (by kernel_rfl) _ rfl hbx) rfl ?_
              have ho9 : OpsP wr (fun k => w.heap.size + 3 ≤ k ∧ k < wr.heap.size) A2 c2 pre := ⟨LP.out, C2.out, M2.out, fun d hd => (hks.out d hd).later (fun _ _ => rfl) fun k hk => ⟨hk.1, hk.2.1⟩⟩
              have ho9 := ho9.later (R' := fun k => w.heap.size ≤ k ∧ k < ((wr.setCell ⟨w.heap.size, 0, none⟩ (.int .u64 s)).setCell ⟨w.heap.size, 1, none⟩ (.slice A2 pre.length c2)).heap.size) (fun k hk => hk9.block k hk.2 (by omega)) fun k hk => ⟨by omega, Nat.lt_of_lt_of_le hk.2 hk9.size⟩
              exact ⟨A2, c2, pre, by rw [E.out]; rfl, by rw [E.out], ho9, hkx.below (Nat.le_refl _) fun k hk => by omega⟩
            · have E := Lib.hid (show readB bs = (2, 0, []) by rw [E1.out, hfin]; simp [hpn])
              have d3 : ((p : Int) != (bs.length : Int)) = true := by rw [bne_iff_ne]; omega
              clear hfin hpn
              go_wp2_with fail
              obtain ⟨hkx, hbx, _⟩ := batch_end (g := w.heap.size + 1) (.int .u64 0) (.slice none 0 0) (below_keep hbw.out) rfl b2.out _ rfl
              refine bodyPost_ret (results_box rfl Tryz.underlying38 (by kernel_rfl) _ rfl hbx) rfl ?_
              exact readedP_bad E.out (hkx.below (Nat.le_refl _) fun k hk => by omega)

theorem rread_allP (A : Option Addr) (c : Nat) (bs : List Nat) (w : World) (hl : Lies w w.heap.size A (bs.map vb)) (hc : bs.length ≤ c) (hm : c ≤ maxLen) (h8 : ∀ x, x ∈ bs → x < 256) (hs : bs.length ≤ 20000000) :
    Calls Tryz.prog 44 #[.slice A bs.length c] w (ReadedP w bs) := by
  by_cases h : bs.length < 12
  · exact rread_short A c bs w h
  · obtain ⟨ad, rfl, _⟩ := hl.place (by simp; omega)
    exact rread_long ad c bs w hl hc hm h8 hs (by omega)
theorem rread_all (A : Option Addr) (c : Nat) (bs : List Nat) (w : World) (hl : Lies w w.heap.size A (bs.map vb)) (hc : bs.length ≤ c) (hm : c ≤ maxLen) (h8 : ∀ x, x ∈ bs → x < 256) (hs : bs.length ≤ 20000000) :
    Calls Tryz.prog 44 #[.slice A bs.length c] w (Readed w bs) := (rread_allP A c bs w hl hc hm h8 hs).mono fun _ _ h => h.old
end Go.Proofs.YtnbknihaefkllaaGreatDoor.Bt
/- What the document's own Put answers. -/
namespace Go.Proofs.YtnbknihaefkllaaGreatDoor.Fr
set_option linter.unusedVariables false
set_option linter.unusedSimpArgs false
open Go.RowKit Lift Ik
/-- What is still to be written. -/
def rest (fi : Bool) (q : Nat) (r : List Nat) : List Nat := if fi then parts (121 - q) r else tail r
def kindB (fi en : Bool) : Nat := if fi then (if en then 1 else 2) else (if en then 4 else 3)
theorem rest_end {fi : Bool} {q : Nat} {r : List Nat} (h : r.length ≤ 121 - q) : rest fi q r = piece (kindB fi true) r := by
  cases fi
  · exact tail_end (by omega)
  · simp [rest, parts, kindB, h]
theorem rest_more {fi : Bool} {q : Nat} {r : List Nat} (h : ¬ r.length ≤ 121 - q) (hq : fi = false → q = 0) : rest fi q r = piece (kindB fi false) (r.take (121 - q)) ++ rest false 0 (r.drop (121 - q)) := by
  cases fi
  · have := hq rfl
    subst this
    exact tail_more (by omega)
  · simp only [rest, parts, kindB, if_neg h]
    rfl
set_option maxRecDepth 100000 in
set_option maxHeartbeats 3200000 in
theorem rput_any (s : Int) (A : Option Addr) (c : Nat) (r : List Nat) (w : World) (hs : -9223372036854775808 ≤ s ∧ s ≤ 9223372036854775807) (hl : Lies w w.heap.size A (r.map vb)) (hc : r.length ≤ c) (hm : c ≤ maxLen) (hn : r.length ≤ 1000000) (h8 : ∀ c, c ∈ r → c < 256) :
    Calls Tryz.prog 36 #[.int .i64 s, .slice A r.length c] w (Made w.heap.size w (put s.toNat r)) := by
  obtain ⟨a, ha⟩ : ∃ a : Nat, a = s.toNat := ⟨_, rfl⟩
  rw [← ha]
  have HL := Lib.hid hl
  have H8 := Lib.hid h8
  have HPL := Lib.hid (put_len a r)
  have HP : Hid (put a r = List.replicate (pad a) 0 ++ rest true (121 - cap a) r) := Lib.hid (by have := cap_le a; unfold rest; rw [if_pos rfl, show 121 - (121 - cap a) = cap a by omega]; unfold put; exact Eq.refl _)
  have hla : left a = 128 - a % 128 := rfl
  clear hl h8
  have three : s < 0 ∨ (0 ≤ s ∧ left a < 7) ∨ (0 ≤ s ∧ 7 ≤ left a) := by omega
  rcases three with h | h | h
  case' inl =>
    obtain rfl : a = 0 := by omega
    rw [show pad 0 = 0 from rfl, show 121 - cap 0 = 0 from rfl] at HP
    have HB0 := Lib.hid (Below.refl w.heap.size w)
    have HO0 : Hid (w.ownsRow w.heap.size 5 1 (.slice none 0 0) (List.replicate 0 0).length ((List.replicate 0 0).map vb)) := Lib.hid (World.ownsRow_nil _ _ _ _)
    have hq : (0 : Nat) ≤ 121 := by decide
    generalize List.replicate 0 0 = xs0 at *
    generalize put 0 r = P at *
    clear ha hla
    go_enter Tryz.func36, Tryz.ntmps36
    go_wp2_with fail
    clear h
  case' inr.inl =>
    have hpad : pad a = left a := by unfold pad; rw [if_pos h.2]
    have hcap : 121 - cap a = 0 := by unfold cap; rw [if_pos h.2]
    rw [hpad, hcap] at HP
    have hmk := make_own (left a) (by omega) w
    have ea : ((left a : Nat) : Int) = 128 - s % 128 := by omega
    have HO0 := Lib.hid hmk.2
    have hm1 := hmk.1
    rw [ea] at hm1
    have HB0 := Lib.hid (Joins.below_alloc1 w (.cells (madeCells #[.int .u8 0] (left a)) 5))
    have h1 := h.1
    have h2 : 128 - s % 128 < 7 := by omega
    have hq : (0 : Nat) ≤ 121 := by decide
    clear hmk hpad hcap ha hla ea h
    generalize left a = L at *
    generalize hxs : List.replicate L 0 = xs0 at *
    generalize put a r = P at *
    clear hxs
    go_enter Tryz.func36, Tryz.ntmps36
    go_wp2_with fail
    clear hm1 h1 h2
  case' inr.inr =>
    have hpad : pad a = 0 := by unfold pad; rw [if_neg (by omega)]
    have hcap : 121 - cap a = a % 128 := by unfold cap; rw [if_neg (by omega)]; omega
    rw [hpad, hcap] at HP
    have HB0 := Lib.hid (Below.refl w.heap.size w)
    have HO0 : Hid (w.ownsRow w.heap.size 5 1 (.slice none 0 0) (List.replicate 0 0).length ((List.replicate 0 0).map vb)) := Lib.hid (World.ownsRow_nil _ _ _ _)
    have ea : s % 128 = ((a % 128 : Nat) : Int) := by omega
    have h1 := h.1
    have h2 : 7 ≤ 128 - s % 128 := by omega
    have hq : a % 128 ≤ 121 := by omega
    generalize List.replicate 0 0 = xs0 at *
    generalize put a r = P at *
    clear hpad hcap ha hla h
    go_enter Tryz.func36, Tryz.ntmps36
    go_wp2_with fail
    rw [ea]
    generalize a % 128 = q at *
    clear h1 h2 ea
  all_goals
    have hpl : P.length ≤ 2000021 := by have := HPL.out; omega
    clear HPL
    go_loopw [1, 5, 6, 7] (fun rec at' out fi wr => ∃ (r' : List Nat) (A' : Option Addr) (c' : Nat) (done : List Nat) (p : Nat) (f : Bool), rec = .slice A' r'.length c' ∧ at' = .int .i64 p ∧ fi = .bool f ∧ p ≤ 121 ∧ (f = false → p = 0) ∧ r'.length ≤ c' ∧ c' ≤ maxLen ∧ r'.length ≤ 1000000 ∧ Hid (Lies wr w.heap.size A' (r'.map vb)) ∧ Hid (∀ x, x ∈ r' → x < 256) ∧
      Hid (wr.ownsRow w.heap.size 5 1 out done.length (done.map vb)) ∧ Hid (P = done ++ rest f p r') ∧ Hid (Below w.heap.size w wr)) (fun rec _ _ fi _ => 2 * lenV rec + (match fi with | .bool true => 1 | _ => 0))
    case atStart => first | exact ⟨r, A, c, xs0, 0, true, rfl, rfl, rfl, hq, (fun h => by cases h), hc, hm, hn, Lib.hid (HL.out.below HB0.out), H8, HO0, HP, HB0⟩ | exact ⟨r, A, c, xs0, q, true, rfl, rfl, rfl, hq, (fun h => by cases h), hc, hm, hn, Lib.hid (HL.out.below HB0.out), H8, HO0, HP, HB0⟩
    case round =>
      clear hc hm hn HL H8 HO0 HP HB0 hq
      obtain ⟨r', A', c', done, p, f, rfl, rfl, rfl, hp, hf, k1, k2, k3, KL, K8, KO, KP, KB⟩ := hrel
      have kd : done.length ≤ 3000000 := by have := congrArg List.length KP.out; rw [List.length_append] at this; omega
      have e3 : ((p : Int) + 7 + (128 - (p : Int) - 7)) % 128 = 0 := by omega
      cases f
      · obtain rfl := hf rfl
        clear hf e3
        by_cases hr : r'.length ≤ 121
        · have d1 : decide ((r'.length : Int) ≤ 121) = true := by simp; omega
          have HF := Lib.hid (show Calls Tryz.prog 62 #[.int .u8 4, .slice A' r'.length c'] wr _ from rpiece_any 4 c' w.heap.size A' r' wr KL.out KB.out.size k1 k2 k3 (by decide) K8.out)
          have HQ : Hid (P = done ++ piece 4 r') := Lib.hid (by rw [KP.out, rest_end (q := 0) hr]; rfl)
          have hc1 := cut_to A' r'.length c' r'.length k1 k1 k2
          go_wp2_with fail
          refine HF.out.mono ?_; rintro e W2 ⟨v2, rfl, ho2, hb2⟩
          obtain ⟨A2, c2, rfl, h21, h22, hl2⟩ := own_parts ho2
          have hpn := piece_length 4 r'
          obtain ⟨v3, W3, hr3, ho3, on3⟩ := append_bytes (c := c2) (own_later KO.out hb2) hl2 (by omega) (Nat.le_trans KB.out.size hb2.size)
          have HR3 := Lib.hid hr3
          have HO3 := Lib.hid ho3
          have HB3 := Lib.hid (KB.out.trans ((hb2.mono KB.out.size).trans (on3.below (own_later KO.out hb2) (Nat.le_trans KB.out.size hb2.size))))
          clear ho2 hb2 hl2 hr3 ho3 on3 hpn
          go_wp2_with (at_builtin; refine wpList_append_run rfl _ _ 24 rfl rfl rfl HR3.out ?_)
          go_ret
          exact ⟨_, rfl, by rw [HQ.out]; exact HO3.out, HB3.out⟩
        · have d1 : decide ((r'.length : Int) ≤ 121) = false := by simp; omega
          have htl : (r'.take 121).length = 121 := by rw [List.length_take]; omega
          have en : ((121 : Nat) : Int) = 121 := by omega
          have hF := rpiece_any 3 c' w.heap.size A' (r'.take 121) wr (KL.out.front (by rw [List.map_take]; exact List.take_prefix _ _)) KB.out.size (by omega) k2 (by omega) (by decide) (byte_front K8.out fun x hx => List.mem_of_mem_take hx)
          rw [htl] at hF
          have HF := Lib.hid (show Calls Tryz.prog 62 #[.int .u8 3, .slice A' 121 c'] wr _ from hF)
          have HQ : Hid (P = (done ++ piece 3 (r'.take 121)) ++ rest false 0 (r'.drop 121)) := Lib.hid (by rw [KP.out, rest_more (q := 0) hr (by simp), List.append_assoc]; rfl)
          have hc1 := cut_to A' r'.length c' 121 (by omega) k1 k2
          obtain ⟨A2, hA2, _, hc2⟩ := cut_from A' r'.length c' 121 (by omega) k1 k2
          rw [en] at hc1 hc2
          have hdl : (r'.drop 121).length = r'.length - 121 := List.length_drop
          clear hF htl
          go_wp2_with fail
          refine HF.out.mono ?_; rintro e W2 ⟨v2, rfl, ho2, hb2⟩
          obtain ⟨Ap, cp, rfl, h21, h22, hl2⟩ := own_parts ho2
          have hpn := piece_length 3 (r'.take 121)
          have hpn2 : (r'.take 121).length ≤ 121 := by rw [List.length_take]; omega
          obtain ⟨v3, W3, hr3, ho3, on3⟩ := append_bytes (c := cp) (own_later KO.out hb2) hl2 (by omega) (Nat.le_trans KB.out.size hb2.size)
          have HR3 := Lib.hid hr3
          have HO3 := Lib.hid ho3
          have hbb := (hb2.mono KB.out.size).trans (on3.below (own_later KO.out hb2) (Nat.le_trans KB.out.size hb2.size))
          have HB3 := Lib.hid (KB.out.trans hbb)
          have HL3 : Hid (Lies W3 w.heap.size A2 ((r'.drop 121).map vb)) := Lib.hid ((KL.out.below hbb).cut (p := 121) (fun h0 => hA2 (by omega)) (List.prefix_refl _))
          have H83 : Hid (∀ x, x ∈ r'.drop 121 → x < 256) := Lib.hid (byte_front K8.out fun x hx => List.mem_of_mem_drop hx)
          clear ho2 hb2 hl2 hr3 ho3 on3 hpn hpn2 hbb
          go_wp2_with (at_builtin; refine wpList_append_run rfl _ _ 24 rfl rfl rfl HR3.out ?_)
          go_roundw
          case rel => exact ⟨r'.drop 121, A2, c' - 121, done ++ piece 3 (r'.take 121), 0, false, by rw [hdl], rfl, rfl, by omega, fun _ => rfl, by omega, by unfold maxLen at k2 ⊢; omega, by omega, HL3, H83, HO3, HQ, HB3⟩
          case measure => simp [lenV]; omega
      · clear hf
        by_cases hr : r'.length ≤ 121 - p
        · have d1 : decide ((r'.length : Int) ≤ 128 - (p : Int) - 7) = true := by simp; omega
          have HF := Lib.hid (show Calls Tryz.prog 62 #[.int .u8 1, .slice A' r'.length c'] wr _ from rpiece_any 1 c' w.heap.size A' r' wr KL.out KB.out.size k1 k2 k3 (by decide) K8.out)
          have HQ : Hid (P = done ++ piece 1 r') := Lib.hid (by rw [KP.out, rest_end (q := p) hr]; rfl)
          have hc1 := cut_to A' r'.length c' r'.length k1 k1 k2
          go_wp2_with fail
          refine HF.out.mono ?_; rintro e W2 ⟨v2, rfl, ho2, hb2⟩
          obtain ⟨A2, c2, rfl, h21, h22, hl2⟩ := own_parts ho2
          have hpn := piece_length 1 r'
          obtain ⟨v3, W3, hr3, ho3, on3⟩ := append_bytes (c := c2) (own_later KO.out hb2) hl2 (by omega) (Nat.le_trans KB.out.size hb2.size)
          have HR3 := Lib.hid hr3
          have HO3 := Lib.hid ho3
          have HB3 := Lib.hid (KB.out.trans ((hb2.mono KB.out.size).trans (on3.below (own_later KO.out hb2) (Nat.le_trans KB.out.size hb2.size))))
          clear ho2 hb2 hl2 hr3 ho3 on3 hpn
          go_wp2_with (at_builtin; refine wpList_append_run rfl _ _ 24 rfl rfl rfl HR3.out ?_)
          go_ret
          exact ⟨_, rfl, by rw [HQ.out]; exact HO3.out, HB3.out⟩
        · have d1 : decide ((r'.length : Int) ≤ 128 - (p : Int) - 7) = false := by simp; omega
          have htl : (r'.take (121 - p)).length = (121 - p) := by rw [List.length_take]; omega
          have en : (((121 - p) : Nat) : Int) = 128 - (p : Int) - 7 := by omega
          have hF := rpiece_any 2 c' w.heap.size A' (r'.take (121 - p)) wr (KL.out.front (by rw [List.map_take]; exact List.take_prefix _ _)) KB.out.size (by omega) k2 (by omega) (by decide) (byte_front K8.out fun x hx => List.mem_of_mem_take hx)
          rw [htl] at hF
          have HF := Lib.hid (show Calls Tryz.prog 62 #[.int .u8 2, .slice A' (121 - p) c'] wr _ from hF)
          have HQ : Hid (P = (done ++ piece 2 (r'.take (121 - p))) ++ rest false 0 (r'.drop (121 - p))) := Lib.hid (by rw [KP.out, rest_more (q := p) hr (by simp), List.append_assoc]; rfl)
          have hc1 := cut_to A' r'.length c' (121 - p) (by omega) k1 k2
          obtain ⟨A2, hA2, _, hc2⟩ := cut_from A' r'.length c' (121 - p) (by omega) k1 k2
          rw [en] at hc1 hc2
          have hdl : (r'.drop (121 - p)).length = r'.length - (121 - p) := List.length_drop
          clear hF htl
          go_wp2_with fail
          refine HF.out.mono ?_; rintro e W2 ⟨v2, rfl, ho2, hb2⟩
          obtain ⟨Ap, cp, rfl, h21, h22, hl2⟩ := own_parts ho2
          have hpn := piece_length 2 (r'.take (121 - p))
          have hpn2 : (r'.take (121 - p)).length ≤ 121 := by rw [List.length_take]; omega
          obtain ⟨v3, W3, hr3, ho3, on3⟩ := append_bytes (c := cp) (own_later KO.out hb2) hl2 (by omega) (Nat.le_trans KB.out.size hb2.size)
          have HR3 := Lib.hid hr3
          have HO3 := Lib.hid ho3
          have hbb := (hb2.mono KB.out.size).trans (on3.below (own_later KO.out hb2) (Nat.le_trans KB.out.size hb2.size))
          have HB3 := Lib.hid (KB.out.trans hbb)
          have HL3 : Hid (Lies W3 w.heap.size A2 ((r'.drop (121 - p)).map vb)) := Lib.hid ((KL.out.below hbb).cut (p := (121 - p)) (fun h0 => hA2 (by omega)) (List.prefix_refl _))
          have H83 : Hid (∀ x, x ∈ r'.drop (121 - p) → x < 256) := Lib.hid (byte_front K8.out fun x hx => List.mem_of_mem_drop hx)
          clear ho2 hb2 hl2 hr3 ho3 on3 hpn hpn2 hbb
          go_wp2_with (at_builtin; refine wpList_append_run rfl _ _ 24 rfl rfl rfl HR3.out ?_)
          go_roundw
          case rel => exact ⟨r'.drop (121 - p), A2, c' - (121 - p), done ++ piece 2 (r'.take (121 - p)), 0, false, by rw [hdl], (by rw [e3]; rfl), rfl, by omega, fun _ => rfl, by omega, by unfold maxLen at k2 ⊢; omega, by omega, HL3, H83, HO3, HQ, HB3⟩
          case measure => simp [lenV]; omega
end Go.Proofs.YtnbknihaefkllaaGreatDoor.Fr
