/- EditLimits: the edit that it begins with, in memory. -/
import Derived.Test.YthhmjjmjicmhdaaElw
import Derived.Lib.SlBytesConst
namespace Go.Proofs.Ythhmjjmjicmhdaa.Ed
set_option linter.unusedVariables false
set_option linter.unusedSimpArgs false
open Go.RowKit Lift Ik
/-- The law's run, with another file and another number of bytes. -/
abbrev dI (n : Nat) (f b : Int) : D := ⟨f, b, 1, some ⟨n, 0, none⟩, 1, [97], some ⟨n + 1, 0, none⟩, 1, [98], 1⟩
abbrev xI (n : Nat) : X := ⟨some ⟨n + 1 + 1 + 1, 0, none⟩, 1, [dI n 1 1], none, 0, [], 0, 0, 0⟩
/-- The bytes of its keys. -/
structure Keys (W : World) (n : Nat) : Prop where
  a : W.heap[n]? = some (.cells #[.int .u8 97] 5 (1, 2))
  b : W.heap[n + 1]? = some (.cells #[.int .u8 98] 5 (1, 2))
/-- All that there is ahead of the switch. -/
structure Base (w W : World) (n : Nat) : Prop where
  keys : Keys W n
  run : Box W (n + 1 + 1) 41 (dI n 1 1).cells
  row : Box W (n + 1 + 1 + 1) 41 (dI n 1 1).cells
  edit : Box W (n + 1 + 1 + 1 + 1) 26 (xI n).cells
  be : Below w.heap.size w W
  ge : w.heap.size ≤ n
  size : W.heap.size = n + 5
abbrev obA : Obj := .cells #[.int .u8 97] 5 (1, 2)
abbrev obB : Obj := .cells #[.int .u8 98] 5 (1, 2)
abbrev obR (n : Nat) : Obj := .cells #[.int .i64 1, .int .i64 1, .int .i64 1, .slice (some ⟨n, 0, none⟩) 1 1, .slice (some ⟨n + 1, 0, none⟩) 1 1, .int .u64 1] 41
abbrev obE (n : Nat) : Obj := .cells #[.slice (some ⟨n + 1 + 1 + 1, 0, none⟩) 1 1, .slice none 0 0, .int .i64 0, .int .i64 0, .int .u64 0] 26
theorem base_mk {w W1 : World} (hb : Below w.heap.size w W1) : Base w (((((W1.alloc obA).alloc obB).alloc (obR W1.heap.size)).alloc (obR W1.heap.size)).alloc (obE W1.heap.size)) W1.heap.size := by
  have s1 : (W1.alloc obA).heap.size = W1.heap.size + 1 := by simp
  have s2 : ((W1.alloc obA).alloc obB).heap.size = W1.heap.size + 1 + 1 := by simp
  have s3 : (((W1.alloc obA).alloc obB).alloc (obR W1.heap.size)).heap.size = W1.heap.size + 1 + 1 + 1 := by simp
  have s4 : ((((W1.alloc obA).alloc obB).alloc (obR W1.heap.size)).alloc (obR W1.heap.size)).heap.size = W1.heap.size + 1 + 1 + 1 + 1 := by simp
  have h1 := hb.size
  have b1 : Below W1.heap.size W1 (W1.alloc obA) := Joins.below_alloc1 _ _
  have b2 : Below W1.heap.size W1 ((W1.alloc obA).alloc obB) := b1.alloc (by omega) _
  have b3 : Below W1.heap.size W1 (((W1.alloc obA).alloc obB).alloc (obR W1.heap.size)) := b2.alloc (by omega) _
  have b4 := b3.alloc (by omega) (obR W1.heap.size)
  have b5 := b4.alloc (by omega) (obE W1.heap.size)
  refine ⟨⟨?_, ?_⟩, ?_, ?_, ?_, hb.trans (b5.mono h1), h1, by simp⟩
  · rw [Below.heap_alloc _ _ _ (by omega), Below.heap_alloc _ _ _ (by omega), Below.heap_alloc _ _ _ (by omega), Below.heap_alloc _ _ _ (by omega)]
    exact heap_alloc_new W1 _
  · rw [Below.heap_alloc _ _ _ (by omega), Below.heap_alloc _ _ _ (by omega), Below.heap_alloc _ _ _ (by omega), ← s1]
    exact heap_alloc_new _ _
  · unfold Box
    rw [Below.heap_alloc _ _ _ (by omega), Below.heap_alloc _ _ _ (by omega), ← s2]
    exact heap_alloc_new _ _
  · unfold Box
    rw [Below.heap_alloc _ _ _ (by omega), ← s3]
    exact heap_alloc_new _ _
  · unfold Box
    rw [← s4]
    exact heap_alloc_new _ _
section
variable {w W W' : World} {n N : Nat}
theorem Keys.same (h : Keys W n) (h1 : W'.heap[n]? = W.heap[n]?) (h2 : W'.heap[n + 1]? = W.heap[n + 1]?) : Keys W' n := ⟨h1.trans h.a, h2.trans h.b⟩
theorem Keys.keep {S : Nat → Prop} (h : Keys W n) (hk : Keep S W W') (h1 : ¬ S n) (h2 : ¬ S (n + 1)) : Keys W' n := h.same (hk.block n (Array.getElem?_eq_some_iff.1 h.a).1 h1) (hk.block (n + 1) (Array.getElem?_eq_some_iff.1 h.b).1 h2)
theorem lies_one {k : Nat} {c : Nat} {fr : Nat × Nat} {R : Nat → Prop} (h : W.heap[k]? = some (.cells #[.int .u8 (c : Int)] 5 fr)) (hR : R k) : LiesP W R (some ⟨k, 0, none⟩) ([c].map vb) :=
  .inr ⟨_, rfl, hR, fun j u hj => by
    rcases j with _ | j
    · have e : Value.int .u8 (c : Int) = u := by simpa using hj
      subst e
      show W.cell? ⟨k, 0, none⟩ = _
      rw [cell_of_row W k 0 _ _ _ h]
      rfl
    · simp at hj⟩
theorem dI_ok (h : Keys W n) {f b : Int} (hf : (Lit.int .i64 f).wf = true) (hb : (Lit.int .i64 b).wf = true) : (dI n f b).Ok W (Fresh n W) := by
  have l1 := (Array.getElem?_eq_some_iff.1 h.a).1
  have l2 := (Array.getElem?_eq_some_iff.1 h.b).1
  have m1 : 1 ≤ maxLen := by decide
  have c1 : ∀ c, c ∈ [97] → c < 256 := by decide
  have c2 : ∀ c, c ∈ [98] → c < 256 := by decide
  exact ⟨hf, hb, (show (Lit.int .i64 1).wf = true by decide), lies_one h.a ⟨Nat.le_refl _, l1, _, _, h.a⟩, Nat.le_refl _, m1, c1, lies_one h.b ⟨Nat.le_succ n, l2, _, _, h.b⟩, Nat.le_refl _, m1, c2, (show 1 < 18446744073709551616 by decide)⟩
/-- An edit with one run, that lies in block S. -/
theorem one_ok {S : Nat} {d : D} {dA : Option Addr} {dc : Nat} {Z : List Int} {nx lg : Int} {sq : Nat} (hs : Box W S 41 d.cells) (hd : d.Ok W (· < W.heap.size)) (hz : Lies W W.heap.size dA (Z.map (.int .i64))) (h1 : Z.length ≤ dc) (h2 : dc ≤ maxLen) (h3 : ∀ z, z ∈ Z → (Lit.int .i64 z).wf = true)
    (h4 : (Lit.int .i64 nx).wf = true) (h5 : (Lit.int .i64 lg).wf = true) (h6 : sq < 18446744073709551616) : (⟨some ⟨S, 0, none⟩, 1, [d], dA, dc, Z, nx, lg, sq⟩ : X).Ok W W.heap.size := by
  refine ⟨⟨?_, Nat.le_refl _, (show 1 ≤ maxLen by decide), fun e he => ?_⟩, hz, h1, h2, h3, h4, h5, h6⟩
  · have := lies_block (B := W.heap.size) hs hs.lt
    simpa [cellsL] using this
  · rw [List.mem_singleton.1 he]; exact hd
theorem D.Ok.low {d : D} {B : Nat} (h : d.Ok W (Fresh B W)) : d.Ok W (· < W.heap.size) := h.later (fun _ _ => rfl) fun _ hk => hk.2.1
theorem zeros_list (k : Nat) : (zeros k).toList = (List.replicate k 0).map vb := by
  have h := toList_madeCells_one (.int .u8 0) k
  rw [show zeros k = madeCells #[.int .u8 0] k from rfl, h]
  simp
theorem make_zeros (k : Nat) (hk : k ≤ 1000) (W : World) : Sem.run Try.prog (Instr.makeSlice 29 (.int .i64 (k : Int)) (.int .i64 (k : Int))) W = .ok (.slice (some ⟨W.heap.size, 0, none⟩) k k) (W.alloc (.cells (zeros k) 5)) := by
  have h := make_bytes k 0 (by omega) W
  rw [Nat.add_zero] at h
  rw [show ((k : Int) + ((0 : Nat) : Int)) = (k : Int) by omega] at h
  exact h
theorem make_room (W : World) : Sem.run Try.prog (Instr.makeSlice 29 (.int .i64 0) (.int .i64 4)) W = .ok (.slice (some ⟨W.heap.size, 0, none⟩) 0 4) (W.alloc (.cells (zeros 4) 5)) := make_bytes 0 4 (by decide) W
theorem own_room {g : Nat} {B : Nat} (hB : B ≤ g) (h : W.heap[g]? = some (.cells (zeros 4) 5 (0, 0))) : W.ownsRow B 5 1 (.slice (some ⟨g, 0, none⟩) 0 4) 0 [] := by
  refine ⟨rfl, .inr ⟨g, 4, _, rfl, hB, h, by omega, by decide, ?_, ?_⟩⟩
  · rw [zeros_size]
  · simp
abbrev runK (M n N : Nat) : List Value := [.int .i64 1, .int .i64 1, .int .i64 1, .slice (some ⟨M, 0, none⟩) n n, .slice (some ⟨N + 1, 0, none⟩) 1 1, .int .u64 1]
/-- Case 4, when the first key is long. -/
structure Mid (w W : World) (N M n : Nat) : Prop where
  edit : Box W (N + 1 + 1 + 1 + 1) 26 (xI N).cells
  row : Box W (N + 1 + 1 + 1) 41 (runK M n N)
  zer : W.heap[M]? = some (.cells (zeros n) 5 (0, 0))
  be : Below w.heap.size w W
  lo : N + 5 ≤ M
  ge : w.heap.size ≤ N
theorem Mid.alloc {M k : Nat} (h : Mid w W N M k) (o : Obj) : Mid w (W.alloc o) N M k :=
  ⟨h.edit.alloc o, h.row.alloc o, (Below.heap_alloc _ _ _ (Array.getElem?_eq_some_iff.1 h.zer).1).trans h.zer, h.be.alloc h.be.size o, h.lo, h.ge⟩
/-- Case 4, when both keys are there. -/
structure Four (w W : World) (N M n : Nat) (A : Option Addr) (c : Nat) : Prop where
  edit : Box W (N + 1 + 1 + 1 + 1) 26 (xI N).cells
  row : Box W (N + 1 + 1 + 1) 41 [.int .i64 1, .int .i64 1, .int .i64 1, .slice (some ⟨M, 0, none⟩) n n, .slice A 1 c, .int .u64 1]
  zer : W.heap[M]? = some (.cells (zeros n) 5 (0, 0))
  last : LiesP W (fun k => k < W.heap.size) A ([255].map vb)
  len : 1 ≤ c
  cap : c ≤ maxLen
  be : Below w.heap.size w W
abbrev dK (M n : Nat) (A : Option Addr) (c : Nat) : D := ⟨1, 1, 1, some ⟨M, 0, none⟩, n, List.replicate n 0, A, c, [255], 1⟩
theorem Four.ok {M k : Nat} {A : Option Addr} {c : Nat} (h : Four w W N M k A c) (hk : k ≤ 1000) : (⟨some ⟨N + 1 + 1 + 1, 0, none⟩, 1, [dK M k A c], none, 0, [], 0, 0, 0⟩ : X).Ok W W.heap.size := by
  have hM := (Array.getElem?_eq_some_iff.1 h.zer).1
  have hl : LiesP W (· < W.heap.size) (some ⟨M, 0, none⟩) ((List.replicate k 0).map vb) := by
    rw [← zeros_list]
    exact Lies.p (lies_block (B := W.heap.size) h.zer hM) fun _ h => h
  refine one_ok (d := dK M k A c) ?_ ⟨by show (Lit.int .i64 1).wf = true; decide, by show (Lit.int .i64 1).wf = true; decide, by show (Lit.int .i64 1).wf = true; decide, hl, by simp, by show k ≤ maxLen; unfold maxLen; omega, ?_, h.last, h.len, h.cap, by show ∀ c, c ∈ [255] → c < 256; decide, by show 1 < 18446744073709551616; decide⟩ (.inl rfl) (Nat.le_refl _) (by decide) (fun _ h => (by cases h)) (by decide) (by decide) (by decide)
  · have hr := h.row
    have e : (dK M k A c).cells = [.int .i64 1, .int .i64 1, .int .i64 1, .slice (some ⟨M, 0, none⟩) k k, .slice A 1 c, .int .u64 1] := by simp [D.cells]
    rw [e]
    exact hr
  · intro x hx
    rw [(List.mem_replicate.1 hx).2]
    decide
/-- The last key is stored. -/
theorem Mid.four {M k m : Nat} {v v' : Value} {xs : List Value} {A : Option Addr} {c B : Nat} (h : Mid w W N M k) (hn : W.ownsRow B 5 1 v m xs) (hon : Onto v v' W W') (hv : v' = .slice A 1 c) (hB : N + 5 ≤ B) (hvM : ¬ v.ownBlock = some M) (hBW : B ≤ W.heap.size)
    (ho : W'.ownsRow B 5 1 (.slice A 1 c) 1 ([255].map vb)) : Four w (W'.setCell ⟨N + 1 + 1 + 1, 4, none⟩ (.slice A 1 c)) N M k A c := by
  have hg : ∀ k, v.ownBlock = some k → N + 5 ≤ k := fun k hk => Nat.le_trans hB (hn.lt k hk).1
  have e1 := h.edit.keep hon.keep (fun hs => by have := hg _ hs; omega)
  have r1 := h.row.keep hon.keep (fun hs => by have := hg _ hs; omega)
  have z1 := (hon.keep.block M (Array.getElem?_eq_some_iff.1 h.zer).1 hvM).trans h.zer
  have hk2 : Keep (· = N + 1 + 1 + 1) W' (W'.setCell ⟨N + 1 + 1 + 1, 4, none⟩ (.slice A 1 c)) := (Keep.refl (· = N + 1 + 1 + 1) W').setCell (p := ⟨N + 1 + 1 + 1, 4, none⟩) (.inr rfl) _
  obtain ⟨A2, c2, e2, hc2, hm2, -⟩ := own_parts ho
  injection e2 with ea _ ec
  subst ea; subst ec
  have hM := h.lo
  refine ⟨e1.keep hk2 (by omega), r1.set 4 _, (hk2.block M (Array.getElem?_eq_some_iff.1 z1).1 (by omega)).trans z1, ?_, hc2, hm2, (h.be.trans (hon.keep.below h.be.size fun k hk => by have := hg k hk; have := h.ge; omega)).setCell (by have := h.ge; show w.heap.size ≤ N + 1 + 1 + 1; omega) _⟩
  refine (LiesP.of_own ho).later (fun k hk => hk2.block k hk.2.1 (by have := hk.1; omega)) fun k hk => by
    have := hk.2.1
    rw [show (W'.setCell ⟨N + 1 + 1 + 1, 4, none⟩ (.slice A 1 c)).heap.size = W'.heap.size from by simp]
    exact this
/-! ### The two loops -/
def runsI (N j : Nat) : List D := (List.range j).map fun i : Nat => dI N ((i : Int) + 1) 1
theorem runsI_succ (N j : Nat) : runsI N (j + 1) = runsI N j ++ [dI N ((j : Int) + 1) 1] := by
  unfold runsI
  rw [List.range_succ, List.map_append]
  rfl
theorem runsI_len (N j : Nat) : (runsI N j).length = j := by unfold runsI; simp
theorem runsI_ru (N j : Nat) : (runsI N j).map D.ru = (List.range j).map fun i : Nat => (⟨(i : Int) + 1, 1, 1, [97], [98], 1⟩ : Ru) := by
  unfold runsI
  rw [List.map_map]
  rfl
/-- The edit in its making, with j runs. -/
structure Adds (w W : World) (N j : Nat) (va : Value) (F : Int) : Prop where
  keys : Keys W N
  run : Box W (N + 1 + 1) 41 (dI N F 1).cells
  edit : Box W (N + 1 + 1 + 1 + 1) 26 [va, .slice none 0 0, .int .i64 0, .int .i64 0, .int .u64 0]
  add : Ac N W va (runsI N j)
  new : ∀ k, va.ownBlock = some k → N + 5 ≤ k
  be : Below w.heap.size w W
  ge : w.heap.size ≤ N
  size : N + 5 ≤ W.heap.size
theorem Base.adds (h : Base w W N) : Adds w (W.setCell ⟨N + 1 + 1 + 1 + 1, 0, none⟩ (.slice none 0 0)) N 0 (.slice none 0 0) 1 := by
  have hk : Keep (· = N + 1 + 1 + 1 + 1) W (W.setCell ⟨N + 1 + 1 + 1 + 1, 0, none⟩ (.slice none 0 0)) := (Keep.refl (· = N + 1 + 1 + 1 + 1) W).setCell (p := ⟨N + 1 + 1 + 1 + 1, 0, none⟩) (.inr rfl) _
  have hs := h.size
  exact ⟨h.keys.keep hk (by omega) (by omega), h.run.keep hk (by omega), h.edit.set 0 _, Ac.nil _ _, fun k hk => by simp [Value.ownBlock] at hk, h.be.setCell (by have := h.ge; show w.heap.size ≤ N + 1 + 1 + 1 + 1; omega) _, h.ge, by rw [show (W.setCell ⟨N + 1 + 1 + 1 + 1, 0, none⟩ (.slice none 0 0)).heap.size = W.heap.size from by simp]; omega⟩
/-- The run's file is set. -/
theorem Adds.file {j : Nat} {va : Value} {F : Int} (h : Adds w W N j va F) (f : Int) : Adds w (W.setCell ⟨N + 1 + 1, 0, none⟩ (.int .i64 f)) N j va f := by
  have hk : Keep (· = N + 1 + 1) W (W.setCell ⟨N + 1 + 1, 0, none⟩ (.int .i64 f)) := (Keep.refl (· = N + 1 + 1) W).setCell (p := ⟨N + 1 + 1, 0, none⟩) (.inr rfl) _
  exact ⟨h.keys.keep hk (by omega) (by omega), h.run.set 0 _, h.edit.keep hk (by omega), h.add.keep hk (fun k hv hk2 => by have := h.new k hv; omega) fun k hf hk2 => fresh_ne h.run (by decide) hf hk2, h.new, h.be.setCell (by have := h.ge; show w.heap.size ≤ N + 1 + 1; omega) _, h.ge, Nat.le_trans h.size hk.size⟩
/-- One run more. -/
theorem Adds.more {j : Nat} {va : Value} (h : Adds w W N j va ((j : Int) + 1)) (hj : j ≤ 1000) :
    ∃ v' w', Sem.run Try.prog (Builtin.append_ #[22, 22] 22 #[va, .slice (some ⟨W.heap.size, 0, none⟩) 1 1]) (W.alloc (rbox (dI N ((j : Int) + 1) 1))) = .ok v' w' ∧ w'.cell? ⟨N + 1 + 1 + 1 + 1, 0, none⟩ = some va ∧ w'.frozen? ⟨N + 1 + 1 + 1 + 1, 0, none⟩ = false ∧ Adds w (w'.setCell ⟨N + 1 + 1 + 1 + 1, 0, none⟩ v') N (j + 1) v' ((j : Int) + 1) := by
  have hd : (dI N ((j : Int) + 1) 1).Ok W (Fresh N W) := dI_ok h.keys (WalkArith.wf_i64 (by omega)) (by decide)
  obtain ⟨v', w', hr, ha, hon⟩ := h.add.more hd (by have := h.size; omega) (by rw [runsI_len]; omega)
  have hk := hon.keep
  have e1 := h.edit.keep hk (fun hs => by have := h.new _ hs; omega)
  have hk2 : Keep (· = N + 1 + 1 + 1 + 1) w' (w'.setCell ⟨N + 1 + 1 + 1 + 1, 0, none⟩ v') := (Keep.refl (· = N + 1 + 1 + 1 + 1) w').setCell (p := ⟨N + 1 + 1 + 1 + 1, 0, none⟩) (.inr rfl) _
  have hnew : ∀ k, v'.ownBlock = some k → N + 5 ≤ k := fun k hv => (hon.place k hv).elim (h.new k) fun h1 => Nat.le_trans h.size h1
  refine ⟨v', w', hr, e1.cell 0, e1.free 0, (h.keys.keep hk (fun hs => by have := h.new _ hs; omega) (fun hs => by have := h.new _ hs; omega)).keep hk2 (by omega) (by omega), (h.run.keep hk (fun hs => by have := h.new _ hs; omega)).keep hk2 (by omega), e1.set 0 _, ?_, hnew, (h.be.trans (hk.below h.be.size fun k hs => by have := h.new k hs; have := h.ge; omega)).setCell (by have := h.ge; show w.heap.size ≤ N + 1 + 1 + 1 + 1; omega) _, h.ge, Nat.le_trans h.size (Nat.le_trans hk.size hk2.size)⟩
  rw [runsI_succ]
  exact ha.keep hk2 (fun k hv hs => by have := hnew k hv; omega) fun k hf hs => fresh_ne e1 (by decide) hf hs
def dropsI (j : Nat) : List Int := (List.range j).map fun i : Nat => (i : Int) + 1
theorem dropsI_succ (j : Nat) : dropsI (j + 1) = dropsI j ++ [(j : Int) + 1] := by
  unfold dropsI
  rw [List.range_succ, List.map_append]
  rfl
theorem dropsI_len (j : Nat) : (dropsI j).length = j := by unfold dropsI; simp
/-- The edit in its making, with j files to drop. -/
structure Drops (w W : World) (N j : Nat) (vd : Value) : Prop where
  keys : Keys W N
  row : Box W (N + 1 + 1 + 1) 41 (dI N 1 1).cells
  edit : Box W (N + 1 + 1 + 1 + 1) 26 [.slice (some ⟨N + 1 + 1 + 1, 0, none⟩) 1 1, vd, .int .i64 0, .int .i64 0, .int .u64 0]
  drop : W.ownsRow (N + 5) 3 1 vd (dropsI j).length ((dropsI j).map (.int .i64))
  be : Below w.heap.size w W
  ge : w.heap.size ≤ N
  size : N + 5 ≤ W.heap.size
theorem Base.drops (h : Base w W N) : Drops w W N 0 (.slice none 0 0) := ⟨h.keys, h.row, h.edit, World.ownsRow_nil _ _ _ _, h.be, h.ge, by have := h.size; omega⟩
theorem Drops.more {j : Nat} {vd : Value} (h : Drops w W N j vd) (hj : j ≤ 1000) :
    ∃ v' w', Sem.run Try.prog (Builtin.append_ #[23, 23] 23 #[vd, .slice (some ⟨W.heap.size, 0, none⟩) 1 1]) (W.alloc (.cells #[.int .i64 ((j : Int) + 1)] 3)) = .ok v' w' ∧ w'.cell? ⟨N + 1 + 1 + 1 + 1, 1, none⟩ = some vd ∧ w'.frozen? ⟨N + 1 + 1 + 1 + 1, 1, none⟩ = false ∧ Drops w (w'.setCell ⟨N + 1 + 1 + 1 + 1, 1, none⟩ v') N (j + 1) v' := by
  obtain ⟨v', w', hr, ha, hon⟩ := more_num ((j : Int) + 1) h.drop (by rw [dropsI_len]; omega) h.size
  have hk := hon.keep
  have hg : ∀ k, vd.ownBlock = some k → N + 5 ≤ k := fun k hv => (h.drop.lt k hv).1
  have e1 := h.edit.keep hk (fun hs => by have := hg _ hs; omega)
  have hk2 : Keep (· = N + 1 + 1 + 1 + 1) w' (w'.setCell ⟨N + 1 + 1 + 1 + 1, 1, none⟩ v') := (Keep.refl (· = N + 1 + 1 + 1 + 1) w').setCell (p := ⟨N + 1 + 1 + 1 + 1, 1, none⟩) (.inr rfl) _
  refine ⟨v', w', hr, e1.cell 1, e1.free 1, (h.keys.keep hk (fun hs => by have := hg _ hs; omega) (fun hs => by have := hg _ hs; omega)).keep hk2 (by omega) (by omega), (h.row.keep hk (fun hs => by have := hg _ hs; omega)).keep hk2 (by omega), e1.set 1 _, ?_, (h.be.trans (hk.below h.be.size fun k hs => by have := hg k hs; have := h.ge; omega)).setCell (by have := h.ge; show w.heap.size ≤ N + 1 + 1 + 1 + 1; omega) _, h.ge, Nat.le_trans h.size (Nat.le_trans hk.size hk2.size)⟩
  rw [dropsI_succ]
  exact own_kept ha hk2 fun k hv hs => by have := (ha.lt k hv).1; omega
end
end Go.Proofs.Ythhmjjmjicmhdaa.Ed
