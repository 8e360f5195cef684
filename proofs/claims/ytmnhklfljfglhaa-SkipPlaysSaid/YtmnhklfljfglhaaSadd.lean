/- Package skip: what an insertion makes of a list, in links and in memory. -/
import Derived.Test.YtmnhklfljfglhaaSseek
import Derived.Deep.Cut
import Derived.Deep.CutRange
import Derived.Deep.DeepCutAuto
import Derived.Deep.RegionHeld3
import Derived.Lib.MinMax
namespace Go.Proofs.Ytmnhklfljfglhaa.Sk
set_option linter.unusedVariables false
set_option linter.unusedSimpArgs false
open Go.RowKit Lift Ik

/-- What Insert answers. -/
noncomputable def insE (R : Row) (t : T) : Nat := open Classical in if okT t = false then 1 else if twice R t.k then 9 else 0
noncomputable def insT (R : Row) (t : T) (h : Nat) : Row := if insE R t = 0 then insR R t h else R
def zeros' (h : Nat) : List Nat := List.replicate h 0
def ncells (d : D) (b h : Nat) : List Value := [.slice d.ka d.k.key.length d.kc, .int .u64 (d.k.seq : Int), .int .i64 d.k.kind, .slice d.va d.val.length d.vc, .slice (some ⟨b, 0, none⟩) h h]
theorem ncells_eq (d : D) (b h : Nat) : N.cells ⟨d, b, zeros' h⟩ = ncells d b h := by simp [N.cells, ncells, zeros']
/-- The new node, in block X. -/
structure Added (w0 : World) (t : T) (h : Nat) (wx : World) (X b : Nat) (d' : D) : Prop where
  below : Below w0.heap.size w0 wx
  told : d'.t = t
  ok : d'.Ok wx (Fresh w0.heap.size wx)
  bb : Lift.Box wx b Ty.int (ints (zeros' h))
  xb : Lift.Box wx X Ty.node (ncells d' b h)
  hb : w0.heap.size ≤ b
  hX : w0.heap.size ≤ X
theorem make_ints (n : Nat) (hn : n ≤ 1000) (W : World) : Sem.run Try.prog (Instr.makeSlice 23 (.int .i64 (n : Int)) (.int .i64 (n : Int))) W = .ok (.slice (some ⟨W.heap.size, 0, none⟩) n n) (W.alloc (.cells (madeCells #[.int .i64 0] n) 3)) := by
  obtain ⟨i, hi, hz, hs, hb⟩ := info_parts (P := Try.prog) (e := 3) (z := .int .i64 0) (size := 1) (bytes := 8) (by kernel_rfl)
  have h := run_make (P := Try.prog) W 23 3 i (.int .i64 0) Try.underlying23 hi hz .i64 .i64 (n : Int) (n : Int) (by omega) (by omega) (by rw [hb]; omega) (by omega)
  rw [hs, Nat.mul_one] at h
  exact h
theorem made_ints (n : Nat) : madeCells #[.int .i64 0] n = (ints (zeros' n)).toArray := by
  have h := toList_madeCells_one (.int .i64 0) n
  apply Array.ext'
  rw [h]
  simp [ints, zeros']
def zn : List Value := [.slice none 0 0, .int .u64 0, .int .i64 0, .slice none 0 0, .slice none 0 0]
/-- A store of a whole row, as it comes up in a region whose order is open (behind 'AllReadyH.cons'). -/
theorem held_store {P : Program} {w : World} {ops : Array Oper} {o : Oper} {a : Act} {K' : Act → World → Prop} {Q : Exit → Act → World → Prop} (hw : Region.wanted o (yielded ops a.tmps) = true) (ty : TypeId) (x y : Operand)
    (ho : o.op = .store ty x y) (g : Nat) (cells : Array Value) (hx : a.eval x = .pointer (some ⟨g, 0, none⟩)) (hy : a.eval y = .agg cells) (t : TypeId) (old : Array Value) (hg : w.heap[g]? = some (.cells old t (0, 0)))
    (hi : (P.info? ty).map (·.size) = some cells.size) (hold : old.size = cells.size) (h1 : cells.all (·.oneCell') = true) (h : K' (a.put o.dst undef) (w.setRow g cells)) :
    if Region.wanted o (yielded ops a.tmps) = true then Oper.wp P o a w K' Q else K' (a.put o.dst undef) w := by
  rw [if_pos hw]
  exact wp_store_row ty x y ho g cells hx hy t old hg hi hold h1 h
theorem box_ne {w : World} {k X : Nat} {T : TypeId} {us : List Value} {cs : Array Value} {e : TypeId} {fr : Nat × Nat} (h : Lift.Box w X T us) (hk : w.heap[k]? = some (.cells cs e fr)) (hT : e ≠ T) : k ≠ X := fun he => by
  subst he
  unfold Lift.Box at h
  rw [hk] at h
  injection h with h
  injection h with _ h2
  exact hT h2
theorem added_mk {w0 W : World} {t : T} {h X b : Nat} {d' : D} (hb : Below w0.heap.size w0 W) (ht : d'.t = t) (hd : d'.Ok W (Fresh w0.heap.size W)) (bb : Lift.Box W b Ty.int (ints (zeros' h))) (xb : Lift.Box W X Ty.node zn) (hbb : w0.heap.size ≤ b) (hX : w0.heap.size ≤ X) :
    Added w0 t h (W.setRow X (ncells d' b h).toArray) X b d' := by
  have hoff : ∀ k, k ≠ X → (W.setRow X (ncells d' b h).toArray).heap[k]? = W.heap[k]? := fun k hk => setRow_other W X k _ hk
  refine ⟨below_setRow hb hX _, ht, hd.later (fun k hk => ?_) fun k hk => ?_, bb.at_block (hoff _ ?_), setRow_heap W X _ _ _ _ xb, hbb, hX⟩
  · obtain ⟨_, _, cs, fr, h3⟩ := hk
    exact hoff _ (box_ne xb h3 (by decide))
  · obtain ⟨h1, h2, cs, fr, h3⟩ := hk
    exact ⟨h1, by rw [size_setRow]; exact h2, cs, fr, (hoff _ (box_ne xb h3 (by decide))).trans h3⟩
  · exact box_ne xb bb (by decide)
/-- What a call of Insert ends with. -/
def Insd (w : World) (g : Nat) (S : Nat → Prop) (R : Row) (t : T) (h : Nat) (e : Ending) (w' : World) : Prop :=
  ∃ S', e = .returned (.int .i64 (insE R t : Nat)) ∧ SL w' g S' (insT R t h) ∧ Keep S w w' ∧ ∀ k, S' k → S k ∨ w.heap.size ≤ k
abbrev abox12 : Obj := .cells #[.int .i64 0, .int .i64 0, .int .i64 0, .int .i64 0, .int .i64 0, .int .i64 0, .int .i64 0, .int .i64 0, .int .i64 0, .int .i64 0, .int .i64 0, .int .i64 0] 60
theorem twice_none {L : List Q} {k : K} (h : aft qk L k = []) : ¬ twice (L.map fun q => (q.t, q.h)) k := by
  rintro ⟨r, v, h1, _⟩
  rw [aft_map, h] at h1
  cases h1
theorem twice_some {L : List Q} {k : K} {q : Q} {v : List Q} (h : aft qk L k = q :: v) : twice (L.map fun q => (q.t, q.h)) k ↔ cmpK q.t.k k = 0 := by
  constructor
  · rintro ⟨r, u, h1, h2⟩
    rw [aft_map, h] at h1
    injection h1 with h1 _
    rw [← h1] at h2
    exact h2
  · intro h2
    exact ⟨(q.t, q.h), v.map fun q => (q.t, q.h), by rw [aft_map, h]; rfl, h2⟩
theorem twice_L {L : List Q} {k : K} (hn : ¬ twice (L.map fun q => (q.t, q.h)) k) : ∀ q v, aft qk L k = q :: v → cmpK q.t.k k ≠ 0 := fun q v h e => hn ((twice_some h).2 e)

def shape (n : N) : D × Nat × Nat := (n.d, n.b, n.nx.length)
theorem shape_at {ns ns0 : List N} (h : ns.map shape = ns0.map shape) {p : Nat} {n0 : N} (hp : ns0[p]? = some n0) : ∃ n, ns[p]? = some n ∧ n.d = n0.d ∧ n.b = n0.b ∧ n.nx.length = n0.nx.length := by
  have h1 : (ns.map shape)[p]? = (ns0.map shape)[p]? := by rw [h]
  rw [List.getElem?_map, List.getElem?_map, hp] at h1
  cases hn : ns[p]? with
  | none => rw [hn] at h1; cases h1
  | some n =>
    rw [hn] at h1
    injection h1 with h1
    injection h1 with h1 h2
    injection h2 with h2 h3
    exact ⟨n, rfl, h1, h2, h3⟩
theorem shape_set (ns : List N) (a i v : Nat) : (setNs ns a i v).map shape = ns.map shape := by
  unfold setNs
  split
  · rfl
  · split
    · rfl
    · rename_i n hn
      rw [List.map_set]
      refine List.ext_getElem? fun q => ?_
      rw [List.getElem?_set]
      split
      · rename_i e
        subst e
        have hl := (List.getElem?_eq_some_iff.1 hn).1
        rw [if_pos (by simpa using hl), List.getElem?_map, hn]
        simp [shape]
      · rfl
theorem spot_shape {ns ns0 : List N} (h : ns.map shape = ns0.map shape) {a i : Nat} (hs : Spot ns0 a i) : Spot ns a i := by
  rcases hs with h0 | ⟨n, h1, h2, h3⟩
  · exact .inl h0
  · obtain ⟨m, m1, _, _, m4⟩ := shape_at h h1
    exact .inr ⟨m, m1, by omega, h3⟩
/-- An insertion at level j: the links of the levels below are done. -/
structure St (fs0 : List Nat) (ns0 : List N) (a' : Nat) (stp : Nat → Nat) (j : Nat) (fs : List Nat) (ns : List N) : Prop where
  fl : fs.length = 12
  shape : ns.map shape = ns0.map shape
  nx : ∀ y i, i < 12 → nxt fs ns y i = if i < j then (if y = a' then nxt fs0 ns0 (stp i) i else if y = stp i then a' else nxt fs0 ns0 y i) else nxt fs0 ns0 y i
theorem St.step {fs0 fs : List Nat} {ns0 ns : List N} {a' j : Nat} {stp : Nat → Nat} (h : St fs0 ns0 a' stp j fs ns) (hj : j < 12) (ha : a' ≠ 0) (h1 : Spot ns0 a' j) (h2 : Spot ns0 (stp j) j) (hne : stp j ≠ a') :
    St fs0 ns0 a' stp (j + 1) (setFs fs (stp j) j a') (setNs (setNs ns a' j (nxt fs ns (stp j) j)) (stp j) j a') := by
  have e1 : setFs fs a' j (nxt fs ns (stp j) j) = fs := if_neg ha
  have s1 := spot_shape h.shape h1
  have s2 : Spot (setNs ns a' j (nxt fs ns (stp j) j)) (stp j) j := spot_shape ((shape_set _ _ _ _).trans h.shape) h2
  refine ⟨?_, (shape_set _ _ _ _).trans ((shape_set _ _ _ _).trans h.shape), fun y i hi => ?_⟩
  · unfold setFs; split <;> simp [h.fl]
  · rw [nxt_set h.fl hj s2]
    have h3 := nxt_set (v := nxt fs ns (stp j) j) h.fl hj s1 y i
    rw [e1] at h3
    rw [h3, h.nx y i hi, h.nx (stp j) j hj, if_neg (Nat.lt_irrefl j)]
    by_cases hij : i = j
    · subst hij
      rw [if_pos (Nat.lt_succ_self _), if_neg (Nat.lt_irrefl _)]
      by_cases hy : y = stp i
      · subst hy
        rw [if_pos ⟨rfl, rfl⟩, if_neg hne, if_pos rfl]
      · rw [if_neg (fun h => hy h.1)]
        by_cases hya : y = a'
        · rw [if_pos ⟨hya, rfl⟩, if_pos hya]
        · rw [if_neg (fun h => hya h.1), if_neg hya, if_neg hy]
    · rw [if_neg (fun h => hij h.2), if_neg (fun h => hij h.2)]
      by_cases hlt : i < j
      · rw [if_pos hlt, if_pos (show i < j + 1 by omega)]
      · rw [if_neg hlt, if_neg (show ¬ i < j + 1 by omega)]
theorem nxt_app {fs : List Nat} {ns : List N} {n0 : N} {y i : Nat} (hy : y ≠ ns.length + 1) : nxt fs (ns ++ [n0]) y i = nxt fs ns y i := by
  by_cases h0 : y = 0
  · have e : ∀ l : List N, nxt fs l y i = fs.getD i 0 := fun l => if_pos h0
    rw [e, e]
  · have e : ∀ l : List N, nxt fs l y i = match l[y - 1]? with | none => 0 | some n => n.nx.getD i 0 := fun l => if_neg h0
    rw [e, e]
    by_cases hl : y - 1 < ns.length
    · rw [List.getElem?_append_left hl]
    · rw [List.getElem?_eq_none (by simp; omega), List.getElem?_eq_none (by omega)]
theorem Li.at_le {w : World} {g : Nat} {S : Nat → Prop} {fs : List Nat} {V : Value} {ns : List N} {z : Nat} {L : List Q} (h : Li w g S fs V ns z L) {q : Q} (hq : q ∈ L) : q.a ≤ ns.length := by
  obtain ⟨n, h1, _, _⟩ := h.rel q hq
  have := (List.getElem?_eq_some_iff.1 h1).1
  omega
theorem Li.stop_le {w : World} {g : Nat} {S : Nat → Prop} {fs : List Nat} {V : Value} {ns : List N} {z : Nat} {L : List Q} (h : Li w g S fs V ns z L) (k : K) (i : Nat) : stop L k i ≤ ns.length := by
  rcases stop_mem (nx := nxt fs ns) (L := L) k i with h0 | ⟨q, h1, _, h3⟩
  · omega
  · rw [← h3]; exact h.at_le h1
theorem Li.stop_spot {w : World} {g : Nat} {S : Nat → Prop} {fs : List Nat} {V : Value} {ns : List N} {z : Nat} {L : List Q} (h : Li w g S fs V ns z L) (k : K) (i : Nat) (n0 : N) : Spot (ns ++ [n0]) (stop L k i) i := by
  rcases stop_mem (nx := nxt fs ns) (L := L) k i with h0 | ⟨q, h1, h2, h3⟩
  · exact .inl h0
  · right
    obtain ⟨n, m1, _, m3⟩ := h.rel q h1
    rw [← h3]
    have hl := (List.getElem?_eq_some_iff.1 m1).1
    exact ⟨n, by rw [List.getElem?_append_left hl]; exact m1, by omega, h.good.idx q h1⟩
/-- All levels are done: the entry is in its place. -/
theorem Li.done {w w' : World} {g : Nat} {S S' : Nat → Prop} {fs fsE : List Nat} {V V' : Value} {ns nsE : List N} {z z' : Nat} {L : List Q} (h : Li w g S fs V ns z L) {n0 : N} {hh : Nat} (hn : n0.nx.length = hh) (h1 : 1 ≤ hh) (h2 : hh ≤ 12)
    (htw : ∀ q v, aft qk L n0.d.k = q :: v → cmpK q.t.k n0.d.k ≠ 0) (hs : St fs (ns ++ [n0]) (ns.length + 1) (stop L n0.d.k) hh fsE nsE) (hl : Lay w' g S' fsE V' nsE z') :
    Li w' g S' fsE V' nsE z' (bef qk L n0.d.k ++ ⟨ns.length + 1, n0.d.t, hh⟩ :: aft qk L n0.d.k) := by
  have hle := fun i => h.stop_le n0.d.k i
  have hlen : nsE.length = ns.length + 1 := by have := congrArg List.length hs.shape; simpa using this
  have hperm := ins_perm (f := qk) (L := L) (k := n0.d.k) ⟨ns.length + 1, n0.d.t, hh⟩
  refine ⟨hl, ?_, fun q hq => ?_, ?_⟩
  · refine h.good.insert ⟨ns.length + 1, n0.d.t, hh⟩ (by simp) ⟨h1, h2⟩ (fun r hr => by have := h.at_le hr; simp only; omega) htw (fun i hi => ?_) (fun i hi => ?_) (fun i y hi hy hne => ?_)
    · have hi : i < hh := hi
      show nxt fsE nsE (stop L n0.d.k i) i = ns.length + 1
      rw [hs.nx _ _ (by omega), if_pos hi, if_neg (by have := hle i; omega), if_pos rfl]
    · have hi : i < hh := hi
      show nxt fsE nsE (ns.length + 1) i = nxt fs ns (stop L n0.d.k i) i
      rw [hs.nx _ _ (by omega), if_pos hi, if_pos rfl, nxt_app (by have := hle i; omega)]
    · have hy : y ≠ ns.length + 1 := hy
      have hne : i < hh → y ≠ stop L n0.d.k i := hne
      rw [hs.nx _ _ hi]
      by_cases hih : i < hh
      · rw [if_pos hih, if_neg hy, if_neg (hne hih), nxt_app hy]
      · rw [if_neg hih, nxt_app hy]
  · rcases List.mem_cons.1 (hperm.mem_iff.1 hq) with rfl | hq
    · have : (ns ++ [n0])[ns.length + 1 - 1]? = some n0 := by simp
      obtain ⟨n, m1, m2, _, m4⟩ := shape_at hs.shape this
      exact ⟨n, m1, by rw [show n.d.t = n0.d.t by rw [m2]], by rw [m4, hn]⟩
    · obtain ⟨n, m1, m2, m3⟩ := h.rel q hq
      have hl := (List.getElem?_eq_some_iff.1 m1).1
      have : (ns ++ [n0])[q.a - 1]? = some n := by rw [List.getElem?_append_left hl]; exact m1
      obtain ⟨n', p1, p2, _, p4⟩ := shape_at hs.shape this
      exact ⟨n', p1, by rw [p2]; exact m2, by rw [p4]; exact m3⟩
  · rw [hperm.length_eq, List.length_cons, h.len, hlen]
section
variable {w w' w0 w7 w8 : World} {g : Nat} {S S' : Nat → Prop} {fs : List Nat} {V V' : Value} {ns : List N} {z : Nat}
/-- A node more, in memory. -/
theorem Lay.add (h : Lay w7 g S fs V ns z) {t : T} {hh X b : Nat} {d' : D} (hA : Added w0 t hh w7 X b d') (hS : ∀ k, S k → k < w0.heap.size) (h1 : 1 ≤ hh) (h2 : hh ≤ 12) (hn : ns.length ≤ 199) (hb : Below w7.heap.size w7 w8) (ho : Onto V V' w8 w') (hown : w'.ownsRow 0 Ty.node 5 V' (ns.length + 1) (cellsN ns ++ ncells d' b hh))
    (hS' : ∀ k, S' k ↔ S k ∨ (w0.heap.size ≤ k ∧ k < w'.heap.size ∧ k ≠ X)) :
    Lay (w'.setCell ⟨g, 12, none⟩ V') g S' fs V' (ns ++ [⟨d', b, zeros' hh⟩]) z ∧ Keep S w7 (w'.setCell ⟨g, 12, none⟩ V') ∧ (w'.setCell ⟨g, 12, none⟩ V').heap.size = w'.heap.size := by
  have hsz : w7.heap.size ≤ w'.heap.size := Nat.le_trans hb.size ho.keep.size
  have hoff : ∀ k, k < w7.heap.size → ¬ V.ownBlock = some k → k ≠ g → (w'.setCell ⟨g, 12, none⟩ V').heap[k]? = w7.heap[k]? := fun k hk hv hg => by
    rw [Below.heap_setCell _ _ _ _ hg, ho.keep.block k (Nat.lt_of_lt_of_le hk hb.size) hv, hb.block k hk]
  have typ : ∀ {k : Nat} {cs : Array Value} {e : TypeId} {fr : Nat × Nat}, w7.heap[k]? = some (.cells cs e fr) → e ≠ Ty.node → e ≠ Ty.list → (w'.setCell ⟨g, 12, none⟩ V').heap[k]? = w7.heap[k]? := fun {k cs e fr} hk he hl => by
    refine hoff k (Array.getElem?_eq_some_iff.1 hk).1 (fun hv => ?_) (box_ne h.box hk hl)
    obtain ⟨cs2, fr2, h3⟩ := own_blk h.own hv
    rw [hk] at h3
    injection h3 with h3
    injection h3 with _ h3
    exact he h3
  have hgv : ¬ V.ownBlock = some g := fun hv => by
    obtain ⟨cs2, fr2, h3⟩ := own_blk h.own hv
    exact box_ne h.box h3 (by decide) rfl
  have hgl := h.box.lt
  have hbox8 : Lift.Box w' g Ty.list (ints fs ++ [V, .int .i64 (z : Int)]) := by
    refine h.box.at_block ?_
    rw [ho.keep.block g (Nat.lt_of_lt_of_le hgl hb.size) hgv, hb.block g hgl]
  have hsize : (w'.setCell ⟨g, 12, none⟩ V').heap.size = w'.heap.size := by simp
  have hvl : ∀ k, V'.ownBlock = some k → S k ∨ w7.heap.size ≤ k := fun k hk => (ho.place k hk).imp (h.sv k) fun h1 => Nat.le_trans hb.size h1
  have hX7 : X < w7.heap.size := hA.xb.lt
  refine ⟨⟨?_, h.fl, ?_, fun n hn => ?_, fun n hn => ?_, ?_, fun n hn => ?_, (hS' g).2 (.inl h.sg), fun k hk => ?_, fun n hn => ?_, fun k hk => ?_, by simp; omega⟩, ?_, hsize⟩
  · have := hbox8.set 12 V'
    have e : (ints fs ++ [V, .int .i64 (z : Int)]).set 12 V' = ints fs ++ [V', .int .i64 (z : Int)] := by
      rw [List.set_append_right _ _ (by simp [h.fl])]
      simp [h.fl]
    rw [e] at this
    exact this
  · rw [List.length_append, cellsN_append]
    have e : cellsN [⟨d', b, zeros' hh⟩] = ncells d' b hh := by simp [cellsN, ncells_eq]
    rw [e]
    refine own_same hown fun k hk => Below.heap_setCell _ _ _ _ fun e => ?_
    subst e
    obtain ⟨cs2, fr2, h3⟩ := own_blk hown hk
    exact box_ne hbox8 h3 (by decide) rfl
  · rcases List.mem_append.1 hn with hn | hn
    · exact (h.nb n hn).at_block (typ (h.nb n hn) (by decide) (by decide))
    · simp at hn
      subst hn
      exact hA.bb.at_block (typ hA.bb (by decide) (by decide))
  · rcases List.mem_append.1 hn with hn | hn
    · exact h.nh n hn
    · simp at hn
      subst hn
      simp [zeros', h1, h2]
  · rw [List.map_append]
    refine List.nodup_append.2 ⟨h.nd, by simp, fun x hx y hy => ?_⟩
    simp at hy
    subst hy
    obtain ⟨m, hm, rfl⟩ := List.mem_map.1 hx
    have := hS _ (h.sb m hm)
    have := hA.hb
    omega
  · rcases List.mem_append.1 hn with hn | hn
    · refine (h.ok n hn).later (fun k hk => ?_) fun k hk => ?_
      · obtain ⟨_, cs, fr, hh⟩ := hk
        exact typ hh (by decide) (by decide)
      · obtain ⟨h1, cs, fr, hh⟩ := hk
        exact ⟨(hS' k).2 (.inl h1), cs, fr, (typ hh (by decide) (by decide)).trans hh⟩
    · simp at hn
      subst hn
      refine hA.ok.later (fun k hk => ?_) fun k hk => ?_
      · obtain ⟨_, _, cs, fr, hh⟩ := hk
        exact typ hh (by decide) (by decide)
      · obtain ⟨h1, h2, cs, fr, hh⟩ := hk
        exact ⟨(hS' k).2 (.inr ⟨h1, by omega, box_ne hA.xb hh (by decide)⟩), cs, fr, (typ hh (by decide) (by decide)).trans hh⟩
  · rcases hvl k hk with h1 | h1
    · exact (hS' k).2 (.inl h1)
    · refine (hS' k).2 (.inr ⟨?_, (hown.lt k hk).2, by omega⟩)
      have := hA.below.size
      omega
  · rcases List.mem_append.1 hn with hn | hn
    · exact (hS' _).2 (.inl (h.sb n hn))
    · simp at hn
      subst hn
      exact (hS' b).2 (.inr ⟨hA.hb, by have := hA.bb.lt; omega, box_ne hA.xb hA.bb (by decide)⟩)
  · rw [hsize]
    rcases (hS' k).1 hk with h1 | h1
    · have := h.lt k h1; omega
    · exact h1.2.1
  · refine ((below_keep (S := S) hb).trans (ho.keep.mono (T := S) fun k hk => h.sv k hk) fun _ _ h => h).setCell (p := ⟨g, 12, none⟩) (.inr h.sg) _
theorem Lay.setz (h : Lay w g S fs V ns z) (z' : Nat) : Lay (w.setCell ⟨g, 13, none⟩ (.int .i64 (z' : Int))) g S fs V ns z' := by
  have hoff : ∀ k, k ≠ g → (w.setCell ⟨g, 13, none⟩ (.int .i64 (z' : Int))).heap[k]? = w.heap[k]? := fun k hk => Below.heap_setCell _ _ _ _ hk
  have hb : Lift.Box (w.setCell ⟨g, 13, none⟩ (.int .i64 (z' : Int))) g Ty.list (ints fs ++ [V, .int .i64 (z' : Int)]) := by
    have h1 := h.box.set 13 (.int .i64 (z' : Int))
    have e : (ints fs ++ [V, .int .i64 (z : Int)]).set 13 (.int .i64 (z' : Int)) = ints fs ++ [V, .int .i64 (z' : Int)] := by
      rw [List.set_append_right _ _ (by simp [h.fl])]
      simp [h.fl]
    rw [e] at h1
    exact h1
  refine ⟨hb, h.fl, own_same h.own fun k hk => ?_, fun n hn => (h.nb n hn).at_block (hoff _ (box_ne h.box (h.nb n hn) (by decide))), h.nh, h.nd, fun n hn => (h.ok n hn).later (fun k hk => ?_) fun k hk => ?_, h.sg, h.sv, h.sb, fun k hk => by have := h.lt k hk; simpa using this, h.many⟩
  · obtain ⟨cs, fr, hh⟩ := own_blk h.own hk
    exact hoff k (box_ne h.box hh (by decide))
  · obtain ⟨_, cs, fr, hh⟩ := hk
    exact hoff k (box_ne h.box hh (by decide))
  · obtain ⟨h1, cs, fr, hh⟩ := hk
    exact ⟨h1, cs, fr, (hoff k (box_ne h.box hh (by decide))).trans hh⟩
theorem bytesR_le {R : Row} (h : ∀ r, r ∈ R → okT r.1 = true ∧ r.2 ≤ 12) : bytesR R ≤ R.length * 4464 := by
  induction R with
  | nil => simp [bytesR]
  | cons r R ih =>
    have h1 := ih fun r hr => h r (by simp [hr])
    obtain ⟨h2, h3⟩ := h r (by simp)
    have h4 := okT_parts h2
    simp only [bytesR, List.map_cons, List.sum_cons, List.length_cons] at h1 ⊢
    unfold cost
    unfold cost at h1
    omega
theorem insR_L {L : List Q} {t : T} {a h : Nat} : insR (L.map fun q => (q.t, q.h)) t h = (bef qk L t.k ++ ⟨a, t, h⟩ :: aft qk L t.k).map fun q => (q.t, q.h) := by
  unfold insR
  rw [bef_map', aft_map, List.map_append, List.map_cons]
end
theorem slice_path (p h : Nat) (hh : h ≤ 12) (w : World) : Sem.run Try.prog (Instr.sliceAt 60 (.pointer (some ⟨p, 0, none⟩)) none (some (.int .i64 (h : Int))) none) w = .ok (.slice (some ⟨p, 0, none⟩) h 12) w := by
  have hl : Try.prog.arrayLen 60 = 12 := by kernel_rfl
  rw [run_sliceAt_array_h w 60 ⟨p, 0, none⟩ (by kernel_rfl) .i64 (h : Int) (by omega) (by rw [hl]; omega)]
  have hs : (sizeOf (Try.prog.elem 60)).run Try.prog w = .ok 1 w := by kernel_rfl
  rw [hs, hl]
  simp [Result.andThen, slicedAt, Addr.add]
end Go.Proofs.Ytmnhklfljfglhaa.Sk
