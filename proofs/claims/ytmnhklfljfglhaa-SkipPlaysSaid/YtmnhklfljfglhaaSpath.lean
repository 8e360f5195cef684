/- Package skip: where the search for a key passes. -/
import Derived.Test.YtmnhklfljfglhaaSlink
import Derived.Test.YtmnhklfljfglhaaGoto
import Derived.Laws.Tables
namespace Go.Proofs.Ytmnhklfljfglhaa.Sk
set_option linter.unusedVariables false
set_option linter.unusedSimpArgs false
open Go.RowKit Lift Ik

/-- What the links tell is what lies there. -/
def Rel (ns : List N) (L : List Q) : Prop := ∀ q, q ∈ L → ∃ n, ns[q.a - 1]? = some n ∧ n.d.t = q.t ∧ n.nx.length = q.h
/-- A list in memory, and its entries in order. -/
structure Li (w : World) (g : Nat) (S : Nat → Prop) (fs : List Nat) (V : Value) (ns : List N) (z : Nat) (L : List Q) : Prop where
  lay : Lay w g S fs V ns z
  good : Good (nxt fs ns) L
  rel : Rel ns L
  len : L.length = ns.length
theorem Li.same {w w' : World} {g : Nat} {S : Nat → Prop} {fs : List Nat} {V : Value} {ns : List N} {z : Nat} {L : List Q} (h : Li w g S fs V ns z L) (hk : ∀ k, S k → w'.heap[k]? = w.heap[k]?) (hs : w.heap.size ≤ w'.heap.size) : Li w' g S fs V ns z L :=
  ⟨h.lay.same hk hs, h.good, h.rel, h.len⟩
theorem Li.below {w w' : World} {g : Nat} {S : Nat → Prop} {fs : List Nat} {V : Value} {ns : List N} {z : Nat} {L : List Q} (h : Li w g S fs V ns z L) (hb : Below w.heap.size w w') : Li w' g S fs V ns z L := ⟨h.lay.below hb, h.good, h.rel, h.len⟩

/-- How far a search may still go on a level. -/
def rest (l : List Nat) (a : Nat) : Nat := if a = 0 then l.length + 1 else (l.dropWhile fun b => b != a).length
theorem rest_eq {u v : List Nat} (hd : (u ++ v).Nodup) (h0 : ∀ x, x ∈ u ++ v → x ≠ 0) : rest (u ++ v) (u.getLastD 0) = v.length + 1 := by
  rcases List.eq_nil_or_concat u with rfl | ⟨u', a, rfl⟩
  · simp [rest]
  · have e : (u' ++ [a]).getLastD 0 = a := by simp [List.getLastD_eq_getLast?]
    have ha : a ≠ 0 := h0 a (by simp [List.concat_eq_append])
    have hn : ∀ b, b ∈ u' → b ≠ a := fun b hb e => by
      subst e
      rw [List.concat_eq_append] at hd
      have := (List.nodup_append.1 hd).1
      have := (List.nodup_append.1 this).2.2 b hb b (by simp)
      exact this rfl
    rw [List.concat_eq_append, e]
    unfold rest
    rw [if_neg ha]
    have : ∀ l : List Nat, (∀ b, b ∈ l → b ≠ a) → ((l ++ [a] ++ v).dropWhile fun b => b != a) = a :: v := by
      intro l
      induction l with
      | nil => intro _; simp
      | cons b l ih =>
        intro hb
        have h1 := hb b (by simp)
        simp only [List.cons_append, List.dropWhile_cons]
        rw [if_pos (by simpa using h1)]
        exact ih fun c hc => hb c (by simp [hc])
    rw [this u' hn]
    rfl
def zs12 : List Nat := [0, 0, 0, 0, 0, 0, 0, 0, 0, 0, 0, 0]
/-- The state of a search at level i, behind u. -/
structure Search (w : World) (L : List Q) (A : Option Addr) (c : Nat) (k : K) (w' : World) (i : Nat) (u v ps : List Nat) : Prop where
  below : Below w.heap.size w w'
  kb : Ik.Box w' w.heap.size A c k
  rb : Lift.Box w' (w.heap.size + 1) 60 (ints zs12)
  pb : Lift.Box w' (w.heap.size + 2) 60 (ints ps)
  pl : ps.length = 12
  hp : ∀ j, i < j → j < 12 → ps.getD j 0 = stop L k j
  hi : i < 12
  hu : on i (bef qk L k) = u ++ v
theorem Search.up {w w' w'' : World} {L : List Q} {A : Option Addr} {c : Nat} {k : K} {i : Nat} {u v ps : List Nat} (h : Search w L A c k w' i u v ps) (hb : Below w'.heap.size w' w'') : Search w L A c k w'' i u v ps :=
  ⟨h.below.trans (hb.mono h.below.size), h.kb.later hb (by have := h.pb.lt; omega), h.rb.below hb h.rb.lt, h.pb.below hb h.pb.lt, h.pl, h.hp, h.hi, h.hu⟩
def atOf (a : Act) : Nat := (intOf (a.tmps.getD 6 undef)).toNat
def levelOf (a : Act) : Nat := (intOf (a.tmps.getD 7 undef)).toNat
def muP (L : List Q) (k : K) (l : Nat) (a : Act) (w : World) : Nat := levelOf a * 1000 + rest (on (levelOf a) (bef qk L k)) (atOf a)
/-- What holds at the label, with the frame. -/
def JP (w : World) (g : Nat) (L : List Q) (A : Option Addr) (c : Nat) (k : K) (l : Nat) (a' : Act) (w' : World) : Prop :=
  l = 0 ∧ ∃ (i at' : Nat) (u v ps : List Nat) (x2 x8 x9 x10 x11 x12 x13 x14 x15 x16 x17 x18 x19 x20 x21 x22 x23 x24 x25 x26 x27 x28 x29 x30 x31 x32 : Value), Search w L A c k w' i u v ps ∧ at' = u.getLastD 0 ∧
    a' = { tmps := #[.pointer (some ⟨g, 0, none⟩), key A c k, x2, .pointer (some ⟨w.heap.size, 0, none⟩), .pointer (some ⟨w.heap.size + 1, 0, none⟩), .pointer (some ⟨w.heap.size + 2, 0, none⟩), .int .i64 (at' : Int), .int .i64 (i : Int), x8, x9, x10, x11, x12, x13, x14, x15, x16, x17, x18, x19, x20, x21, x22, x23, x24, x25, x26, x27, x28, x29, x30, x31, x32], defers := [] }
theorem bef_nodup {nx : Nat → Nat → Nat} {L : List Q} (h : Good nx L) (k : K) (i : Nat) : (on i (bef qk L k)).Nodup ∧ (∀ x, x ∈ on i (bef qk L k) → x ≠ 0) ∧ (on i (bef qk L k)).length ≤ L.length := by
  have e : on i L = on i (bef qk L k) ++ on i (aft qk L k) := by rw [← on_append, bef_aft]
  have hn := on_nodup h.nod i
  rw [e] at hn
  refine ⟨(List.nodup_append.1 hn).1, fun x hx => ?_, ?_⟩
  · obtain ⟨q, hq, _, rfl⟩ := on_mem.1 hx
    have := h.idx q (by rw [← bef_aft (f := qk) L k]; simp [hq])
    omega
  · have h1 : (on i (bef qk L k)).length ≤ (bef qk L k).length := by unfold on; rw [List.length_map]; exact List.length_filter_le _ _
    have h2 : (bef qk L k).length + (aft qk L k).length = L.length := by rw [← List.length_append, bef_aft]
    omega
theorem spot_of {ns : List N} {L : List Q} (hr : Rel ns L) (hidx : ∀ q, q ∈ L → 1 ≤ q.a) {i : Nat} {u v : List Nat} (he : on i L = u ++ v) : Spot ns (u.getLastD 0) i := by
  rcases getLastD_mem (a := 0) (u := u) with h | h
  · exact .inl h
  · right
    have : u.getLastD 0 ∈ on i L := by rw [he]; exact List.mem_append_left _ h
    obtain ⟨q, hq, h1, h2⟩ := on_mem.1 this
    obtain ⟨n, h3, _, h4⟩ := hr q hq
    rw [← h2]
    exact ⟨n, h3, by omega, hidx q hq⟩
theorem entry_at {w : World} {g : Nat} {S : Nat → Prop} {fs : List Nat} {V : Value} {ns : List N} {z : Nat} (x : Nat) {n : N} (h : Lay w g S fs V ns z) (hx : 1 ≤ x) (hn : ns[x - 1]? = some n) :
    Calls Try.prog (43) #[.pointer (some ⟨g, 0, none⟩), .int .i64 (x : Int)] w fun e w' => e = .returned n.d.v ∧ Below w.heap.size w w' := by
  obtain ⟨p, rfl⟩ : ∃ p, x = p + 1 := ⟨x - 1, by omega⟩
  exact entry_any p h hn
theorem t_k {d : D} {t : T} (h : d.t = t) : d.k = t.k := by rw [← h]; rfl
/-- What the link behind a place tells: it is the next one before the key, or none, or one that is not before it. -/
theorem Li.step {w : World} {g : Nat} {S : Nat → Prop} {fs : List Nat} {V : Value} {ns : List N} {z : Nat} {L : List Q} (h : Li w g S fs V ns z L) {k : K} {i : Nat} {u v : List Nat} (hi : i < 12) (hu : on i (bef qk L k) = u ++ v) :
    Spot ns (u.getLastD 0) i ∧ ((∃ x v' n, v = x :: v' ∧ nxt fs ns (u.getLastD 0) i = x ∧ 1 ≤ x ∧ ns[x - 1]? = some n ∧ cmpK n.d.k k < 0) ∨
      (v = [] ∧ u.getLastD 0 = stop L k i ∧ (nxt fs ns (u.getLastD 0) i = 0 ∨ ∃ x n, nxt fs ns (u.getLastD 0) i = x ∧ 1 ≤ x ∧ ns[x - 1]? = some n ∧ ¬ cmpK n.d.k k < 0))) := by
  have e : on i L = u ++ (v ++ on i (aft qk L k)) := by rw [← List.append_assoc, ← hu, ← on_append, bef_aft]
  have hn := h.good.next hi e
  refine ⟨spot_of h.rel h.good.idx e, ?_⟩
  rcases v with _ | ⟨x, v'⟩
  · right
    refine ⟨rfl, ?_, ?_⟩
    · unfold stop; rw [hu]; simp
    · rw [List.nil_append] at hn
      rcases hp : on i (aft qk L k) with _ | ⟨x, v'⟩
      · left; rw [hn, hp]; rfl
      · right
        have : x ∈ on i (aft qk L k) := by rw [hp]; simp
        obtain ⟨q, hq, _, rfl⟩ := on_mem.1 this
        have hqL : q ∈ L := by rw [← bef_aft (f := qk) L k]; simp [hq]
        obtain ⟨n, h3, h4, _⟩ := h.rel q hqL
        exact ⟨q.a, n, by rw [hn, hp]; rfl, h.good.idx q hqL, h3, by rw [t_k h4]; exact aft_ge h.good.sorted q hq⟩
  · left
    have : x ∈ on i (bef qk L k) := by rw [hu]; simp
    obtain ⟨q, hq, _, rfl⟩ := on_mem.1 this
    have hqL : q ∈ L := by rw [← bef_aft (f := qk) L k]; simp [hq]
    obtain ⟨n, h3, h4, _⟩ := h.rel q hqL
    exact ⟨q.a, v', n, rfl, by rw [hn]; rfl, h.good.idx q hqL, h3, by rw [t_k h4]; exact bef_lt (f := qk) q hq⟩
theorem Li.mu {w : World} {g : Nat} {S : Nat → Prop} {fs : List Nat} {V : Value} {ns : List N} {z : Nat} {L : List Q} (h : Li w g S fs V ns z L) {k : K} {i : Nat} {u v : List Nat} (hu : on i (bef qk L k) = u ++ v) : rest (on i (bef qk L k)) (u.getLastD 0) = v.length + 1 ∧ v.length ≤ 200 := by
  obtain ⟨h1, h2, h3⟩ := bef_nodup h.good k i
  rw [hu] at h1 h2 h3 ⊢
  refine ⟨rest_eq h1 h2, ?_⟩
  have := h.lay.many
  rw [h.len] at h3
  rw [List.length_append] at h3
  omega
theorem Lay.at_ {w : World} {g : Nat} {S : Nat → Prop} {fs : List Nat} {V : Value} {ns : List N} {z : Nat} (h : Lay w g S fs V ns z) {p : Nat} {n : N} (hn : ns[p]? = some n) : At w w.heap.size n.d.ka n.d.kc n.d.k :=
  (h.ok n (List.mem_of_getElem? hn)).at' fun k hk => h.lt k hk.1
theorem field_key (d : D) (w : World) : Sem.run Try.prog (Instr.field 36 d.v 0) w = .ok (key d.ka d.kc d.k) w := by kernel_rfl
theorem mu_eq (L : List Q) (k : K) (l i x : Nat) (tm : Array Value) (w : World) (h7 : tm.getD 7 undef = .int .i64 (i : Int)) (h6 : tm.getD 6 undef = .int .i64 (x : Int)) : muP L k l { tmps := tm, defers := [] } w = i * 1000 + rest (on i (bef qk L k)) x := by
  unfold muP levelOf atOf
  rw [h7, h6]
  simp [intOf]
theorem path_done {L : List Q} {k : K} {ps : List Nat} {a : Nat} (hl : ps.length = 12) (hp : ∀ j, 0 < j → j < 12 → ps.getD j 0 = stop L k j) (ha : a = stop L k 0) : ps.set 0 a = (List.range 12).map (stop L k) := by
  refine List.ext_getElem (by simp [hl]) fun j h1 h2 => ?_
  rw [List.getElem_set, List.getElem_map, List.getElem_range]
  split
  · rename_i e; rw [ha, ← e]
  · rename_i e
    have h3 : j < ps.length := by simpa using h1
    have := hp j (by omega) (by omega)
    rw [List.getD_eq_getElem?_getD, List.getElem?_eq_getElem h3] at this
    exact this
/-- The place of a level is written. -/
theorem Search.set {w W : World} {L : List Q} {A : Option Addr} {c : Nat} {k : K} {i : Nat} {u v ps : List Nat} (h : Search w L A c k W i u v ps) (a : Nat) :
    W.cell? ⟨w.heap.size + 2, i, none⟩ = some (.int .i64 ((ps.getD i 0 : Nat) : Int)) ∧ W.frozen? ⟨w.heap.size + 2, i, none⟩ = false ∧
      Lift.Box (W.setCell ⟨w.heap.size + 2, i, none⟩ (.int .i64 (a : Int))) (w.heap.size + 2) 60 (ints (ps.set i a)) ∧ Lift.Box (W.setCell ⟨w.heap.size + 2, i, none⟩ (.int .i64 (a : Int))) (w.heap.size + 1) 60 (ints zs12) ∧
      Ik.Box (W.setCell ⟨w.heap.size + 2, i, none⟩ (.int .i64 (a : Int))) w.heap.size A c k ∧ Below w.heap.size w (W.setCell ⟨w.heap.size + 2, i, none⟩ (.int .i64 (a : Int))) := by
  have hi := h.hi
  have hl := h.pl
  refine ⟨?_, h.pb.free i, ?_, h.rb.setOther (by simp) _, ?_, h.below.setCell (by simp only; omega) _⟩
  · rw [h.pb.cell i, List.getElem?_map, List.getElem?_eq_getElem (by omega), List.getD_eq_getElem?_getD, List.getElem?_eq_getElem (by omega)]
    rfl
  · have := h.pb.set i (.int .i64 (a : Int))
    simp only [ints, List.map_set] at this ⊢
    exact this
  · have hb : Below (w.heap.size + 1) W (W.setCell ⟨w.heap.size + 2, i, none⟩ (.int .i64 (a : Int))) := (Below.refl _ _).setCell (by simp only; omega) _
    exact h.kb.later hb (by omega)
theorem Search.down {w W : World} {L : List Q} {A : Option Addr} {c : Nat} {k : K} {i a : Nat} {u v ps : List Nat} (h : Search w L A c k W (i + 1) u v ps) (ha : a = stop L k (i + 1)) :
    ∃ u' v', a = u'.getLastD 0 ∧ Search w L A c k (W.setCell ⟨w.heap.size + 2, i + 1, none⟩ (.int .i64 (a : Int))) i u' v' (ps.set (i + 1) a) := by
  obtain ⟨u', v', h1, h2⟩ := stop_down (L := L) k i
  obtain ⟨_, _, b1, b2, b3, b4⟩ := h.set a
  have hi := h.hi
  have hl := h.pl
  refine ⟨u', v', ha.trans h2.symm, b4, b3, b2, b1, by simp [hl], fun j h3 h4 => ?_, by omega, h1⟩
  rw [getD_set (by omega)]
  by_cases hj : j = i + 1
  · rw [if_pos hj, ha, hj]
  · rw [if_neg hj]; exact h.hp j (by omega) h4
theorem Search.of_at {w W : World} {L : List Q} {A : Option Addr} {c : Nat} {k : K} {i : Nat} {u v ps : List Nat} (h : Search w L A c k W i u v ps) {W' : World} (hb : Below W.heap.size W W') : Search w L A c k W' i u v ps := h.up hb

set_option maxRecDepth 1000000 in
set_option maxHeartbeats 8000000 in
theorem path_any {w : World} {g : Nat} {S : Nat → Prop} {fs : List Nat} {V : Value} {ns : List N} {z : Nat} {L : List Q} {A : Option Addr} {c : Nat} {k : K} (h : Li w g S fs V ns z L) (hk : At w w.heap.size A c k) :
    Calls Try.prog (40) #[.pointer (some ⟨g, 0, none⟩), key A c k] w fun e w' => e = .returned (.agg (ints ((List.range 12).map (stop L k))).toArray) ∧ Below w.heap.size w w' := by
  have H := Lib.hid h
  have HK := Lib.hid hk
  clear h hk
  go_enter (Try.func40), (Try.ntmps40)
  go_wp2_with fail
  refine wp_scope_labels (JP w g L A c k) (muP L k) ?_ ?_
  · go_wp2_with fail
    have hs0 : Search w L A c k (((w.alloc (.cells #[.slice A k.key.length c, .int .u64 (k.seq : Int), .int .i64 k.kind] 34)).alloc (.cells (ints zs12).toArray 60)).alloc (.cells (ints zs12).toArray 60)) 11 [] (on 11 (bef qk L k)) zs12 := by
      have s1 : (w.alloc (.cells #[.slice A k.key.length c, .int .u64 (k.seq : Int), .int .i64 k.kind] 34)).heap.size = w.heap.size + 1 := by simp
      have s2 : ((w.alloc (.cells #[.slice A k.key.length c, .int .u64 (k.seq : Int), .int .i64 k.kind] 34)).alloc (.cells (ints zs12).toArray 60)).heap.size = w.heap.size + 2 := by simp
      have h1 := Ik.Box.new w A c k
      have r0 := Lift.Box.new (w.alloc (.cells #[.slice A k.key.length c, .int .u64 (k.seq : Int), .int .i64 k.kind] 34)) 60 (ints zs12)
      have r1 := Lift.Box.new ((w.alloc (.cells #[.slice A k.key.length c, .int .u64 (k.seq : Int), .int .i64 k.kind] 34)).alloc (.cells (ints zs12).toArray 60)) 60 (ints zs12)
      rw [s1] at r0
      rw [s2] at r1
      have hb := Joins.below_alloc2 (w.alloc (.cells #[.slice A k.key.length c, .int .u64 (k.seq : Int), .int .i64 k.kind] 34)) (.cells (ints zs12).toArray 60) (.cells (ints zs12).toArray 60)
      exact ⟨(Joins.below_alloc1 w _).trans (hb.mono (by simp)), h1.later hb (by simp), r0.alloc _, r1, rfl, fun j h1 h2 => by omega, by omega, rfl⟩
    obtain ⟨W, hW⟩ : ∃ W, W = (((w.alloc (.cells #[.slice A k.key.length c, .int .u64 (k.seq : Int), .int .i64 k.kind] 34)).alloc (.cells (ints zs12).toArray 60)).alloc (.cells (ints zs12).toArray 60)) := ⟨_, rfl⟩
    rw [← hW] at hs0
    change Code.wp _ _ _ _ ((((w.alloc (.cells #[.slice A k.key.length c, .int .u64 (k.seq : Int), .int .i64 k.kind] 34)).alloc (.cells (ints zs12).toArray 60)).alloc (.cells (ints zs12).toArray 60)))
    rw [← hW]
    obtain ⟨i, hi11⟩ : ∃ i : Nat, i = 11 := ⟨_, rfl⟩
    obtain ⟨at', hat⟩ : ∃ at' : Nat, at' = 0 := ⟨_, rfl⟩
    rw [show (Value.int .i64 11) = .int .i64 ((i : Nat) : Int) by rw [hi11]; rfl, show (Value.int .i64 0) = .int .i64 ((at' : Nat) : Int) by rw [hat]; rfl]
    rw [← hi11] at hs0
    obtain ⟨u, hu⟩ : ∃ u : List Nat, u = [] := ⟨_, rfl⟩
    obtain ⟨v, hv⟩ : ∃ v : List Nat, v = on i (bef qk L k) := ⟨_, rfl⟩
    obtain ⟨ps, hps⟩ : ∃ ps : List Nat, ps = zs12 := ⟨_, rfl⟩
    rw [← hu, ← hv, ← hps] at hs0
    have HS := Lib.hid hs0
    have HAT : Hid (at' = u.getLastD 0) := Lib.hid (by rw [hat, hu]; rfl)
    clear hs0 hW hi11 hat hu hv hps
    go_step3
    have HST := H.out.step HS.out.hi HS.out.hu
    rw [← HAT.out] at HST
    obtain ⟨hspot, hst⟩ := HST
    have HT := Lib.hid hst
    have HN := Lib.hid (next_any at' i (H.out.lay.below HS.out.below) HS.out.hi hspot)
    have hi12 := HS.out.hi
    clear hst hspot
    go_wp2_with fail
    refine HN.out.mono ?_
    rintro e w' ⟨rfl, rfl⟩
    clear HN
    have hst := HT.out
    clear HT
    rcases hst with ⟨x, v', n, hv, hx, hx1, hxn, hlt⟩ | ⟨hv, hstop, hst⟩
    · rw [hx]
      have HV := Lib.hid hv
      clear hv hx
      have d1 : ((x : Int) != 0) = true := by simp; omega
      have d2 : decide (cmpK n.d.k k < 0) = true := decide_eq_true hlt
      have qF := field_key n.d
      clear hlt
      go_wp2_with fail
      refine wp_region_held_drew (S := fun w' => Hid (Below W.heap.size W w')) (by kernel_rfl) (Lib.hid (Below.refl _ _).drew) (fun hS => ?_)
      refine wpAnyH_take (i := 0) (v := ?_) rfl (by kernel_rfl) (by kernel_rfl) (by kernel_rfl) (fun _ _ _ h => h) (Or.inl ⟨by rfl, ?_⟩) hS ?_
      rotate_left
      · intro w hw
        go_simp
        try with_reducible rfl
      try simp only [Act.put, List.getElem_toArray, List.getElem_cons_succ, List.getElem_cons_zero, List.setIfInBounds_toArray, List.set_cons_zero, List.set_cons_succ]
      refine wpAnyH_take (i := 1) (v := ?_) rfl (by kernel_rfl) (by kernel_rfl) (by kernel_rfl) (fun _ _ _ h => h) (Or.inl ⟨by rfl, ?_⟩) hS ?_
      rotate_left
      · intro w hw
        go_simp
        try with_reducible rfl
      try simp only [Act.put, List.getElem_toArray, List.getElem_cons_succ, List.getElem_cons_zero, List.setIfInBounds_toArray, List.set_cons_zero, List.set_cons_succ]
      refine wpAnyH_take (i := 2) (v := ?_) rfl (by kernel_rfl) (by kernel_rfl) (by kernel_rfl) (fun _ _ _ h => h) (Or.inl ⟨by rfl, ?_⟩) hS ?_
      rotate_left
      · intro w hw
        go_simp
        try with_reducible rfl
      try simp only [Act.put, List.getElem_toArray, List.getElem_cons_succ, List.getElem_cons_zero, List.setIfInBounds_toArray, List.set_cons_zero, List.set_cons_succ]
      refine wpAnyH_take (i := 3) (v := ?_) rfl (by kernel_rfl) (by kernel_rfl) (by kernel_rfl) (fun _ _ _ h => h) (Or.inl ⟨by rfl, ?_⟩) hS ?_
      rotate_left
      · intro w hw
        go_simp
        try with_reducible rfl
      try simp only [Act.put, List.getElem_toArray, List.getElem_cons_succ, List.getElem_cons_zero, List.setIfInBounds_toArray, List.set_cons_zero, List.set_cons_succ]
      refine wpAnyH_take (i := 4) (v := ?_) rfl (by kernel_rfl) (by kernel_rfl) (by kernel_rfl) (fun _ _ _ h => h) (Or.inl ⟨by rfl, ?_⟩) hS ?_
      rotate_left
      · intro w hw
        go_simp
        try with_reducible rfl
      try simp only [Act.put, List.getElem_toArray, List.getElem_cons_succ, List.getElem_cons_zero, List.setIfInBounds_toArray, List.set_cons_zero, List.set_cons_succ]
      refine wpAnyH_take (i := 7) (v := ?_) rfl (by kernel_rfl) (by kernel_rfl) (by kernel_rfl) (fun _ _ _ h => h) (Or.inl ⟨by rfl, ?_⟩) hS ?_
      rotate_left
      · intro w hw
        obtain ⟨t0, t1, t2⟩ := HS.out.kb.later hw.out (by have := HS.out.pb.lt; omega)
        go_simp
        try with_reducible rfl
      try simp only [Act.put, List.getElem_toArray, List.getElem_cons_succ, List.getElem_cons_zero, List.setIfInBounds_toArray, List.set_cons_zero, List.set_cons_succ]
      refine wpAnyH_ready (rs := [5]) (by kernel_rfl) (by simp) ?_
      refine AllReadyH.cons rfl (fun K hK => ?_) AllReadyH.nil
      go_simp
      refine (entry_at x (H.out.lay.below (HS.out.below.trans (hS.out.mono HS.out.below.size))) hx1 hxn).mono ?_
      rintro e W1 ⟨rfl, hb1⟩
      have HB1 := Lib.hid (hS.out.trans (hb1.mono hS.out.size))
      clear hb1
      go_wp2_with fail
      refine hK.out _ _ HB1 (fun _ => ?_)
      clear hK K hS
      refine wpAnyH_other (S' := fun w' => Hid (Below W1.heap.size W1 w')) (fun w hw => Lib.hid (HB1.out.trans (hw.out.mono HB1.out.size))) _ _ _ _ ?_
      have hS : Hid (Below W1.heap.size W1 W1) := Lib.hid (Below.refl _ _)
      try simp only [Act.put, List.getElem_toArray, List.getElem_cons_succ, List.getElem_cons_zero, List.setIfInBounds_toArray, List.set_cons_zero, List.set_cons_succ]
      refine wpAnyH_take (i := 6) (v := ?_) rfl (by kernel_rfl) (by kernel_rfl) (by kernel_rfl) (fun _ _ _ h => h) (Or.inl ⟨by rfl, ?_⟩) hS ?_
      rotate_left
      · intro w hw
        go_simp
        try with_reducible rfl
      try simp only [Act.put, List.getElem_toArray, List.getElem_cons_succ, List.getElem_cons_zero, List.setIfInBounds_toArray, List.set_cons_zero, List.set_cons_succ]
      refine wpAnyH_ready (rs := [8]) (by kernel_rfl) (by simp) ?_
      refine AllReadyH.cons rfl (fun K hK => ?_) AllReadyH.nil
      go_simp
      have hwa : Below w.heap.size w W1 := HS.out.below.trans (HB1.out.mono HS.out.below.size)
      refine (cmp_any n.d.ka A n.d.kc c n.d.k k W1 ((H.out.lay.below hwa).at_ hxn) (HK.out.next hwa)).mono ?_
      rintro e W2 ⟨rfl, hb2⟩
      have HB2 := Lib.hid hb2
      clear hb2 hwa
      go_wp2_with fail
      refine hK.out _ _ HB2 (fun _ => ?_)
      clear hK K hS
      refine wpAnyH_other (S' := fun w' => Hid (Below W2.heap.size W2 w')) (fun w hw => Lib.hid (HB2.out.trans (hw.out.mono HB2.out.size))) _ _ _ _ ?_
      have hS : Hid (Below W2.heap.size W2 W2) := Lib.hid (Below.refl _ _)
      try simp only [Act.put, List.getElem_toArray, List.getElem_cons_succ, List.getElem_cons_zero, List.setIfInBounds_toArray, List.set_cons_zero, List.set_cons_succ]
      refine wpAnyH_take (i := 9) (v := ?_) rfl (by kernel_rfl) (by kernel_rfl) (by kernel_rfl) (fun _ _ _ h => h) (Or.inl ⟨by rfl, ?_⟩) hS ?_
      rotate_left
      · intro w hw
        go_simp
        try with_reducible rfl
      try simp only [Act.put, List.getElem_toArray, List.getElem_cons_succ, List.getElem_cons_zero, List.setIfInBounds_toArray, List.set_cons_zero, List.set_cons_succ]
      refine wpAnyH_take (i := 10) (v := ?_) rfl (by kernel_rfl) (by kernel_rfl) (by kernel_rfl) (fun _ _ _ h => h) (Or.inl ⟨by rfl, ?_⟩) hS ?_
      rotate_left
      · intro w hw
        go_simp
        try with_reducible rfl
      try simp only [Act.put, List.getElem_toArray, List.getElem_cons_succ, List.getElem_cons_zero, List.setIfInBounds_toArray, List.set_cons_zero, List.set_cons_succ]
      refine wpAnyH_done (by kernel_rfl) ?_ _
      have HS2 := Lib.hid ((HS.out.up HB1.out).up HB2.out)
      go_wp2_with fail
      go_step3
      have hl : x = (u ++ [x]).getLastD 0 := by simp [List.getLastD_eq_getLast?]
      have hu2 : on i (bef qk L k) = (u ++ [x]) ++ v' := by rw [HS2.out.hu, HV.out]; simp
      have HS3 : Search w L A c k W2 i (u ++ [x]) v' ps := ⟨HS2.out.below, HS2.out.kb, HS2.out.rb, HS2.out.pb, HS2.out.pl, HS2.out.hp, HS2.out.hi, hu2⟩
      change JP w g L A c k 0 _ _
      exact ⟨rfl, i, x, u ++ [x], v', ps, _, _, _, _, _, _, _, _, _, _, _, _, _, _, _, _, _, _, _, _, _, _, _, _, _, _, HS3, hl, rfl⟩
    · have HSP := Lib.hid hstop
      have HV := Lib.hid hv
      clear hstop hv
      rcases hst with hx | ⟨x, n, hx, hx1, hxn, hlt⟩
      · rw [hx]
        clear hx
        go_wp2_with fail
        go_quiet (fail)
        have HS2 := Lib.hid (HS.out.up (Joins.below_draws W.heap.size W nq))
        generalize W.drewN nq = W2 at *
        have HST := Lib.hid (HS2.out.set at')
        obtain ⟨c0, f0, -, -, -, -⟩ := HST.out
        generalize ps.getD i 0 = pv at c0
        rcases i with _ | i
        · have hM := path_done HS2.out.pl HS2.out.hp HSP.out
          have HP5 := Lib.hid (show Lift.Box (W2.setCell ⟨w.heap.size + 2, 0, none⟩ (.int .i64 (at' : Int))) (w.heap.size + 2) 60 (ints ((List.range 12).map (stop L k))) by rw [← hM]; exact HST.out.2.2.1)
          have HP4 := Lib.hid HST.out.2.2.2.1
          have HP0 := Lib.hid HST.out.2.2.2.2.2
          clear hM HST
          go_wp2_with (first | (refine wpList_store_row rfl _ _ _ rfl (w.heap.size + 1) (ints ((List.range 12).map (stop L k))).toArray rfl rfl _ (ints zs12).toArray HP4.out (by kernel_rfl) (by kernel_rfl) (by kernel_rfl) ?_) | (refine wpList_load_row rfl _ _ rfl (w.heap.size + 2) rfl _ (ints ((List.range 12).map (stop L k))).toArray (0, 0) _ HP5.out Try.underlying60 rfl (by kernel_rfl) ?_))
          have hbx : Lift.Box ((W2.setCell ⟨w.heap.size + 2, 0, none⟩ (.int .i64 (at' : Int))).setRow (w.heap.size + 1) (ints ((List.range 12).map (stop L k))).toArray) (w.heap.size + 1) 60 (ints ((List.range 12).map (stop L k))) := setRow_heap _ _ _ _ _ _ HP4.out
          rw [jumps_ret]
          refine bodyPost_ret (results_one rfl Try.underlying60 rfl (by kernel_rfl) _ rfl hbx) rfl ?_
          exact ⟨rfl, below_setRow HP0.out (by omega) _⟩
        · go_wp2_with fail
          go_step3
          obtain ⟨u', v', hu1, hs3⟩ := HS2.out.down HSP.out
          change JP w g L A c k 0 _ _
          exact ⟨rfl, i, at', u', v', ps.set (i + 1) at', _, _, _, _, _, _, _, _, _, _, _, _, _, _, _, _, _, _, _, _, _, _, _, _, _, _, hs3, hu1, rfl⟩
      · rw [hx]
        clear hx
        have d1 : ((x : Int) != 0) = true := by simp; omega
        have d2 : decide (cmpK n.d.k k < 0) = false := decide_eq_false (by omega)
        have qF := field_key n.d
        clear hlt
        go_wp2_with fail
        refine wp_region_held_drew (S := fun w' => Hid (Below W.heap.size W w')) (by kernel_rfl) (Lib.hid (Below.refl _ _).drew) (fun hS => ?_)
        refine wpAnyH_take (i := 0) (v := ?_) rfl (by kernel_rfl) (by kernel_rfl) (by kernel_rfl) (fun _ _ _ h => h) (Or.inl ⟨by rfl, ?_⟩) hS ?_
        rotate_left
        · intro w hw
          go_simp
          try with_reducible rfl
        try simp only [Act.put, List.getElem_toArray, List.getElem_cons_succ, List.getElem_cons_zero, List.setIfInBounds_toArray, List.set_cons_zero, List.set_cons_succ]
        refine wpAnyH_take (i := 1) (v := ?_) rfl (by kernel_rfl) (by kernel_rfl) (by kernel_rfl) (fun _ _ _ h => h) (Or.inl ⟨by rfl, ?_⟩) hS ?_
        rotate_left
        · intro w hw
          go_simp
          try with_reducible rfl
        try simp only [Act.put, List.getElem_toArray, List.getElem_cons_succ, List.getElem_cons_zero, List.setIfInBounds_toArray, List.set_cons_zero, List.set_cons_succ]
        refine wpAnyH_take (i := 2) (v := ?_) rfl (by kernel_rfl) (by kernel_rfl) (by kernel_rfl) (fun _ _ _ h => h) (Or.inl ⟨by rfl, ?_⟩) hS ?_
        rotate_left
        · intro w hw
          go_simp
          try with_reducible rfl
        try simp only [Act.put, List.getElem_toArray, List.getElem_cons_succ, List.getElem_cons_zero, List.setIfInBounds_toArray, List.set_cons_zero, List.set_cons_succ]
        refine wpAnyH_take (i := 3) (v := ?_) rfl (by kernel_rfl) (by kernel_rfl) (by kernel_rfl) (fun _ _ _ h => h) (Or.inl ⟨by rfl, ?_⟩) hS ?_
        rotate_left
        · intro w hw
          go_simp
          try with_reducible rfl
        try simp only [Act.put, List.getElem_toArray, List.getElem_cons_succ, List.getElem_cons_zero, List.setIfInBounds_toArray, List.set_cons_zero, List.set_cons_succ]
        refine wpAnyH_take (i := 4) (v := ?_) rfl (by kernel_rfl) (by kernel_rfl) (by kernel_rfl) (fun _ _ _ h => h) (Or.inl ⟨by rfl, ?_⟩) hS ?_
        rotate_left
        · intro w hw
          go_simp
          try with_reducible rfl
        try simp only [Act.put, List.getElem_toArray, List.getElem_cons_succ, List.getElem_cons_zero, List.setIfInBounds_toArray, List.set_cons_zero, List.set_cons_succ]
        refine wpAnyH_take (i := 7) (v := ?_) rfl (by kernel_rfl) (by kernel_rfl) (by kernel_rfl) (fun _ _ _ h => h) (Or.inl ⟨by rfl, ?_⟩) hS ?_
        rotate_left
        · intro w hw
          obtain ⟨t0, t1, t2⟩ := HS.out.kb.later hw.out (by have := HS.out.pb.lt; omega)
          go_simp
          try with_reducible rfl
        try simp only [Act.put, List.getElem_toArray, List.getElem_cons_succ, List.getElem_cons_zero, List.setIfInBounds_toArray, List.set_cons_zero, List.set_cons_succ]
        refine wpAnyH_ready (rs := [5]) (by kernel_rfl) (by simp) ?_
        refine AllReadyH.cons rfl (fun K hK => ?_) AllReadyH.nil
        go_simp
        refine (entry_at x (H.out.lay.below (HS.out.below.trans (hS.out.mono HS.out.below.size))) hx1 hxn).mono ?_
        rintro e W1 ⟨rfl, hb1⟩
        have HB1 := Lib.hid (hS.out.trans (hb1.mono hS.out.size))
        clear hb1
        go_wp2_with fail
        refine hK.out _ _ HB1 (fun _ => ?_)
        clear hK K hS
        refine wpAnyH_other (S' := fun w' => Hid (Below W1.heap.size W1 w')) (fun w hw => Lib.hid (HB1.out.trans (hw.out.mono HB1.out.size))) _ _ _ _ ?_
        have hS : Hid (Below W1.heap.size W1 W1) := Lib.hid (Below.refl _ _)
        try simp only [Act.put, List.getElem_toArray, List.getElem_cons_succ, List.getElem_cons_zero, List.setIfInBounds_toArray, List.set_cons_zero, List.set_cons_succ]
        refine wpAnyH_take (i := 6) (v := ?_) rfl (by kernel_rfl) (by kernel_rfl) (by kernel_rfl) (fun _ _ _ h => h) (Or.inl ⟨by rfl, ?_⟩) hS ?_
        rotate_left
        · intro w hw
          go_simp
          try with_reducible rfl
        try simp only [Act.put, List.getElem_toArray, List.getElem_cons_succ, List.getElem_cons_zero, List.setIfInBounds_toArray, List.set_cons_zero, List.set_cons_succ]
        refine wpAnyH_ready (rs := [8]) (by kernel_rfl) (by simp) ?_
        refine AllReadyH.cons rfl (fun K hK => ?_) AllReadyH.nil
        go_simp
        have hwa : Below w.heap.size w W1 := HS.out.below.trans (HB1.out.mono HS.out.below.size)
        refine (cmp_any n.d.ka A n.d.kc c n.d.k k W1 ((H.out.lay.below hwa).at_ hxn) (HK.out.next hwa)).mono ?_
        rintro e W2 ⟨rfl, hb2⟩
        have HB2 := Lib.hid hb2
        clear hb2 hwa
        go_wp2_with fail
        refine hK.out _ _ HB2 (fun _ => ?_)
        clear hK K hS
        refine wpAnyH_other (S' := fun w' => Hid (Below W2.heap.size W2 w')) (fun w hw => Lib.hid (HB2.out.trans (hw.out.mono HB2.out.size))) _ _ _ _ ?_
        have hS : Hid (Below W2.heap.size W2 W2) := Lib.hid (Below.refl _ _)
        try simp only [Act.put, List.getElem_toArray, List.getElem_cons_succ, List.getElem_cons_zero, List.setIfInBounds_toArray, List.set_cons_zero, List.set_cons_succ]
        refine wpAnyH_take (i := 9) (v := ?_) rfl (by kernel_rfl) (by kernel_rfl) (by kernel_rfl) (fun _ _ _ h => h) (Or.inl ⟨by rfl, ?_⟩) hS ?_
        rotate_left
        · intro w hw
          go_simp
          try with_reducible rfl
        try simp only [Act.put, List.getElem_toArray, List.getElem_cons_succ, List.getElem_cons_zero, List.setIfInBounds_toArray, List.set_cons_zero, List.set_cons_succ]
        refine wpAnyH_take (i := 10) (v := ?_) rfl (by kernel_rfl) (by kernel_rfl) (by kernel_rfl) (fun _ _ _ h => h) (Or.inl ⟨by rfl, ?_⟩) hS ?_
        rotate_left
        · intro w hw
          go_simp
          try with_reducible rfl
        try simp only [Act.put, List.getElem_toArray, List.getElem_cons_succ, List.getElem_cons_zero, List.setIfInBounds_toArray, List.set_cons_zero, List.set_cons_succ]
        refine wpAnyH_done (by kernel_rfl) ?_ _
        have HS2 := Lib.hid ((HS.out.up HB1.out).up HB2.out)
        have HST := Lib.hid (HS2.out.set at')
        obtain ⟨c0, f0, -, -, -, -⟩ := HST.out
        generalize ps.getD i 0 = pv at c0
        rcases i with _ | i
        · have hM := path_done HS2.out.pl HS2.out.hp HSP.out
          have HP5 := Lib.hid (show Lift.Box (W2.setCell ⟨w.heap.size + 2, 0, none⟩ (.int .i64 (at' : Int))) (w.heap.size + 2) 60 (ints ((List.range 12).map (stop L k))) by rw [← hM]; exact HST.out.2.2.1)
          have HP4 := Lib.hid HST.out.2.2.2.1
          have HP0 := Lib.hid HST.out.2.2.2.2.2
          clear hM HST
          go_wp2_with (first | (refine wpList_store_row rfl _ _ _ rfl (w.heap.size + 1) (ints ((List.range 12).map (stop L k))).toArray rfl rfl _ (ints zs12).toArray HP4.out (by kernel_rfl) (by kernel_rfl) (by kernel_rfl) ?_) | (refine wpList_load_row rfl _ _ rfl (w.heap.size + 2) rfl _ (ints ((List.range 12).map (stop L k))).toArray (0, 0) _ HP5.out Try.underlying60 rfl (by kernel_rfl) ?_))
          have hbx : Lift.Box ((W2.setCell ⟨w.heap.size + 2, 0, none⟩ (.int .i64 (at' : Int))).setRow (w.heap.size + 1) (ints ((List.range 12).map (stop L k))).toArray) (w.heap.size + 1) 60 (ints ((List.range 12).map (stop L k))) := setRow_heap _ _ _ _ _ _ HP4.out
          rw [jumps_ret]
          refine bodyPost_ret (results_one rfl Try.underlying60 rfl (by kernel_rfl) _ rfl hbx) rfl ?_
          exact ⟨rfl, below_setRow HP0.out (by omega) _⟩
        · go_wp2_with fail
          go_step3
          obtain ⟨u', v', hu1, hs3⟩ := HS2.out.down HSP.out
          change JP w g L A c k 0 _ _
          exact ⟨rfl, i, at', u', v', ps.set (i + 1) at', _, _, _, _, _, _, _, _, _, _, _, _, _, _, _, _, _, _, _, _, _, _, _, _, _, _, hs3, hu1, rfl⟩
  · rintro l a' W ⟨rfl, i, at', u, v, ps, x2, x8, x9, x10, x11, x12, x13, x14, x15, x16, x17, x18, x19, x20, x21, x22, x23, x24, x25, x26, x27, x28, x29, x30, x31, x32, hs, hat, rfl⟩
    have HS := Lib.hid hs
    have HAT := Lib.hid hat
    clear hs hat
    refine ⟨_, rfl, ?_⟩
    have HST := H.out.step HS.out.hi HS.out.hu
    rw [← HAT.out] at HST
    obtain ⟨hspot, hst⟩ := HST
    have HT := Lib.hid hst
    have HN := Lib.hid (next_any at' i (H.out.lay.below HS.out.below) HS.out.hi hspot)
    have hi12 := HS.out.hi
    clear hst hspot
    go_wp2_with fail
    refine HN.out.mono ?_
    rintro e w' ⟨rfl, rfl⟩
    clear HN
    have hst := HT.out
    clear HT
    rcases hst with ⟨x, v', n, hv, hx, hx1, hxn, hlt⟩ | ⟨hv, hstop, hst⟩
    · rw [hx]
      have HV := Lib.hid hv
      clear hv hx
      have d1 : ((x : Int) != 0) = true := by simp; omega
      have d2 : decide (cmpK n.d.k k < 0) = true := decide_eq_true hlt
      have qF := field_key n.d
      clear hlt
      go_wp2_with fail
      refine wp_region_held_drew (S := fun w' => Hid (Below W.heap.size W w')) (by kernel_rfl) (Lib.hid (Below.refl _ _).drew) (fun hS => ?_)
      refine wpAnyH_take (i := 0) (v := ?_) rfl (by kernel_rfl) (by kernel_rfl) (by kernel_rfl) (fun _ _ _ h => h) (Or.inl ⟨by rfl, ?_⟩) hS ?_
      rotate_left
      · intro w hw
        go_simp
        try with_reducible rfl
      try simp only [Act.put, List.getElem_toArray, List.getElem_cons_succ, List.getElem_cons_zero, List.setIfInBounds_toArray, List.set_cons_zero, List.set_cons_succ]
      refine wpAnyH_take (i := 1) (v := ?_) rfl (by kernel_rfl) (by kernel_rfl) (by kernel_rfl) (fun _ _ _ h => h) (Or.inl ⟨by rfl, ?_⟩) hS ?_
      rotate_left
      · intro w hw
        go_simp
        try with_reducible rfl
      try simp only [Act.put, List.getElem_toArray, List.getElem_cons_succ, List.getElem_cons_zero, List.setIfInBounds_toArray, List.set_cons_zero, List.set_cons_succ]
      refine wpAnyH_take (i := 2) (v := ?_) rfl (by kernel_rfl) (by kernel_rfl) (by kernel_rfl) (fun _ _ _ h => h) (Or.inl ⟨by rfl, ?_⟩) hS ?_
      rotate_left
      · intro w hw
        go_simp
        try with_reducible rfl
      try simp only [Act.put, List.getElem_toArray, List.getElem_cons_succ, List.getElem_cons_zero, List.setIfInBounds_toArray, List.set_cons_zero, List.set_cons_succ]
      refine wpAnyH_take (i := 3) (v := ?_) rfl (by kernel_rfl) (by kernel_rfl) (by kernel_rfl) (fun _ _ _ h => h) (Or.inl ⟨by rfl, ?_⟩) hS ?_
      rotate_left
      · intro w hw
        go_simp
        try with_reducible rfl
      try simp only [Act.put, List.getElem_toArray, List.getElem_cons_succ, List.getElem_cons_zero, List.setIfInBounds_toArray, List.set_cons_zero, List.set_cons_succ]
      refine wpAnyH_take (i := 4) (v := ?_) rfl (by kernel_rfl) (by kernel_rfl) (by kernel_rfl) (fun _ _ _ h => h) (Or.inl ⟨by rfl, ?_⟩) hS ?_
      rotate_left
      · intro w hw
        go_simp
        try with_reducible rfl
      try simp only [Act.put, List.getElem_toArray, List.getElem_cons_succ, List.getElem_cons_zero, List.setIfInBounds_toArray, List.set_cons_zero, List.set_cons_succ]
      refine wpAnyH_take (i := 7) (v := ?_) rfl (by kernel_rfl) (by kernel_rfl) (by kernel_rfl) (fun _ _ _ h => h) (Or.inl ⟨by rfl, ?_⟩) hS ?_
      rotate_left
      · intro w hw
        obtain ⟨t0, t1, t2⟩ := HS.out.kb.later hw.out (by have := HS.out.pb.lt; omega)
        go_simp
        try with_reducible rfl
      try simp only [Act.put, List.getElem_toArray, List.getElem_cons_succ, List.getElem_cons_zero, List.setIfInBounds_toArray, List.set_cons_zero, List.set_cons_succ]
      refine wpAnyH_ready (rs := [5]) (by kernel_rfl) (by simp) ?_
      refine AllReadyH.cons rfl (fun K hK => ?_) AllReadyH.nil
      go_simp
      refine (entry_at x (H.out.lay.below (HS.out.below.trans (hS.out.mono HS.out.below.size))) hx1 hxn).mono ?_
      rintro e W1 ⟨rfl, hb1⟩
      have HB1 := Lib.hid (hS.out.trans (hb1.mono hS.out.size))
      clear hb1
      go_wp2_with fail
      refine hK.out _ _ HB1 (fun _ => ?_)
      clear hK K hS
      refine wpAnyH_other (S' := fun w' => Hid (Below W1.heap.size W1 w')) (fun w hw => Lib.hid (HB1.out.trans (hw.out.mono HB1.out.size))) _ _ _ _ ?_
      have hS : Hid (Below W1.heap.size W1 W1) := Lib.hid (Below.refl _ _)
      try simp only [Act.put, List.getElem_toArray, List.getElem_cons_succ, List.getElem_cons_zero, List.setIfInBounds_toArray, List.set_cons_zero, List.set_cons_succ]
      refine wpAnyH_take (i := 6) (v := ?_) rfl (by kernel_rfl) (by kernel_rfl) (by kernel_rfl) (fun _ _ _ h => h) (Or.inl ⟨by rfl, ?_⟩) hS ?_
      rotate_left
      · intro w hw
        go_simp
        try with_reducible rfl
      try simp only [Act.put, List.getElem_toArray, List.getElem_cons_succ, List.getElem_cons_zero, List.setIfInBounds_toArray, List.set_cons_zero, List.set_cons_succ]
      refine wpAnyH_ready (rs := [8]) (by kernel_rfl) (by simp) ?_
      refine AllReadyH.cons rfl (fun K hK => ?_) AllReadyH.nil
      go_simp
      have hwa : Below w.heap.size w W1 := HS.out.below.trans (HB1.out.mono HS.out.below.size)
      refine (cmp_any n.d.ka A n.d.kc c n.d.k k W1 ((H.out.lay.below hwa).at_ hxn) (HK.out.next hwa)).mono ?_
      rintro e W2 ⟨rfl, hb2⟩
      have HB2 := Lib.hid hb2
      clear hb2 hwa
      go_wp2_with fail
      refine hK.out _ _ HB2 (fun _ => ?_)
      clear hK K hS
      refine wpAnyH_other (S' := fun w' => Hid (Below W2.heap.size W2 w')) (fun w hw => Lib.hid (HB2.out.trans (hw.out.mono HB2.out.size))) _ _ _ _ ?_
      have hS : Hid (Below W2.heap.size W2 W2) := Lib.hid (Below.refl _ _)
      try simp only [Act.put, List.getElem_toArray, List.getElem_cons_succ, List.getElem_cons_zero, List.setIfInBounds_toArray, List.set_cons_zero, List.set_cons_succ]
      refine wpAnyH_take (i := 9) (v := ?_) rfl (by kernel_rfl) (by kernel_rfl) (by kernel_rfl) (fun _ _ _ h => h) (Or.inl ⟨by rfl, ?_⟩) hS ?_
      rotate_left
      · intro w hw
        go_simp
        try with_reducible rfl
      try simp only [Act.put, List.getElem_toArray, List.getElem_cons_succ, List.getElem_cons_zero, List.setIfInBounds_toArray, List.set_cons_zero, List.set_cons_succ]
      refine wpAnyH_take (i := 10) (v := ?_) rfl (by kernel_rfl) (by kernel_rfl) (by kernel_rfl) (fun _ _ _ h => h) (Or.inl ⟨by rfl, ?_⟩) hS ?_
      rotate_left
      · intro w hw
        go_simp
        try with_reducible rfl
      try simp only [Act.put, List.getElem_toArray, List.getElem_cons_succ, List.getElem_cons_zero, List.setIfInBounds_toArray, List.set_cons_zero, List.set_cons_succ]
      refine wpAnyH_done (by kernel_rfl) ?_ _
      have HS2 := Lib.hid ((HS.out.up HB1.out).up HB2.out)
      go_wp2_with fail
      go_step3
      have hl : x = (u ++ [x]).getLastD 0 := by simp [List.getLastD_eq_getLast?]
      have hu2 : on i (bef qk L k) = (u ++ [x]) ++ v' := by rw [HS2.out.hu, HV.out]; simp
      have HS3 : Search w L A c k W2 i (u ++ [x]) v' ps := ⟨HS2.out.below, HS2.out.kb, HS2.out.rb, HS2.out.pb, HS2.out.pl, HS2.out.hp, HS2.out.hi, hu2⟩
      change JP w g L A c k 0 _ _ ∧ muP L k _ _ _ < muP L k _ _ _
      refine ⟨⟨rfl, i, x, u ++ [x], v', ps, _, _, _, _, _, _, _, _, _, _, _, _, _, _, _, _, _, _, _, _, _, _, _, _, _, _, HS3, hl, rfl⟩, ?_⟩
      rw [mu_eq L k _ i x _ _ rfl rfl, mu_eq L k _ i at' _ _ rfl rfl]
      have h1 := (H.out.mu hu2).1
      have h2 := (H.out.mu HS2.out.hu).1
      rw [← hl] at h1
      rw [← HAT.out] at h2
      rw [h1, h2, HV.out, List.length_cons]
      omega
    · have HSP := Lib.hid hstop
      have HV := Lib.hid hv
      clear hstop hv
      rcases hst with hx | ⟨x, n, hx, hx1, hxn, hlt⟩
      · rw [hx]
        clear hx
        go_wp2_with fail
        go_quiet (fail)
        have HS2 := Lib.hid (HS.out.up (Joins.below_draws W.heap.size W nq))
        generalize W.drewN nq = W2 at *
        have HST := Lib.hid (HS2.out.set at')
        obtain ⟨c0, f0, -, -, -, -⟩ := HST.out
        generalize ps.getD i 0 = pv at c0
        rcases i with _ | i
        · have hM := path_done HS2.out.pl HS2.out.hp HSP.out
          have HP5 := Lib.hid (show Lift.Box (W2.setCell ⟨w.heap.size + 2, 0, none⟩ (.int .i64 (at' : Int))) (w.heap.size + 2) 60 (ints ((List.range 12).map (stop L k))) by rw [← hM]; exact HST.out.2.2.1)
          have HP4 := Lib.hid HST.out.2.2.2.1
          have HP0 := Lib.hid HST.out.2.2.2.2.2
          clear hM HST
          go_wp2_with (first | (refine wpList_store_row rfl _ _ _ rfl (w.heap.size + 1) (ints ((List.range 12).map (stop L k))).toArray rfl rfl _ (ints zs12).toArray HP4.out (by kernel_rfl) (by kernel_rfl) (by kernel_rfl) ?_) | (refine wpList_load_row rfl _ _ rfl (w.heap.size + 2) rfl _ (ints ((List.range 12).map (stop L k))).toArray (0, 0) _ HP5.out Try.underlying60 rfl (by kernel_rfl) ?_))
          have hbx : Lift.Box ((W2.setCell ⟨w.heap.size + 2, 0, none⟩ (.int .i64 (at' : Int))).setRow (w.heap.size + 1) (ints ((List.range 12).map (stop L k))).toArray) (w.heap.size + 1) 60 (ints ((List.range 12).map (stop L k))) := setRow_heap _ _ _ _ _ _ HP4.out
          rw [jumps_ret]
          refine bodyPost_ret (results_one rfl Try.underlying60 rfl (by kernel_rfl) _ rfl hbx) rfl ?_
          exact ⟨rfl, below_setRow HP0.out (by omega) _⟩
        · go_wp2_with fail
          go_step3
          obtain ⟨u', v', hu1, hs3⟩ := HS2.out.down HSP.out
          change JP w g L A c k 0 _ _ ∧ muP L k _ _ _ < muP L k _ _ _
          refine ⟨⟨rfl, i, at', u', v', ps.set (i + 1) at', _, _, _, _, _, _, _, _, _, _, _, _, _, _, _, _, _, _, _, _, _, _, _, _, _, _, hs3, hu1, rfl⟩, ?_⟩
          rw [mu_eq L k _ i at' _ _ rfl rfl, mu_eq L k _ (i + 1) at' _ _ rfl rfl]
          have h1 := H.out.mu hs3.hu
          rw [← hu1] at h1
          rw [h1.1]
          omega
      · rw [hx]
        clear hx
        have d1 : ((x : Int) != 0) = true := by simp; omega
        have d2 : decide (cmpK n.d.k k < 0) = false := decide_eq_false (by omega)
        have qF := field_key n.d
        clear hlt
        go_wp2_with fail
        refine wp_region_held_drew (S := fun w' => Hid (Below W.heap.size W w')) (by kernel_rfl) (Lib.hid (Below.refl _ _).drew) (fun hS => ?_)
        refine wpAnyH_take (i := 0) (v := ?_) rfl (by kernel_rfl) (by kernel_rfl) (by kernel_rfl) (fun _ _ _ h => h) (Or.inl ⟨by rfl, ?_⟩) hS ?_
        rotate_left
        · intro w hw
          go_simp
          try with_reducible rfl
        try simp only [Act.put, List.getElem_toArray, List.getElem_cons_succ, List.getElem_cons_zero, List.setIfInBounds_toArray, List.set_cons_zero, List.set_cons_succ]
        refine wpAnyH_take (i := 1) (v := ?_) rfl (by kernel_rfl) (by kernel_rfl) (by kernel_rfl) (fun _ _ _ h => h) (Or.inl ⟨by rfl, ?_⟩) hS ?_
        rotate_left
        · intro w hw
          go_simp
          try with_reducible rfl
        try simp only [Act.put, List.getElem_toArray, List.getElem_cons_succ, List.getElem_cons_zero, List.setIfInBounds_toArray, List.set_cons_zero, List.set_cons_succ]
        refine wpAnyH_take (i := 2) (v := ?_) rfl (by kernel_rfl) (by kernel_rfl) (by kernel_rfl) (fun _ _ _ h => h) (Or.inl ⟨by rfl, ?_⟩) hS ?_
        rotate_left
        · intro w hw
          go_simp
          try with_reducible rfl
        try simp only [Act.put, List.getElem_toArray, List.getElem_cons_succ, List.getElem_cons_zero, List.setIfInBounds_toArray, List.set_cons_zero, List.set_cons_succ]
        refine wpAnyH_take (i := 3) (v := ?_) rfl (by kernel_rfl) (by kernel_rfl) (by kernel_rfl) (fun _ _ _ h => h) (Or.inl ⟨by rfl, ?_⟩) hS ?_
        rotate_left
        · intro w hw
          go_simp
          try with_reducible rfl
        try simp only [Act.put, List.getElem_toArray, List.getElem_cons_succ, List.getElem_cons_zero, List.setIfInBounds_toArray, List.set_cons_zero, List.set_cons_succ]
        refine wpAnyH_take (i := 4) (v := ?_) rfl (by kernel_rfl) (by kernel_rfl) (by kernel_rfl) (fun _ _ _ h => h) (Or.inl ⟨by rfl, ?_⟩) hS ?_
        rotate_left
        · intro w hw
          go_simp
          try with_reducible rfl
        try simp only [Act.put, List.getElem_toArray, List.getElem_cons_succ, List.getElem_cons_zero, List.setIfInBounds_toArray, List.set_cons_zero, List.set_cons_succ]
        refine wpAnyH_take (i := 7) (v := ?_) rfl (by kernel_rfl) (by kernel_rfl) (by kernel_rfl) (fun _ _ _ h => h) (Or.inl ⟨by rfl, ?_⟩) hS ?_
        rotate_left
        · intro w hw
          obtain ⟨t0, t1, t2⟩ := HS.out.kb.later hw.out (by have := HS.out.pb.lt; omega)
          go_simp
          try with_reducible rfl
        try simp only [Act.put, List.getElem_toArray, List.getElem_cons_succ, List.getElem_cons_zero, List.setIfInBounds_toArray, List.set_cons_zero, List.set_cons_succ]
        refine wpAnyH_ready (rs := [5]) (by kernel_rfl) (by simp) ?_
        refine AllReadyH.cons rfl (fun K hK => ?_) AllReadyH.nil
        go_simp
        refine (entry_at x (H.out.lay.below (HS.out.below.trans (hS.out.mono HS.out.below.size))) hx1 hxn).mono ?_
        rintro e W1 ⟨rfl, hb1⟩
        have HB1 := Lib.hid (hS.out.trans (hb1.mono hS.out.size))
        clear hb1
        go_wp2_with fail
        refine hK.out _ _ HB1 (fun _ => ?_)
        clear hK K hS
        refine wpAnyH_other (S' := fun w' => Hid (Below W1.heap.size W1 w')) (fun w hw => Lib.hid (HB1.out.trans (hw.out.mono HB1.out.size))) _ _ _ _ ?_
        have hS : Hid (Below W1.heap.size W1 W1) := Lib.hid (Below.refl _ _)
        try simp only [Act.put, List.getElem_toArray, List.getElem_cons_succ, List.getElem_cons_zero, List.setIfInBounds_toArray, List.set_cons_zero, List.set_cons_succ]
        refine wpAnyH_take (i := 6) (v := ?_) rfl (by kernel_rfl) (by kernel_rfl) (by kernel_rfl) (fun _ _ _ h => h) (Or.inl ⟨by rfl, ?_⟩) hS ?_
        rotate_left
        · intro w hw
          go_simp
          try with_reducible rfl
        try simp only [Act.put, List.getElem_toArray, List.getElem_cons_succ, List.getElem_cons_zero, List.setIfInBounds_toArray, List.set_cons_zero, List.set_cons_succ]
        refine wpAnyH_ready (rs := [8]) (by kernel_rfl) (by simp) ?_
        refine AllReadyH.cons rfl (fun K hK => ?_) AllReadyH.nil
        go_simp
        have hwa : Below w.heap.size w W1 := HS.out.below.trans (HB1.out.mono HS.out.below.size)
        refine (cmp_any n.d.ka A n.d.kc c n.d.k k W1 ((H.out.lay.below hwa).at_ hxn) (HK.out.next hwa)).mono ?_
        rintro e W2 ⟨rfl, hb2⟩
        have HB2 := Lib.hid hb2
        clear hb2 hwa
        go_wp2_with fail
        refine hK.out _ _ HB2 (fun _ => ?_)
        clear hK K hS
        refine wpAnyH_other (S' := fun w' => Hid (Below W2.heap.size W2 w')) (fun w hw => Lib.hid (HB2.out.trans (hw.out.mono HB2.out.size))) _ _ _ _ ?_
        have hS : Hid (Below W2.heap.size W2 W2) := Lib.hid (Below.refl _ _)
        try simp only [Act.put, List.getElem_toArray, List.getElem_cons_succ, List.getElem_cons_zero, List.setIfInBounds_toArray, List.set_cons_zero, List.set_cons_succ]
        refine wpAnyH_take (i := 9) (v := ?_) rfl (by kernel_rfl) (by kernel_rfl) (by kernel_rfl) (fun _ _ _ h => h) (Or.inl ⟨by rfl, ?_⟩) hS ?_
        rotate_left
        · intro w hw
          go_simp
          try with_reducible rfl
        try simp only [Act.put, List.getElem_toArray, List.getElem_cons_succ, List.getElem_cons_zero, List.setIfInBounds_toArray, List.set_cons_zero, List.set_cons_succ]
        refine wpAnyH_take (i := 10) (v := ?_) rfl (by kernel_rfl) (by kernel_rfl) (by kernel_rfl) (fun _ _ _ h => h) (Or.inl ⟨by rfl, ?_⟩) hS ?_
        rotate_left
        · intro w hw
          go_simp
          try with_reducible rfl
        try simp only [Act.put, List.getElem_toArray, List.getElem_cons_succ, List.getElem_cons_zero, List.setIfInBounds_toArray, List.set_cons_zero, List.set_cons_succ]
        refine wpAnyH_done (by kernel_rfl) ?_ _
        have HS2 := Lib.hid ((HS.out.up HB1.out).up HB2.out)
        have HST := Lib.hid (HS2.out.set at')
        obtain ⟨c0, f0, -, -, -, -⟩ := HST.out
        generalize ps.getD i 0 = pv at c0
        rcases i with _ | i
        · have hM := path_done HS2.out.pl HS2.out.hp HSP.out
          have HP5 := Lib.hid (show Lift.Box (W2.setCell ⟨w.heap.size + 2, 0, none⟩ (.int .i64 (at' : Int))) (w.heap.size + 2) 60 (ints ((List.range 12).map (stop L k))) by rw [← hM]; exact HST.out.2.2.1)
          have HP4 := Lib.hid HST.out.2.2.2.1
          have HP0 := Lib.hid HST.out.2.2.2.2.2
          clear hM HST
          go_wp2_with (first | (refine wpList_store_row rfl _ _ _ rfl (w.heap.size + 1) (ints ((List.range 12).map (stop L k))).toArray rfl rfl _ (ints zs12).toArray HP4.out (by kernel_rfl) (by kernel_rfl) (by kernel_rfl) ?_) | (refine wpList_load_row rfl _ _ rfl (w.heap.size + 2) rfl _ (ints ((List.range 12).map (stop L k))).toArray (0, 0) _ HP5.out Try.underlying60 rfl (by kernel_rfl) ?_))
          have hbx : Lift.Box ((W2.setCell ⟨w.heap.size + 2, 0, none⟩ (.int .i64 (at' : Int))).setRow (w.heap.size + 1) (ints ((List.range 12).map (stop L k))).toArray) (w.heap.size + 1) 60 (ints ((List.range 12).map (stop L k))) := setRow_heap _ _ _ _ _ _ HP4.out
          rw [jumps_ret]
          refine bodyPost_ret (results_one rfl Try.underlying60 rfl (by kernel_rfl) _ rfl hbx) rfl ?_
          exact ⟨rfl, below_setRow HP0.out (by omega) _⟩
        · go_wp2_with fail
          go_step3
          obtain ⟨u', v', hu1, hs3⟩ := HS2.out.down HSP.out
          change JP w g L A c k 0 _ _ ∧ muP L k _ _ _ < muP L k _ _ _
          refine ⟨⟨rfl, i, at', u', v', ps.set (i + 1) at', _, _, _, _, _, _, _, _, _, _, _, _, _, _, _, _, _, _, _, _, _, _, _, _, _, _, hs3, hu1, rfl⟩, ?_⟩
          rw [mu_eq L k _ i at' _ _ rfl rfl, mu_eq L k _ (i + 1) at' _ _ rfl rfl]
          have h1 := H.out.mu hs3.hu
          rw [← hu1] at h1
          rw [h1.1]
          omega
end Go.Proofs.Ytmnhklfljfglhaa.Sk
